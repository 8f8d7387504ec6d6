/- the reference 14: Get; GraphAsks (mkgsk.py) -/
import Derived.Test.YtijemcfnlbapjaaGreatDoorJ30
import Derived.Test.YtijemcfnlbapjaaGreatDoorJ32
import Derived.Test.YtijemcfnlbapjaaGreatDoorJ34
import Derived.Test.YtijemcfnlbapjaaGreatDoorJ36
import Derived.Laws.Cover3
/-! the reference 14: Get; GraphAsks (mkgsk.py) -/
namespace Go.Proofs.YtijemcfnlbapjaaGreatDoor
open Go Go.RowKit Go.ChangeShapes Go.WideShapes
namespace Gr
abbrev rn0 : Rn := ⟨⟨none, 0, 0, none, 0, 0, tx0⟩, List.replicate 32 0#8, 0⟩
def rget (L : List Rn) (id : List (BitVec 8)) : Rn := (rfnd L id).getD rn0
abbrev zRn : Array Value := #[.slice none 0 0, .slice none 0 0, .bool false, .int .u8 0, .int .u8 0, .int .u8 0, .int .u8 0, .int .u8 0, .int .u8 0, .int .u8 0, .int .u8 0, .int .u8 0, .int .u8 0, .int .u8 0, .int .u8 0, .int .u8 0, .int .u8 0, .int .u8 0, .int .u8 0, .int .u8 0, .int .u8 0, .int .u8 0, .int .u8 0, .int .u8 0, .int .u8 0, .int .u8 0, .int .u8 0, .int .u8 0, .int .u8 0, .int .u8 0, .int .u8 0, .int .u8 0, .int .u8 0, .int .u8 0, .int .u8 0, .int .i64 0]
theorem size_rn : (Tryz.prog.info? 50).map (·.size) = some rnRec.k := by kernel_rfl
theorem rn0_ok : rnRec.ok rn0 := rfl
end Gr
set_option maxRecDepth 100000 in
set_option maxHeartbeats 8000000 in
theorem rget14_any (a : Option Addr) (n q : Nat) (L : List Gr.Rn) (id : List (BitVec 8)) (hid : id.length = 32) (w : World) (h : Recs Gr.rnRec w a n L) (hnd : (L.map (·.id)).Nodup) :
    Calls Tryz.prog 16 #[.slice a n q, .agg (blist id).toArray] w fun e w' => e = .returned (.tuple #[.agg (Gr.rnCells (Gr.rget L id)).toArray, .bool (Gr.rfnd L id).isSome]) ∧ Below w.heap.size w w' := by
  obtain ⟨W1, hW1⟩ : ∃ ww, ww = (w.alloc (.cells (blist id).toArray 46)).alloc (.cells Gr.zRn 50) := ⟨_, rfl⟩
  have hB1 : Below w.heap.size w W1 := by rw [hW1]; exact ((Below.refl _ _).alloc (Nat.le_refl _) _).alloc (by simp) _
  have hP1 : Has W1 w.heap.size 46 (blist id).toArray := by rw [hW1]; exact (Has.fresh _ _ _).past _
  have hR1 : Has W1 (w.heap.size + 1) 50 Gr.zRn := by rw [hW1]; exact Has.fresh_at _ _ _ (by simp)
  have lP := hP1.load_agg (P := Tryz.prog) (t := 46) Tryz.underlying46 rfl (size_hs hid)
  have hbd := fun (w : World) => run_build (P := Tryz.prog) w 50 #[] Gr.zRn (by kernel_rfl)
  have hnmx : n ≤ 9223372036854775807 := h.2.1
  have HF := Lib.hid (rfind14_any a n q L id hid W1 (h.below hB1))
  have HH := Lib.hid (h.below hB1)
  have HND := Lib.hid hnd
  have HW := Lib.hid hW1
  have HB1 := Lib.hid hB1
  have HR1 := Lib.hid hR1
  clear hW1 hB1 hP1 hR1 h hnd
  go_enter Tryz.func16, Tryz.ntmps16
  go_upto_region 1 with fail
  rw [← HW.out]
  go_upto_region 2 with (first
    | (go_at_call 58; refine HF.out.mono ?_; rintro e w2 ⟨z, rfl, hz, hb2⟩)
    | (refine wpList_load_run rfl 46 (.tmp 3) rfl _ _ rfl lP ?_))
  have hRr := HR1.out.under hb2 HR1.out.lt
  rcases hz with ⟨rfl, hno⟩ | ⟨ix, X, rfl, hX, hXid⟩
  · have HE := Lib.hid (show Gr.rfnd L id = none from List.find?_eq_none.2 fun x hx => by rw [decide_eq_true_eq]; exact fun e => hno x hx e.symm)
    have hm1 : (-1 : Int) < 0 := by decide
    clear hno
    go_wp2_with (refine wpList_store_mid rfl 50 (.tmp 4) (.tmp 12) rfl (w.heap.size + 1) 0 Gr.zRn rfl rfl (hRr.there 0 36 (Nat.le_refl _)) (by kernel_rfl) (by kernel_rfl) ?_)
    have hE := hRr.whole_cs (cs2 := Gr.zRn) rfl
    exact bodyPost_ret (results_cellslot rfl _ _ (w.heap.size + 1) rfl _ _ (hE.load_var Tryz.underlying50 rfl (by kernel_rfl)) rfl) rfl ⟨by rw [Gr.rget, HE.out]; rfl, below_setAll (by omega) _ 0 (HB1.out.trans (hb2.mono HB1.out.size))⟩
  · have HE := Lib.hid (Gr.rfnd_is HND.out hX hXid)
    have hix : ix < n := by rw [← HH.out.1]; exact (List.getElem?_eq_some_iff.1 hX).1
    have hxi : (ix : Int) < (n : Int) := by omega
    have hx0 : (0 : Int) ≤ (ix : Int) := by omega
    have hxn : ¬ (ix : Int) < 0 := by omega
    obtain ⟨ad, rfl, _⟩ := HH.out.2.2.2 ix X hX
    have HXO := Lib.hid (show Gr.rnRec.ok X from HH.out.okay hX)
    have lA := rn_lall (HH.out.below hb2) hX
    clear hX hXid
    go_wp2_with (first
      | (refine wpList_store_mid rfl 50 (.tmp 4) (.tmp 16) rfl (w.heap.size + 1) 0 (Gr.rnCells X).toArray rfl rfl (hRr.there 0 (Gr.rnCells X).toArray.size (by rw [List.size_toArray, show (Gr.rnCells X).length = 36 from Gr.rnRec.len X HXO.out]; exact Nat.le_refl 36)) (Gr.rnRec.size_eq Gr.size_rn HXO.out) (Gr.rnRec.all_one X) ?_)
      | (refine wpList_load_run rfl 50 (.tmp 15) rfl _ _ rfl lA ?_))
    have hE := hRr.whole_cs (cs2 := (Gr.rnCells X).toArray) (by rw [List.size_toArray, show (Gr.rnCells X).length = 36 from Gr.rnRec.len X HXO.out]; rfl)
    exact bodyPost_ret (results_cellslot rfl _ _ (w.heap.size + 1) rfl _ _ (hE.load_var Tryz.underlying50 rfl (Gr.rnRec.size_eq Gr.size_rn HXO.out)) rfl) rfl ⟨by rw [Gr.rget, HE.out]; rfl, below_setAll (by omega) _ 0 (HB1.out.trans (hb2.mono HB1.out.size))⟩
namespace Gr
section
variable {W w w' : World} {g bn bs : Nat} {M : List Nd} {nx : Nat} {xa : Option Addr} {xn xq : Nat} {L : List Rn}
theorem Pl.nodup (h : Pl W w g bn bs M nx xa xn xq L) : (L.map (·.id)).Nodup := by
  rw [← h.sim.ids]
  obtain ⟨es, clock, _, _, hn, _⟩ := h.ga.grp.map
  rw [ents, List.map_map] at hn
  exact hn
theorem Pl.twin (h : Pl W w g bn bs M nx xa xn xq L) {y : Rn} (hy : y ∈ L) : ∃ x, x ∈ M ∧ x.key = y.key := by
  have h1 : y.key ∈ M.map Nd.key := by rw [show M.map Nd.key = L.map Rn.key from h.sim]; exact List.mem_map.2 ⟨y, hy, rfl⟩
  obtain ⟨x, hx, e⟩ := List.mem_map.1 h1
  exact ⟨x, hx, e⟩
theorem Pl.good (h : Pl W w g bn bs M nx xa xn xq L) (hb : Below W.heap.size W w) : ∀ y, y ∈ L → y.v.At w ∧ Tx.Small y.v.t ∧ Am.Good y.fee := fun y hy => by
  obtain ⟨x, hx, e⟩ := h.twin hy
  have e1 : x.x.t = y.v.t := congrArg (fun k : Key => k.1) e
  have e2 : x.fee = y.fee := congrArg (fun k : Key => k.2.2) e
  exact ⟨TxAt.below (h.va y hy) hb, e1 ▸ (h.ga.grp.nd x hx).sm, e2 ▸ (h.ok x hx).1⟩
theorem Sim.get (h : Sim M L) (id : List (BitVec 8)) : getT M id = (rget L id).v.t ∧ (Gr.find M id).isSome = (rfnd L id).isSome := by
  have h1 := h.fnd id
  unfold getT rget
  cases ha : Gr.find M id with
  | none =>
    rw [ha] at h1
    cases hb : rfnd L id with
    | none => exact ⟨rfl, rfl⟩
    | some y => rw [hb] at h1; cases h1
  | some x =>
    rw [ha] at h1
    cases hb : rfnd L id with
    | none => rw [hb] at h1; cases h1
    | some y =>
      rw [hb] at h1
      exact ⟨congrArg (fun k : Key => k.1) (Option.some.inj h1), rfl⟩
theorem Sim.spdv (h : Sim M L) (p : Cs.Pt) : spdI M p = rspI L p ∧ (Gr.spd M p).isSome = (rspd L p).isSome := by
  have h1 := h.spd p
  unfold spdI rspI
  cases ha : Gr.spd M p with
  | none =>
    rw [ha] at h1
    cases hb : rspd L p with
    | none => exact ⟨rfl, rfl⟩
    | some y => rw [hb] at h1; cases h1
  | some x =>
    rw [ha] at h1
    cases hb : rspd L p with
    | none => rw [hb] at h1; cases h1
    | some y =>
      rw [hb] at h1
      exact ⟨congrArg (fun k : Key => k.2.1) (Option.some.inj h1), rfl⟩
theorem rget_at (h : Pl W w g bn bs M nx xa xn xq L) (hb : Below W.heap.size W w) (id : List (BitVec 8)) : (rget L id).v.At w ∧ rnRec.ok (rget L id) := by
  unfold rget
  cases hf : rfnd L id with
  | none => exact ⟨tx0_at w, rn0_ok⟩
  | some y =>
    have hy := List.mem_of_find?_eq_some hf
    exact ⟨TxAt.below (h.va y hy) hb, h.r.2.2.1 y hy⟩
theorem Sim.cfls (h : Sim M L) (hA : At w g bn bs M nx) {t : Tx.T} {G : List Nd} (hG : G.Pairwise (fun x y => x.pl < y.pl)) (hm : ∀ z, z ∈ G ↔ z ∈ M ∧ ∃ s, s ∈ t.sp ∧ Gr.cfl M (Tx.idOf false t) (pt s) = some z) : G.map (·.id) = rconf L t := by
  refine h.those hA.ord hG (fun k => decide (k.2.1 ∈ (t.sp.map pt).filterMap (rcfl L (Tx.idOf false t)))) fun z => ?_
  rw [hm]
  refine and_congr_right fun hz => ?_
  have hc : ∀ s, Gr.cfl M (Tx.idOf false t) (pt s) = some z ↔ rcfl L (Tx.idOf false t) (pt s) = some z.id := fun s => by
    have h1 := h.spd (pt s)
    rw [cfl_some]
    unfold rcfl
    cases ha : Gr.spd M (pt s) with
    | none =>
      rw [ha] at h1
      cases hb : rspd L (pt s) with
      | none => simp
      | some y => rw [hb] at h1; cases h1
    | some x =>
      rw [ha] at h1
      cases hb : rspd L (pt s) with
      | none => rw [hb] at h1; cases h1
      | some y =>
        rw [hb] at h1
        have e : x.id = y.id := congrArg (fun k : Key => k.2.1) (Option.some.inj h1)
        constructor
        · rintro ⟨e1, e2⟩
          obtain rfl := Option.some.inj e1
          rw [e] at e2 ⊢
          simp [Option.filter, e2]
        · intro e1
          obtain ⟨y2, e2, e3⟩ := Option.map_eq_some_iff.1 e1
          obtain ⟨e4, e5⟩ := Option.filter_eq_some_iff.1 e2
          obtain rfl := Option.some.inj e4
          have e6 : x = z := hA.grp.inj x z (spd_mem ha).1 hz (e.trans e3)
          subst e6
          exact ⟨rfl, by rw [e]; exact of_decide_eq_true e5⟩
  rw [decide_eq_true_eq, List.mem_filterMap]
  constructor
  · rintro ⟨s, hs, e⟩
    exact ⟨pt s, List.mem_map.2 ⟨s, hs, rfl⟩, (hc s).1 e⟩
  · rintro ⟨p, hp, e⟩
    obtain ⟨s, hs, rfl⟩ := List.mem_map.1 hp
    exact ⟨s, hs, (hc s).2 e⟩
end
def IdsV (v : Value) (I : List (List (BitVec 8))) (w : World) : Prop := ∃ (a : Option Addr) (n q : Nat), v = .slice a n q ∧ Recs hsRec w a n I
theorem IdsV.of {B : Nat} {v : Value} {I : List (List (BitVec 8))} {w : World} (h : OwnR hsRec 46 B w v I) : IdsV v I w := by
  obtain ⟨a, c, e, _, _, _, hr⟩ := h.shape rfl
  exact ⟨a, _, c, e, hr⟩
theorem rall_ex (up : Bool) (L : List Rn) (I : List (List (BitVec 8))) : ∃ l : List (List (BitVec 8)), (∀ K : List (List (BitVec 8)), (∀ id, id ∈ K ↔ RReach up L I id) → (L.filter fun x => decide (x.id ∈ K)).map (·.id) = l) ∧ ∃ K : List (List (BitVec 8)), ∀ id, id ∈ K ↔ RReach up L I id := by
  classical
  refine ⟨(L.filter fun x => decide (RReach up L I x.id)).map (·.id), fun K hK => ?_, (L.filter fun x => decide (RReach up L I x.id)).map (·.id), fun id => ⟨fun h => ?_, fun h => ?_⟩⟩
  · congr 1
    exact List.filter_congr fun x _ => decide_eq_decide.2 (hK x.id)
  · obtain ⟨x, hx, rfl⟩ := List.mem_map.1 h
    exact of_decide_eq_true (List.mem_filter.1 hx).2
  · obtain ⟨x, hx, rfl⟩ := List.mem_map.1 h.mem
    exact List.mem_map.2 ⟨x, List.mem_filter.2 ⟨hx, decide_eq_true h⟩, rfl⟩
theorem neq_self (E : List (BitVec 8)) : (!decide (E = E)) = false := by rw [decide_eq_true (rfl : E = E)]; rfl
theorem eql_nil (y : Addr) (n q : Nat) (w : World) : (binOp .eql 27 (.slice (some y) n q) (.slice none 0 0)).run Tryz.prog w = .ok (.bool false) w := by
  simp only [binOp]
  simp [run_equal_slice_nil w 27 50 (some y) n q Tryz.underlying27]
theorem rn_tx_at {w : World} {g : Nat} {x : Rn} (h : Has w g 50 (rnCells x).toArray) : (Instr.loadAt 34 (.pointer (some ⟨g, 0, none⟩))).run Tryz.prog w = .ok (txv x.v.a x.v.n x.v.q x.v.b x.v.m x.v.r x.v.t.firm) w :=
  Gr.load_mid h 0 (vCells x.v) (fun j v hj => by
    rw [Nat.zero_add, List.getElem?_toArray]
    exact rn_tx j v hj) Tryz.underlying34 rfl (by kernel_rfl)
end Gr
set_option maxRecDepth 100000 in
set_option maxHeartbeats 32000000 in
theorem gaskMain (a : Option Addr) (n q : Nat) (K : List Gr.Ac) (b : Option Addr) (m r : Nat) (I : List (List (BitVec 8))) (ta : Option Addr) (tn tq : Nat) (tb : Option Addr) (tm tr : Nat) (t : Tx.T) (W : World) (ha : Recs (Gr.acIn14 W) W a n K) (hi : Recs Gr.hsRec W b m I) (ht : TxAt W ta tn tq tb tm tr t) (hK : KDg W) (hT : Tab32 W 1 Dg.kL) :
    Calls Tryz.prog 4 #[.slice a n q, .slice b m r, txv ta tn tq tb tm tr t.firm] W fun e w' => e = .returned (.bool true) ∧ Below W.heap.size W w' := by
  have HLA := Lib.hid ha
  have HLI := Lib.hid hi
  have HTX := Lib.hid ht
  have HKD := Lib.hid (And.intro hK hT)
  have hnmx : n ≤ 9223372036854775807 := ha.2.1
  have hmmx : m ≤ 9223372036854775807 := hi.2.1
  obtain ⟨W1, hW1⟩ : ∃ ww, ww = W.alloc (.cells #[.slice ta tn tq, .slice tb tm tr, .bool t.firm] 34) := ⟨_, rfl⟩
  have hB1 : Below W.heap.size W W1 := by rw [hW1]; exact (Below.refl _ _).alloc (Nat.le_refl _) _
  have hX : Has W1 W.heap.size 34 #[.slice ta tn tq, .slice tb tm tr, .bool t.firm] := by rw [hW1]; exact Has.fresh _ _ _
  have HX := Lib.hid (fun (w' : World) (hb : Below W1.heap.size W1 w') => (hX.under hb hX.lt).load_agg (P := Tryz.prog) (t := 34) Tryz.underlying34 rfl (by kernel_rfl))
  have HXH := Lib.hid (fun (w' : World) (hb : Below W1.heap.size W1 w') => hX.under hb hX.lt)
  have HTS := Lib.hid (show ∀ w', Below W.heap.size W w' → Txs (w'.alloc (.cells #[.slice ta tn tq, .slice tb tm tr, .bool t.firm] 34)) (some ⟨w'.heap.size, 0, none⟩) 1 [⟨ta, tn, tq, tb, tm, tr, t⟩] from fun w' hb =>
    ⟨recs_fresh (R := vRec) (fun _ _ => trivial) (Has.fresh _ _ _) (by show 1 ≤ maxLen; unfold maxLen; omega) (fun j v hj => by rw [List.getElem?_toArray]; exact hj),
      fun x hx => by
        obtain rfl := List.mem_singleton.1 hx
        exact HTX.out.below (hb.alloc hb.size _)⟩)
  have HW := Lib.hid hW1
  have HB1 := Lib.hid hB1
  have HAL := Lib.hid (alive14 W1 (hK.below hB1))
  clear ha hi ht hK hT hX hW1 hB1
  go_enter Tryz.func4, Tryz.ntmps4
  go_upto_region 1 with fail
  rw [← HW.out]
  go_upto_region 3 with (go_at_call 7; refine HAL.out.mono ?_; rintro e w2 ⟨rfl, hb2⟩)
  have hT2 := HB1.out.trans (hb2.mono HB1.out.size)
  have H12 := Lib.hid hb2
  by_cases hm30 : m ≤ 30
  · have hmi : ¬ (30 : Int) < (m : Int) := by omega
    go_upto_region 5 with (first
      | (go_at_call 12; refine (large_any _ 1 1 _ _ (HTS.out w3 hT3)).mono ?_; rintro e w5 ⟨bl, rfl, hsm, hb5⟩; have HSM := Lib.hid hsm; clear hsm; have hT5 := (hT3.alloc hT3.size _).trans (hb5.mono (hT3.alloc hT3.size _).size))
      | (go_at_call 8; refine (glong_any a n q K w2 (HLA.out.below hT2) hT2).mono ?_; rintro e w3 ⟨z1, rfl, hz1, hb3⟩; have HZ1 := Lib.hid hz1; clear hz1; have hT3 := hT2.trans (hb3.mono hT2.size); have hX3 := HXH.out w3 (H12.out.trans (hb3.mono H12.out.size)); have d0 := hX3.cell_at (i := 0) (v := .slice ta tn tq) rfl; have d1 := hX3.cell_at (i := 1) (v := .slice tb tm tr) rfl; have d2 := hX3.cell_at (i := 2) (v := .bool t.firm) rfl))
    all_goals try (go_ret; first | exact ⟨rfl, hT5⟩ | exact ⟨rfl, hT3⟩)
    have hz1f : z1 = false := by first | rfl | assumption | simp_all
    have hblf : bl = false := by first | rfl | assumption | simp_all
    have HF := Lib.hid (HZ1.out hz1f)
    have HST := Lib.hid ((HSM.out hblf).2 _ List.mem_cons_self)
    have HT5 := Lib.hid hT5
    have H15 := Lib.hid (show Below W1.heap.size W1 w5 from by
      have h13 := H12.out.trans (hb3.mono H12.out.size)
      exact (h13.alloc h13.size _).trans (hb5.mono (h13.alloc h13.size _).size))
    have hn31 : n ≤ 31 := by rw [← HLA.out.1]; exact HF.out.1
    clear hz1f hblf HZ1 HSM hb2 hb3 hb5 hT2 hT3 hT5 hX3 d0 d1 d2
    have HNW := Lib.hid (gnew_any w5)
    go_upto_region 6 with (go_at_call 9; refine HNW.out.mono ?_; rintro e w6 ⟨rfl, hA6, hb6⟩)
    obtain ⟨g, hg⟩ : ∃ u, u = w5.heap.size + 2 := ⟨_, rfl⟩
    obtain ⟨bn, hbn⟩ : ∃ u, u = w5.heap.size := ⟨_, rfl⟩
    obtain ⟨bs, hbs⟩ : ∃ u, u = w5.heap.size + 1 := ⟨_, rfl⟩
    rw [← hg, ← hbs, ← hbn] at hA6
    rw [← hg]
    have h67 : Below w6.heap.size w6 (w6.alloc (.cells #[] 50)) := (Below.refl _ _).alloc (Nat.le_refl _) _
    have hE := (OwnR.empty (R := Gr.rnRec) (T := 50) (B := w6.heap.size) (w1 := w6.alloc (.cells #[] 50)) (g := w6.heap.size) (Nat.le_refl _) (Has.fresh _ _ _)).recs
    have hl3 := hA6.lt3
    have hW5 := HT5.out.size
    have HB7 := Lib.hid (show Below W.heap.size W (w6.alloc (.cells #[] 50)) from (HT5.out.trans (hb6.mono HT5.out.size)).trans (h67.mono (Nat.le_trans HT5.out.size hb6.size)))
    have HP0 := Lib.hid (show Gr.Pl W (w6.alloc (.cells #[] 50)) g bn bs [] 0 (some ⟨w6.heap.size, 0, none⟩) 0 0 [] from
      ⟨hA6.below h67, hE.1, hE.2, fun x e => by (injection e with e; subst e; exact ⟨by show w6.heap.size ≠ g; omega, by show w6.heap.size ≠ bn; omega, by show w6.heap.size ≠ bs; omega, by show w6.heap.size < _; simp⟩), rfl, (fun _ h => by cases h), (fun _ h => by cases h), ⟨by omega, by omega, by omega⟩⟩)
    have HPL := Lib.hid (gplay_any HP0.out HB7.out (by simp) a n q K HLA.out HF.out.2 (by omega) HKD.out.1 HKD.out.2)
    have H57 := Lib.hid (show Below w5.heap.size w5 (w6.alloc (.cells #[] 50)) from hb6.trans (h67.mono hb6.size))
    have HG5 := Lib.hid (show w5.heap.size ≤ g ∧ w5.heap.size ≤ bn ∧ w5.heap.size ≤ bs from ⟨by omega, by omega, by omega⟩)
    clear hA6 hb6 hg hbn hbs h67 hE hl3
    go_upto_region 9 with (go_at_call 10; refine HPL.out.mono ?_; rintro e w8 ⟨ya, yn, yq, M, nx, L, rfl, hP8, hm8, hnx8, hne8, _⟩; obtain ⟨y, rfl⟩ := Option.ne_none_iff_exists'.1 hne8; clear hne8; have hnil := Gr.eql_nil y yn yq)
    have HB8 := Lib.hid (show Below W.heap.size W w8 from HB7.out.trans (hm8.below (Gr.f3_low HP0.out) HB7.out.size))
    have H58 := Lib.hid (show Below w5.heap.size w5 w8 from H57.out.trans (hm8.below (fun j hj => by have := HG5.out; rcases hj with e | e | e <;> omega) H57.out.size))
    have HP8 := Lib.hid hP8
    obtain ⟨RV, hRV⟩ : ∃ v, v = Gr.rrateV L I := ⟨_, rfl⟩
    obtain ⟨F, hF⟩ : ∃ v, v = RV.1 := ⟨_, rfl⟩
    obtain ⟨V, hV⟩ : ∃ v, v = RV.2.1 := ⟨_, rfl⟩
    obtain ⟨Z, hZ⟩ : ∃ v, v = RV.2.2 := ⟨_, rfl⟩
    have HRA := Lib.hid (show Calls Tryz.prog 13 #[.pointer (some ⟨g, 0, none⟩), .slice b m r] w8 fun e w' => e = .returned (.tuple #[.agg #[.int .i64 F, .int .i64 V], errn Z]) ∧ Below w8.heap.size w8 w' from by
      have := gRate_any HP8.out.ga HP8.out.ok b m r I (HLI.out.below HB8.out) (by omega)
      rw [HP8.out.sim.rate HP8.out.ok I, ← hRV, ← hF, ← hV, ← hZ] at this
      exact this)
    have HRB := Lib.hid (show ∀ w', Below w8.heap.size w8 w' → Calls Tryz.prog 14 #[.slice (some y) yn yq, .slice b m r] w' fun e w2 => e = .returned (.tuple #[.agg #[.int .i64 F, .int .i64 V], .int .i64 Z]) ∧ Below w'.heap.size w' w2 from fun w' hb => by
      have hb2 := HB8.out.trans (hb.mono HB8.out.size)
      have := rrate14_any (some y) yn yq L b m r I w' ((HP8.out.below hb).r) (HLI.out.below hb2) ((HP8.out.below hb).good hb2) (by have := HP8.out.len; omega)
      rw [← hRV, ← hF, ← hV, ← hZ] at this
      exact this)
    clear hP8 hm8 hnx8 hRV hF hV hZ HPL HP0
    go_upto_region 10 with (first
      | (go_at_call 13; refine HRA.out.mono ?_; rintro e w9 ⟨rfl, hb9⟩))
    obtain ⟨wa, hwa⟩ : ∃ u, u = w9.alloc (.cells #[.int .i64 F, .int .i64 V] 37) := ⟨_, rfl⟩
    have hba : Below w9.heap.size w9 wa := by rw [hwa]; exact (Below.refl _ _).alloc (Nat.le_refl _) _
    have hGa : Has wa w9.heap.size 37 #[.int .i64 F, .int .i64 V] := by rw [hwa]; exact Has.fresh _ _ _
    rw [← hwa]
    obtain ⟨ga, hga⟩ : ∃ u, u = w9.heap.size := ⟨_, rfl⟩
    rw [← hga] at hGa ⊢
    have HGa := Lib.hid hGa
    have H8a := Lib.hid (hb9.trans (hba.mono hb9.size))
    clear hwa hba hGa hga hb9
    go_upto_region 11 with (first
      | (go_at_call 14; refine (HRB.out wa H8a.out).mono ?_; rintro e wb ⟨rfl, hbb⟩))
    obtain ⟨wc, hwc⟩ : ∃ u, u = wb.alloc (.cells #[.int .i64 F, .int .i64 V] 42) := ⟨_, rfl⟩
    have hbc : Below wb.heap.size wb wc := by rw [hwc]; exact (Below.refl _ _).alloc (Nat.le_refl _) _
    have hGc : Has wc wb.heap.size 42 #[.int .i64 F, .int .i64 V] := by rw [hwc]; exact Has.fresh _ _ _
    rw [← hwc]
    obtain ⟨gc, hgc⟩ : ∃ u, u = wb.heap.size := ⟨_, rfl⟩
    rw [← hgc] at hGc ⊢
    have HGc := Lib.hid hGc
    have HGac := Lib.hid (HGa.out.under (hbb.trans (hbc.mono hbb.size)) HGa.out.lt)
    have H8c := Lib.hid (H8a.out.trans ((hbb.trans (hbc.mono hbb.size)).mono H8a.out.size))
    clear hwc hbc hGc hgc hbb HRA HRB
    have HBc := Lib.hid (show Below W.heap.size W wc from HB8.out.trans (H8c.out.mono HB8.out.size))
    have HPc := Lib.hid (HP8.out.below H8c.out)
    have HXc := Lib.hid (HXH.out wc (H15.out.trans ((H58.out.trans (H8c.out.mono H58.out.size)).mono H15.out.size)))
    have HIc := Lib.hid (HLI.out.below HBc.out)
    have hnd := HPc.out.nodup
    have HND := Lib.hid hnd
    have HLN := Lib.hid (show yn ≤ 1000000 from by have := HPc.out.len; omega)
    clear hnd
    go_wp2
    go_loopw [60] (fun iv wr => ∃ (i : Nat), i ≤ m ∧ iv = .int .i64 i ∧ Below wc.heap.size wc wr) (fun iv _ => m - (intOf iv).toNat)
    case atStart => exact ⟨0, Nat.zero_le _, rfl, Below.refl _ _⟩
    case round =>
      obtain ⟨i, hi, rfl, hb⟩ := hrel
      by_cases hlt : i < m
      · have hii : (i : Int) < (m : Int) := by omega
        have hi0 : (0 : Int) ≤ (i : Int) := by omega
        obtain ⟨id, hid⟩ := HIc.out.get hlt
        have HIL := Lib.hid (show id.length = 32 from HIc.out.okay hid)
        obtain ⟨yb, rfl, _⟩ := HIc.out.2.2.2 i id hid
        have hl := Gr.hs_lid (HIc.out.below hb) hid
        have HB := Lib.hid hb
        clear hid
        go_upto_region 14 with (first
          | (refine wpList_store_mid rfl 46 (.tmp 14) (.tmp 63) rfl wr.heap.size 0 (blist id).toArray rfl rfl (Gr.hsRec.there wr 46 (by kernel_rfl) HIL.out) (Gr.hsRec.size_eq Gr.size_hsr HIL.out) (Gr.hsRec.all_one id) ?_)
          | (refine wpList_load_run rfl 46 (.tmp 62) rfl _ _ rfl hl ?_))
        obtain ⟨w1, hw1⟩ : ∃ u, u = (wr.alloc (.cells z32 46)).setCells wr.heap.size 0 (blist id) := ⟨_, rfl⟩
        obtain ⟨hD1, hb1⟩ := Rec.new (R := Gr.hsRec) (by kernel_rfl) HIL.out hw1
        rw [← hw1]
        obtain ⟨gd, hgd⟩ : ∃ u, u = wr.heap.size := ⟨_, rfl⟩
        rw [← hgd] at hD1 ⊢
        have HD := Lib.hid hD1
        have HLD := Lib.hid (fun (w' : World) (hb : Below w1.heap.size w1 w') => (HD.out.under hb HD.out.lt).load_agg (P := Tryz.prog) (t := 46) Tryz.underlying46 rfl (size_hs HIL.out))
        have HBc1 := Lib.hid (HB.out.trans (hb1.mono HB.out.size))
        have lD1 := HLD.out w1 (Below.refl _ _)
        obtain ⟨ok, hok⟩ : ∃ o, o = (Gr.rfnd L id).isSome := ⟨_, rfl⟩
        obtain ⟨X, hX⟩ : ∃ x, x = Gr.rget L id := ⟨_, rfl⟩
        have HGT := Lib.hid (show Gr.getT M id = X.v.t ∧ (Gr.find M id).isSome = ok from by rw [hX, hok]; exact HPc.out.sim.get id)
        have HGE := Lib.hid (show Calls Tryz.prog 15 #[.pointer (some ⟨g, 0, none⟩), .agg (blist id).toArray] w1 fun e w' => ∃ (xa : Option Addr) (xn xq : Nat) (xb : Option Addr) (xm xr : Nat), e = .returned (.tuple #[txv xa xn xq xb xm xr X.v.t.firm, .bool ok]) ∧ TxAt w' xa xn xq xb xm xr X.v.t ∧ Below w1.heap.size w1 w' from by
          have h9 := gGet_any (HPc.out.below HBc1.out).ga id HIL.out
          unfold Gr.GetPost at h9
          rw [HGT.out.1, HGT.out.2] at h9
          exact h9)
        have HXA := Lib.hid (show X.v.At wc ∧ Gr.rnRec.ok X from hX ▸ Gr.rget_at HPc.out HBc.out id)
        have HRG := Lib.hid (show ∀ w', Below wc.heap.size wc w' → Calls Tryz.prog 16 #[.slice (some y) yn yq, .agg (blist id).toArray] w' fun e w2 => e = .returned (.tuple #[.agg (Gr.rnCells X).toArray, .bool ok]) ∧ Below w'.heap.size w' w2 from fun w' hb => by
          rw [hX, hok]
          exact rget14_any (some y) yn yq L id HIL.out w' (HPc.out.below hb).r HND.out)
        clear hw1 hb1 hgd hD1 hl hb hok hX
        go_upto_region 15 with (first
          | (go_at_call 15; refine HGE.out.mono ?_; rintro e w2 ⟨xa, xn, xq, xb, xm, xr, rfl, hx2, hb2⟩)
          | (refine wpList_load_run rfl 46 (.tmp 14) rfl _ _ rfl lD1 ?_))
        obtain ⟨w3, hw3⟩ : ∃ u, u = w2.alloc (.cells #[.slice xa xn xq, .slice xb xm xr, .bool X.v.t.firm] 34) := ⟨_, rfl⟩
        have hb3 : Below w2.heap.size w2 w3 := by rw [hw3]; exact (Below.refl _ _).alloc (Nat.le_refl _) _
        have hG3 : Has w3 w2.heap.size 34 #[.slice xa xn xq, .slice xb xm xr, .bool X.v.t.firm] := by rw [hw3]; exact Has.fresh _ _ _
        rw [← hw3]
        obtain ⟨gx, hgx⟩ : ∃ u, u = w2.heap.size := ⟨_, rfl⟩
        rw [← hgx] at hG3 ⊢
        have HG3 := Lib.hid hG3
        have HXT := Lib.hid (hx2.below hb3)
        have H13 := Lib.hid (hb2.trans (hb3.mono hb2.size))
        have HBc3 := Lib.hid (HBc1.out.trans (H13.out.mono HBc1.out.size))
        have lD3 := HLD.out w3 H13.out
        clear hw3 hb2 hb3 hgx hG3 hx2 lD1 HGE
        go_upto_region 16 with (first
          | (refine wpList_store_mid rfl 50 (.tmp 17) (.tmp 74) rfl w4.heap.size 0 (Gr.rnCells X).toArray rfl rfl (Gr.rnRec.there w4 50 (by kernel_rfl) HXA.out.2) (Gr.rnRec.size_eq Gr.size_rn HXA.out.2) (Gr.rnRec.all_one X) ?_)
          | (go_at_call 16; refine (HRG.out w3 HBc3.out).mono ?_; rintro e w4 ⟨rfl, hb4⟩)
          | (refine wpList_load_run rfl 46 (.tmp 14) rfl _ _ rfl lD3 ?_))
        obtain ⟨w5x, hw5⟩ : ∃ u, u = (w4.alloc (.cells Gr.zRn 50)).setCells w4.heap.size 0 (Gr.rnCells X) := ⟨_, rfl⟩
        obtain ⟨hG5, hb5⟩ := Rec.new (R := Gr.rnRec) (t := X) (by kernel_rfl) HXA.out.2 hw5
        rw [← hw5]
        obtain ⟨gn, hgn⟩ : ∃ u, u = w4.heap.size := ⟨_, rfl⟩
        rw [← hgn] at hG5 ⊢
        obtain ⟨ws, hws⟩ : ∃ u, u = w5x.drew := ⟨_, rfl⟩
        have HN5 := Lib.hid (show Has ws gn 50 (Gr.rnCells X).toArray by rw [hws]; exact hG5.draw)
        have H3s := Lib.hid (show Below w3.heap.size w3 ws from by rw [hws]; exact (hb4.trans (hb5.mono hb4.size)).drew)
        have HBcs := Lib.hid (HBc3.out.trans (H3s.out.mono HBc3.out.size))
        have H1s := Lib.hid (H13.out.trans (H3s.out.mono H13.out.size))
        have lI := fun (wq : World) (hSw : Held ws wq) => HLD.out wq (H1s.out.trans (hSw.below.mono H1s.out.size))
        have lG := fun (wq : World) (hSw : Held ws wq) => ((HG3.out.under H3s.out HG3.out.lt).under hSw.below (HG3.out.under H3s.out HG3.out.lt).lt).load_agg (P := Tryz.prog) (t := 34) Tryz.underlying34 rfl (by kernel_rfl)
        have lN := fun (wq : World) (hSw : Held ws wq) => Gr.rn_tx_at (HN5.out.under hSw.below HN5.out.lt)
        have HEQ := Lib.hid (show ∀ w', Below ws.heap.size ws w' → Calls Tryz.prog 17 #[txv xa xn xq xb xm xr X.v.t.firm, txv X.v.a X.v.n X.v.q X.v.b X.v.m X.v.r X.v.t.firm] w' fun e w2 => e = .returned (.bool true) ∧ Below w'.heap.size w' w2 from fun w' hb => by
          have := txeq_any xa xn xq xb xm xr X.v.t X.v.a X.v.n X.v.q X.v.b X.v.m X.v.r X.v.t w' ((HXT.out.below H3s.out).below hb) (TxAt.below HXA.out.1 (HBcs.out.trans (hb.mono HBcs.out.size)))
          rwa [decide_eq_true (rfl : X.v.t = X.v.t)] at this)
        obtain ⟨PI, hPI⟩ : ∃ l, l = Gr.rnear true L id := ⟨_, rfl⟩
        obtain ⟨CI, hCI⟩ : ∃ l, l = Gr.rnear false L id := ⟨_, rfl⟩
        have HCA := Lib.hid (show (∀ w', Below ws.heap.size ws w' → Calls Tryz.prog 19 #[.pointer (some ⟨g, 0, none⟩), .agg (blist id).toArray] w' fun e w2 => ∃ v, e = .returned v ∧ Gr.IdsV v PI w2 ∧ Below w'.heap.size w' w2) ∧ (∀ w', Below ws.heap.size ws w' → Calls Tryz.prog 21 #[.pointer (some ⟨g, 0, none⟩), .agg (blist id).toArray] w' fun e w2 => ∃ v, e = .returned v ∧ Gr.IdsV v CI w2 ∧ Below w'.heap.size w' w2) from ⟨fun w' hb => by
            have hA := (HPc.out.below (HBcs.out.trans (hb.mono HBcs.out.size))).ga
            refine (gParents_any hA id HIL.out).mono ?_
            rintro e w2 ⟨v, G, rfl, ho, hw, hz, hb2⟩
            rw [HPc.out.sim.nearL HPc.out.ga hw hz, ← hPI] at ho
            exact ⟨v, rfl, Gr.IdsV.of ho, hb2⟩, fun w' hb => by
            have hA := (HPc.out.below (HBcs.out.trans (hb.mono HBcs.out.size))).ga
            refine (gChildren_any hA id HIL.out).mono ?_
            rintro e w2 ⟨v, G, rfl, ho, hw, hz, hb2⟩
            rw [HPc.out.sim.nearL HPc.out.ga hw hz, ← hCI] at ho
            exact ⟨v, rfl, Gr.IdsV.of ho, hb2⟩⟩)
        have HCB := Lib.hid (show (∀ w', Below ws.heap.size ws w' → Calls Tryz.prog 20 #[.slice (some y) yn yq, .agg (blist id).toArray] w' fun e w2 => ∃ v, e = .returned v ∧ Gr.IdsV v PI w2 ∧ Below w'.heap.size w' w2) ∧ (∀ w', Below ws.heap.size ws w' → Calls Tryz.prog 22 #[.slice (some y) yn yq, .agg (blist id).toArray] w' fun e w2 => ∃ v, e = .returned v ∧ Gr.IdsV v CI w2 ∧ Below w'.heap.size w' w2) from ⟨fun w' hb => by
            have hbw := HBcs.out.trans (hb.mono HBcs.out.size)
            refine (rparents14_any (some y) yn yq L id HIL.out w' (HPc.out.below hbw).r ((HPc.out.below hbw).vb (HBc.out.trans (hbw.mono HBc.out.size))) HLN.out HND.out).mono ?_
            rintro e w2 ⟨v, rfl, ho, hb2⟩
            rw [← hPI] at ho
            exact ⟨v, rfl, Gr.IdsV.of ho, hb2⟩, fun w' hb => by
            have hbw := HBcs.out.trans (hb.mono HBcs.out.size)
            refine (rchildren14_any (some y) yn yq L id HIL.out w' (HPc.out.below hbw).r ((HPc.out.below hbw).vb (HBc.out.trans (hbw.mono HBc.out.size))) HLN.out HND.out).mono ?_
            rintro e w2 ⟨v, rfl, ho, hb2⟩
            rw [← hCI] at ho
            exact ⟨v, rfl, Gr.IdsV.of ho, hb2⟩⟩)
        clear hPI hCI hb4 hw5 hG5 hb5 hgn lD3 HRG
        refine wp_region_held_drew (S := Held ws) (by kernel_rfl) (by rw [hws]; exact Held.refl _) (fun hHeld => ?_)
        rw [← hws] at hHeld ⊢
        clear hws
        refine take_at (v := ?_) 0 76 rfl rfl (by kernel_rfl) (by kernel_rfl) (by kernel_rfl) (fun _ _ _ h => h) hHeld (Or.inl ⟨by rfl, ?_⟩) rfl ?_
        rotate_left
        · intro wq hSw
          go_simp
          try with_reducible rfl
        simp only [List.set_cons_zero, List.set_cons_succ]
        refine take_at (v := ?_) 1 77 rfl rfl (by kernel_rfl) (by kernel_rfl) (by kernel_rfl) (fun _ _ _ h => h) hHeld (Or.inl ⟨by rfl, ?_⟩) rfl ?_
        rotate_left
        · intro wq hSw
          go_simp
          try with_reducible rfl
        simp only [List.set_cons_zero, List.set_cons_succ]
        refine take_at (v := ?_) 2 78 rfl rfl (by kernel_rfl) (by kernel_rfl) (by kernel_rfl) (fun _ _ _ h => h) hHeld (Or.inl ⟨by rfl, ?_⟩) rfl ?_
        rotate_left
        · intro wq hSw
          go_simp
          try with_reducible rfl
        simp only [List.set_cons_zero, List.set_cons_succ]
        refine take_at (v := ?_) 3 79 rfl rfl (by kernel_rfl) (by kernel_rfl) (by kernel_rfl) (fun _ _ _ h => h) hHeld (Or.inl ⟨by rfl, ?_⟩) rfl ?_
        rotate_left
        · intro wq hSw
          go_simp
          try with_reducible rfl
        simp only [List.set_cons_zero, List.set_cons_succ]
        refine take_at 4 80 rfl rfl (by kernel_rfl) (by kernel_rfl) (by kernel_rfl) (fun _ _ _ h => h) hHeld (yieldsIf_load_agg (by rfl) 34 (.tmp 15) rfl _ _ (by rfl) (fun wq hSw => lG wq hSw)) rfl ?_
        simp only [List.set_cons_zero, List.set_cons_succ]
        refine take_at (v := ?_) 5 81 rfl rfl (by kernel_rfl) (by kernel_rfl) (by kernel_rfl) (fun _ _ _ h => h) hHeld (Or.inl ⟨by rfl, ?_⟩) rfl ?_
        rotate_left
        · intro wq hSw
          go_simp
          try with_reducible rfl
        simp only [List.set_cons_zero, List.set_cons_succ]
        refine take_at 6 82 rfl rfl (by kernel_rfl) (by kernel_rfl) (by kernel_rfl) (fun _ _ _ h => h) hHeld (yieldsIf_load_agg (by rfl) 34 (.tmp 81) rfl _ _ (by rfl) (fun wq hSw => lN wq hSw)) rfl ?_
        simp only [List.set_cons_zero, List.set_cons_succ]
        refine wpAnyH_ready (rs := [7]) (by kernel_rfl) (by simp) ?_
        refine AllReadyH.cons rfl (fun K hK => ?_) AllReadyH.nil
        go_simp
        go_at_call 17
        refine (HEQ.out ws (Below.refl _ _)).mono ?_
        rintro e k1 ⟨rfl, hk1⟩
        refine hK.out _ _ (Held.of hk1) (fun _ => ?_)
        clear hK K
        try simp only [Act.put, List.setIfInBounds_toArray, List.set_cons_zero, List.set_cons_succ]
        replace hHeld := Held.of hk1
        refine take_at (v := ?_) 8 84 rfl rfl (by kernel_rfl) (by kernel_rfl) (by kernel_rfl) (fun _ _ _ h => h) hHeld (Or.inl ⟨by rfl, ?_⟩) rfl ?_
        rotate_left
        · intro wq hSw
          go_simp
          try with_reducible rfl
        simp only [List.set_cons_zero, List.set_cons_succ]
        refine take_at (v := ?_) 9 85 rfl rfl (by kernel_rfl) (by kernel_rfl) (by kernel_rfl) (fun _ _ _ h => h) hHeld (Or.inl ⟨by rfl, ?_⟩) rfl ?_
        rotate_left
        · intro wq hSw
          go_simp
          try with_reducible rfl
        simp only [List.set_cons_zero, List.set_cons_succ]
        refine take_at (v := ?_) 10 86 rfl rfl (by kernel_rfl) (by kernel_rfl) (by kernel_rfl) (fun _ _ _ h => h) hHeld (Or.inl ⟨by rfl, ?_⟩) rfl ?_
        rotate_left
        · intro wq hSw
          go_simp
          try with_reducible rfl
        simp only [List.set_cons_zero, List.set_cons_succ]
        refine take_at (v := ?_) 11 87 rfl rfl (by kernel_rfl) (by kernel_rfl) (by kernel_rfl) (fun _ _ _ h => h) hHeld (Or.inl ⟨by rfl, ?_⟩) rfl ?_
        rotate_left
        · intro wq hSw
          go_simp
          try with_reducible rfl
        simp only [List.set_cons_zero, List.set_cons_succ]
        refine take_at 12 88 rfl rfl (by kernel_rfl) (by kernel_rfl) (by kernel_rfl) (fun _ _ _ h => h) hHeld (yieldsIf_load_agg (by rfl) 46 (.tmp 14) rfl _ _ (by rfl) (fun wq hSw => lI wq hSw)) rfl ?_
        simp only [List.set_cons_zero, List.set_cons_succ]
        refine take_at (v := ?_) 14 90 rfl rfl (by kernel_rfl) (by kernel_rfl) (by kernel_rfl) (fun _ _ _ h => h) hHeld (Or.inl ⟨by rfl, ?_⟩) rfl ?_
        rotate_left
        · intro wq hSw
          go_simp
          try with_reducible rfl
        simp only [List.set_cons_zero, List.set_cons_succ]
        refine take_at 15 91 rfl rfl (by kernel_rfl) (by kernel_rfl) (by kernel_rfl) (fun _ _ _ h => h) hHeld (yieldsIf_load_agg (by rfl) 46 (.tmp 14) rfl _ _ (by rfl) (fun wq hSw => lI wq hSw)) rfl ?_
        simp only [List.set_cons_zero, List.set_cons_succ]
        refine wpAnyH_ready (rs := [13]) (by kernel_rfl) (by simp) ?_
        refine AllReadyH.cons rfl (fun K hK => ?_) AllReadyH.nil
        go_simp
        go_at_call 19
        refine (HCA.out.1 _ hHeld.below).mono ?_
        rintro e k2m ⟨_, rfl, ⟨ua, un, uq, rfl, hu⟩, hk2m⟩
        refine hK.out _ _ (hHeld.trans (Held.of hk2m)) (fun _ => ?_)
        clear hK K
        try simp only [Act.put, List.setIfInBounds_toArray, List.set_cons_zero, List.set_cons_succ]
        replace hHeld := hHeld.trans (Held.of hk2m)
        refine wpAnyH_ready (rs := [16]) (by kernel_rfl) (by simp) ?_
        refine AllReadyH.cons rfl (fun K hK => ?_) AllReadyH.nil
        go_simp
        go_at_call 20
        refine (HCB.out.1 _ hHeld.below).mono ?_
        rintro e k2 ⟨_, rfl, ⟨va, vn, vq, rfl, hv⟩, hk2⟩
        refine hK.out _ _ (hHeld.trans (Held.of hk2)) (fun _ => ?_)
        clear hK K
        try simp only [Act.put, List.setIfInBounds_toArray, List.set_cons_zero, List.set_cons_succ]
        replace hHeld := hHeld.trans (Held.of hk2)
        replace hu := hu.below hk2
        clear hk2m
        refine wpAnyH_ready (rs := [17]) (by kernel_rfl) (by simp) ?_
        refine AllReadyH.cons rfl (fun K hK => ?_) AllReadyH.nil
        go_simp
        go_at_call 18
        refine (Gr.hashes_same ua un uq va vn vq _ k2 hu hv).mono ?_
        rintro e k3 ⟨rfl, hk3⟩
        refine hK.out _ _ (hHeld.trans (Held.of hk3)) (fun _ => ?_)
        clear hK K
        try simp only [Act.put, List.setIfInBounds_toArray, List.set_cons_zero, List.set_cons_succ]
        replace hHeld := hHeld.trans (Held.of hk3)
        refine take_at (v := ?_) 18 94 rfl rfl (by kernel_rfl) (by kernel_rfl) (by kernel_rfl) (fun _ _ _ h => h) hHeld (Or.inl ⟨by rfl, ?_⟩) rfl ?_
        rotate_left
        · intro wq hSw
          go_simp
          try with_reducible rfl
        simp only [List.set_cons_zero, List.set_cons_succ]
        refine take_at (v := ?_) 19 95 rfl rfl (by kernel_rfl) (by kernel_rfl) (by kernel_rfl) (fun _ _ _ h => h) hHeld (Or.inl ⟨by rfl, ?_⟩) rfl ?_
        rotate_left
        · intro wq hSw
          go_simp
          try with_reducible rfl
        simp only [List.set_cons_zero, List.set_cons_succ]
        refine take_at (v := ?_) 20 96 rfl rfl (by kernel_rfl) (by kernel_rfl) (by kernel_rfl) (fun _ _ _ h => h) hHeld (Or.inl ⟨by rfl, ?_⟩) rfl ?_
        rotate_left
        · intro wq hSw
          go_simp
          try with_reducible rfl
        simp only [List.set_cons_zero, List.set_cons_succ]
        refine take_at (v := ?_) 21 97 rfl rfl (by kernel_rfl) (by kernel_rfl) (by kernel_rfl) (fun _ _ _ h => h) hHeld (Or.inl ⟨by rfl, ?_⟩) rfl ?_
        rotate_left
        · intro wq hSw
          go_simp
          try with_reducible rfl
        simp only [List.set_cons_zero, List.set_cons_succ]
        refine take_at 22 98 rfl rfl (by kernel_rfl) (by kernel_rfl) (by kernel_rfl) (fun _ _ _ h => h) hHeld (yieldsIf_load_agg (by rfl) 46 (.tmp 14) rfl _ _ (by rfl) (fun wq hSw => lI wq hSw)) rfl ?_
        simp only [List.set_cons_zero, List.set_cons_succ]
        refine take_at (v := ?_) 24 100 rfl rfl (by kernel_rfl) (by kernel_rfl) (by kernel_rfl) (fun _ _ _ h => h) hHeld (Or.inl ⟨by rfl, ?_⟩) rfl ?_
        rotate_left
        · intro wq hSw
          go_simp
          try with_reducible rfl
        simp only [List.set_cons_zero, List.set_cons_succ]
        refine take_at 25 101 rfl rfl (by kernel_rfl) (by kernel_rfl) (by kernel_rfl) (fun _ _ _ h => h) hHeld (yieldsIf_load_agg (by rfl) 46 (.tmp 14) rfl _ _ (by rfl) (fun wq hSw => lI wq hSw)) rfl ?_
        simp only [List.set_cons_zero, List.set_cons_succ]
        refine wpAnyH_ready (rs := [23]) (by kernel_rfl) (by simp) ?_
        refine AllReadyH.cons rfl (fun K hK => ?_) AllReadyH.nil
        go_simp
        go_at_call 21
        refine (HCA.out.2 _ hHeld.below).mono ?_
        rintro e k4m ⟨_, rfl, ⟨ua, un, uq, rfl, hu⟩, hk4m⟩
        refine hK.out _ _ (hHeld.trans (Held.of hk4m)) (fun _ => ?_)
        clear hK K
        try simp only [Act.put, List.setIfInBounds_toArray, List.set_cons_zero, List.set_cons_succ]
        replace hHeld := hHeld.trans (Held.of hk4m)
        refine wpAnyH_ready (rs := [26]) (by kernel_rfl) (by simp) ?_
        refine AllReadyH.cons rfl (fun K hK => ?_) AllReadyH.nil
        go_simp
        go_at_call 22
        refine (HCB.out.2 _ hHeld.below).mono ?_
        rintro e k4 ⟨_, rfl, ⟨va, vn, vq, rfl, hv⟩, hk4⟩
        refine hK.out _ _ (hHeld.trans (Held.of hk4)) (fun _ => ?_)
        clear hK K
        try simp only [Act.put, List.setIfInBounds_toArray, List.set_cons_zero, List.set_cons_succ]
        replace hHeld := hHeld.trans (Held.of hk4)
        replace hu := hu.below hk4
        clear hk4m
        refine wpAnyH_ready (rs := [27]) (by kernel_rfl) (by simp) ?_
        refine AllReadyH.cons rfl (fun K hK => ?_) AllReadyH.nil
        go_simp
        go_at_call 18
        refine (Gr.hashes_same ua un uq va vn vq _ k4 hu hv).mono ?_
        rintro e k5 ⟨rfl, hk5⟩
        refine hK.out _ _ (hHeld.trans (Held.of hk5)) (fun _ => ?_)
        clear hK K
        try simp only [Act.put, List.setIfInBounds_toArray, List.set_cons_zero, List.set_cons_succ]
        replace hHeld := hHeld.trans (Held.of hk5)
        refine take_at (v := ?_) 28 104 rfl rfl (by kernel_rfl) (by kernel_rfl) (by kernel_rfl) (fun _ _ _ h => h) hHeld (Or.inl ⟨by rfl, ?_⟩) rfl ?_
        rotate_left
        · intro wq hSw
          go_simp
          try with_reducible rfl
        simp only [List.set_cons_zero, List.set_cons_succ]
        refine take_at (v := ?_) 29 105 rfl rfl (by kernel_rfl) (by kernel_rfl) (by kernel_rfl) (fun _ _ _ h => h) hHeld (Or.inl ⟨by rfl, ?_⟩) rfl ?_
        rotate_left
        · intro wq hSw
          go_simp
          try with_reducible rfl
        simp only [List.set_cons_zero, List.set_cons_succ]
        refine wpAnyH_done (by kernel_rfl) ?_ _
        have HB9 := Lib.hid (HBcs.out.trans (hHeld.below.mono HBcs.out.size))
        clear hHeld lI lG lN hk1 hk2 hk3 hk4 hk5 hu hv
        go_wp2
        go_roundw
        case rel => exact ⟨i + 1, by omega, by go_num, HB9.out⟩
        case measure => (simp [intOf]; try omega)
      · have hii : ¬ (i : Int) < (m : Int) := by omega
        obtain rfl : i = m := by omega
        have HB := Lib.hid hb
        clear hb
        have c0 : wr.cell? ⟨W.heap.size, 0, none⟩ = some (.slice ta tn tq) := (HXc.out.under HB.out HXc.out.lt).cell_at rfl
        have htnm : tn ≤ 9223372036854775807 := HTX.out.sp.2.1
        rename World => wL
        go_wp2
        go_loopw [110] (fun iv wr => ∃ (k : Nat), k ≤ tn ∧ iv = .int .i64 k ∧ Below wc.heap.size wc wr) (fun iv _ => tn - (intOf iv).toNat)
        case atStart => exact ⟨0, Nat.zero_le _, rfl, HB.out⟩
        case round =>
          obtain ⟨k, hk, rfl, hb⟩ := hrel
          by_cases hlt : k < tn
          · have hki : (k : Int) < (tn : Int) := by omega
            have hk0 : (0 : Int) ≤ (k : Int) := by omega
            have HBr := Lib.hid hb
            obtain ⟨s, hs⟩ := HTX.out.sp.get hlt
            have HSO := Lib.hid (HTX.out.sp.okay hs)
            obtain ⟨ys, hays, hy⟩ := spends_load (HTX.out.sp.below (HBc.out.trans (hb.mono HBc.out.size))) hs
            subst hays
            clear hs hb c0
            go_upto_region 22 with (first
              | (refine wpList_store_mid rfl 61 (.tmp 20) (.tmp 113) rfl wr.heap.size 0 (spCells s).toArray rfl rfl (spRec.there wr 61 (by kernel_rfl) HSO.out) (spRec.size_eq size_spend HSO.out) (spRec.all_one s) ?_)
              | (refine wpList_load_run rfl 61 (.tmp 112) rfl _ _ rfl hy ?_))
            obtain ⟨w1, hw1⟩ : ∃ u, u = (wr.alloc (.cells zSp 61)).setCells wr.heap.size 0 (spCells s) := ⟨_, rfl⟩
            obtain ⟨hG, hb1⟩ := Rec.new (R := spRec) (by kernel_rfl) HSO.out hw1
            rw [← hw1]
            obtain ⟨gs, hgs⟩ : ∃ u, u = wr.heap.size := ⟨_, rfl⟩
            rw [← hgs] at hG ⊢
            have HLP := Lib.hid (fun (w' : World) (hb : Below w1.heap.size w1 w') => (hG.under hb hG.lt).spPoint HSO.out.1)
            have lP1 := HLP.out w1 (Below.refl _ _)
            have HB1 := Lib.hid (HBr.out.trans (hb1.mono HBr.out.size))
            obtain ⟨E, hE⟩ : ∃ e, e = Gr.rspI L (Gr.pt s) := ⟨_, rfl⟩
            obtain ⟨ok, hok⟩ : ∃ e, e = (Gr.rspd L (Gr.pt s)).isSome := ⟨_, rfl⟩
            have HSA := Lib.hid (show Calls Tryz.prog 23 #[.pointer (some ⟨g, 0, none⟩), .agg (ptCells s.h s.n).toArray] w1 fun e w' => e = .returned (.tuple #[.agg (blist E).toArray, .bool ok]) ∧ Below w1.heap.size w1 w' from by
              have h9 := gSpender_any (HPc.out.below HB1.out).ga (Gr.pt s) (Gr.pt_ok HSO.out)
              rw [(HPc.out.sim.spdv (Gr.pt s)).1, (HPc.out.sim.spdv (Gr.pt s)).2, ← hE, ← hok] at h9
              exact h9)
            have HSB := Lib.hid (show ∀ w', Below wc.heap.size wc w' → Calls Tryz.prog 24 #[.slice (some y) yn yq, .agg (ptCells s.h s.n).toArray] w' fun e w2 => e = .returned (.tuple #[.agg (blist E).toArray, .bool ok]) ∧ Below w'.heap.size w' w2 from fun w' hb => by
              rw [hE, hok]
              exact rspender14_any (some y) yn yq L (Gr.pt s) (Gr.pt_ok HSO.out) w' (HPc.out.below hb).r ((HPc.out.below hb).vb (HBc.out.trans (hb.mono HBc.out.size))))
            have HEL := Lib.hid (show E.length = 32 from by
              rw [hE, Gr.rspI]
              cases hsp : Gr.rspd L (Gr.pt s) with
              | none => simp
              | some z => exact HPc.out.r.2.2.1 z (Gr.rspd_mem hsp))
            clear hw1 hb1 hgs hG hE hok hy
            go_upto_region 23 with (first
              | (refine wpList_store_mid rfl 46 (.tmp 21) (.tmp 119) rfl w2.heap.size 0 (blist E).toArray rfl rfl (Gr.hsRec.there w2 46 (by kernel_rfl) HEL.out) (Gr.hsRec.size_eq Gr.size_hsr HEL.out) (Gr.hsRec.all_one E) ?_)
              | (go_at_call 23; refine HSA.out.mono ?_; rintro e w2 ⟨rfl, hb2⟩)
              | (refine wpList_load_run rfl 58 (.tmp 116) rfl _ _ rfl lP1 ?_))
            obtain ⟨w3, hw3⟩ : ∃ u, u = (w2.alloc (.cells z32 46)).setCells w2.heap.size 0 (blist E) := ⟨_, rfl⟩
            obtain ⟨hE3, hb3⟩ := Rec.new (R := Gr.hsRec) (by kernel_rfl) HEL.out hw3
            rw [← hw3]
            obtain ⟨g3, hg3⟩ : ∃ u, u = w2.heap.size := ⟨_, rfl⟩
            rw [← hg3] at hE3 ⊢
            have HE3 := Lib.hid hE3
            have H13 := Lib.hid (hb2.trans (hb3.mono hb2.size))
            have HB3 := Lib.hid (HB1.out.trans (H13.out.mono HB1.out.size))
            have lP3 := HLP.out w3 H13.out
            clear hw3 hb2 hb3 hg3 hE3 lP1 HSA
            go_upto_region 24 with (first
              | (refine wpList_store_mid rfl 46 (.tmp 23) (.tmp 126) rfl w4.heap.size 0 (blist E).toArray rfl rfl (Gr.hsRec.there w4 46 (by kernel_rfl) HEL.out) (Gr.hsRec.size_eq Gr.size_hsr HEL.out) (Gr.hsRec.all_one E) ?_)
              | (go_at_call 24; refine (HSB.out w3 HB3.out).mono ?_; rintro e w4 ⟨rfl, hb4⟩)
              | (refine wpList_load_run rfl 58 (.tmp 123) rfl _ _ rfl lP3 ?_))
            obtain ⟨w5s, hw5⟩ : ∃ u, u = (w4.alloc (.cells z32 46)).setCells w4.heap.size 0 (blist E) := ⟨_, rfl⟩
            obtain ⟨hE5, hb5⟩ := Rec.new (R := Gr.hsRec) (by kernel_rfl) HEL.out hw5
            rw [← hw5]
            obtain ⟨g5, hg5⟩ : ∃ u, u = w4.heap.size := ⟨_, rfl⟩
            rw [← hg5] at hE5 ⊢
            have H35 := Lib.hid (hb4.trans (hb5.mono hb4.size))
            have HB5 := Lib.hid (HB3.out.trans (H35.out.mono HB3.out.size))
            have lE1 := (HE3.out.under H35.out HE3.out.lt).load_agg (P := Tryz.prog) (t := 46) Tryz.underlying46 rfl (size_hs HEL.out)
            have lE2 := hE5.load_agg (P := Tryz.prog) (t := 46) Tryz.underlying46 rfl (size_hs HEL.out)
            clear hw5 hb4 hb5 hg5 hE5 lP3 HSB
            go_wp2_with (first
              | (refine Gr.wpList_neq_if (b := false) (by rfl) 46 5 46 32 (.tmp 132) (.tmp 133) rfl E E (by rfl) (by rfl) (by kernel_rfl) Tryz.underlying46 Tryz.underlying5 (by kernel_rfl) HEL.out HEL.out (Gr.neq_self E) ?_)
              | (refine Gr.wpList_load_run_if (by rfl) 46 (.tmp 21) rfl _ _ rfl lE1 ?_)
              | (refine Gr.wpList_load_run_if (by rfl) 46 (.tmp 23) rfl _ _ rfl lE2 ?_))
            go_roundw
            case rel => exact ⟨k + 1, by omega, by go_num, HB5.out⟩
            case measure => (simp [intOf]; try omega)
          · have hki : ¬ (k : Int) < (tn : Int) := by omega
            clear c0
            go_upto_region 27 with fail
            obtain ⟨ws, hws⟩ : ∃ u, u = wr.drew := ⟨_, rfl⟩
            have HBs := Lib.hid (show Below wc.heap.size wc ws from by rw [hws]; exact hb.drew)
            have lA := fun (wq : World) (hSw : Held ws wq) => ((HGac.out.under HBs.out HGac.out.lt).under hSw.below (HGac.out.under HBs.out HGac.out.lt).lt).load_agg (P := Tryz.prog) (t := 37) Tryz.underlying37 rfl (by kernel_rfl)
            have lC := fun (wq : World) (hSw : Held ws wq) => ((HGc.out.under HBs.out HGc.out.lt).under hSw.below (HGc.out.under HBs.out HGc.out.lt).lt).load_agg (P := Tryz.prog) (t := 42) Tryz.underlying42 rfl (by kernel_rfl)
            have lX := fun (wq : World) (hSw : Held ws wq) => ((HXc.out.under HBs.out HXc.out.lt).under hSw.below (HXc.out.under HBs.out HXc.out.lt).lt).load_agg (P := Tryz.prog) (t := 34) Tryz.underlying34 rfl (by kernel_rfl)
            obtain ⟨AI, hAI, KA, hKA⟩ := Gr.rall_ex true L I
            obtain ⟨DI, hDI, KD, hKD⟩ := Gr.rall_ex false L I
            obtain ⟨XI, hXI⟩ : ∃ l, l = Gr.rconf L t := ⟨_, rfl⟩
            have HIS := Lib.hid (show ∀ w', Below ws.heap.size ws w' → Recs Gr.hsRec w' b i I ∧ Below wc.heap.size wc w' from fun w' hb => ⟨HIc.out.below (HBs.out.trans (hb.mono HBs.out.size)), HBs.out.trans (hb.mono HBs.out.size)⟩)
            have HCA := Lib.hid (show (∀ w', Below ws.heap.size ws w' → Calls Tryz.prog 26 #[.pointer (some ⟨g, 0, none⟩), .slice b i r] w' fun e w2 => ∃ v, e = .returned v ∧ Gr.IdsV v AI w2 ∧ Below w'.heap.size w' w2) ∧ (∀ w', Below ws.heap.size ws w' → Calls Tryz.prog 28 #[.pointer (some ⟨g, 0, none⟩), .slice b i r] w' fun e w2 => ∃ v, e = .returned v ∧ Gr.IdsV v DI w2 ∧ Below w'.heap.size w' w2) ∧ (∀ w', Below ws.heap.size ws w' → Calls Tryz.prog 30 #[.pointer (some ⟨g, 0, none⟩), txv ta tn tq tb tm tr t.firm] w' fun e w2 => ∃ v, e = .returned v ∧ Gr.IdsV v XI w2 ∧ Below w'.heap.size w' w2) from ⟨fun w' hb => by
                have hA := (HPc.out.below (HIS.out w' hb).2).ga
                refine (gAncestors_any hA b i r I (HIS.out w' hb).1 (by omega)).mono ?_
                rintro e w2 ⟨v, G, rfl, ho, hw, hz, hb2⟩
                rw [HPc.out.sim.reached HPc.out.ga hw hz hKA, hAI KA hKA] at ho
                exact ⟨v, rfl, Gr.IdsV.of ho, hb2⟩, fun w' hb => by
                have hA := (HPc.out.below (HIS.out w' hb).2).ga
                refine (gDescendants_any hA b i r I (HIS.out w' hb).1 (by omega)).mono ?_
                rintro e w2 ⟨v, G, rfl, ho, hw, hz, hb2⟩
                rw [HPc.out.sim.reached HPc.out.ga hw hz hKD, hDI KD hKD] at ho
                exact ⟨v, rfl, Gr.IdsV.of ho, hb2⟩, fun w' hb => by
                have hbw := (HIS.out w' hb).2
                have hbW := HBc.out.trans (hbw.mono HBc.out.size)
                refine (gConflicts_any (HPc.out.below hbw).ga ta tn tq tb tm tr t (HTX.out.below hbW) HST.out (HKD.out.1.below hbW)).mono ?_
                rintro e w2 ⟨v, G, rfl, ho, hw, hz, hb2⟩
                rw [HPc.out.sim.cfls HPc.out.ga hw hz, ← hXI] at ho
                exact ⟨v, rfl, Gr.IdsV.of ho, hb2⟩⟩)
            have HCB := Lib.hid (show (∀ w', Below ws.heap.size ws w' → Calls Tryz.prog 27 #[.slice (some y) yn yq, .slice b i r] w' fun e w2 => ∃ v, e = .returned v ∧ Gr.IdsV v AI w2 ∧ Below w'.heap.size w' w2) ∧ (∀ w', Below ws.heap.size ws w' → Calls Tryz.prog 29 #[.slice (some y) yn yq, .slice b i r] w' fun e w2 => ∃ v, e = .returned v ∧ Gr.IdsV v DI w2 ∧ Below w'.heap.size w' w2) ∧ (∀ w', Below ws.heap.size ws w' → Calls Tryz.prog 31 #[.slice (some y) yn yq, txv ta tn tq tb tm tr t.firm] w' fun e w2 => ∃ v, e = .returned v ∧ Gr.IdsV v XI w2 ∧ Below w'.heap.size w' w2) from ⟨fun w' hb => by
                have hbw := (HIS.out w' hb).2
                refine (ranc14_any (some y) yn yq L b i r I w' (HPc.out.below hbw).r (HIS.out w' hb).1 ((HPc.out.below hbw).vb (HBc.out.trans (hbw.mono HBc.out.size))) HLN.out HND.out).mono ?_
                rintro e w2 ⟨v, K, rfl, ho, hk, hb2⟩
                rw [hAI K hk] at ho
                exact ⟨v, rfl, Gr.IdsV.of ho, hb2⟩, fun w' hb => by
                have hbw := (HIS.out w' hb).2
                refine (rdesc14_any (some y) yn yq L b i r I w' (HPc.out.below hbw).r (HIS.out w' hb).1 ((HPc.out.below hbw).vb (HBc.out.trans (hbw.mono HBc.out.size))) HLN.out HND.out).mono ?_
                rintro e w2 ⟨v, K, rfl, ho, hk, hb2⟩
                rw [hDI K hk] at ho
                exact ⟨v, rfl, Gr.IdsV.of ho, hb2⟩, fun w' hb => by
                have hbw := (HIS.out w' hb).2
                have hbW := HBc.out.trans (hbw.mono HBc.out.size)
                refine (rconf14_any (some y) yn yq L ta tn tq tb tm tr t w' (HPc.out.below hbw).r ((HPc.out.below hbw).vb hbW) HLN.out (HTX.out.below hbW) HST.out (HKD.out.2.below hbW)).mono ?_
                rintro e w2 ⟨v, rfl, ho, hb2⟩
                rw [show (L.filter fun x => decide (x.id ∈ (t.sp.map Gr.pt).filterMap (Gr.rcfl L (Tx.idOf false t)))).map (·.id) = XI from hXI.symm] at ho
                exact ⟨v, rfl, Gr.IdsV.of ho, hb2⟩⟩)
            clear hAI hDI hXI hKA hKD KA KD hb
            refine wp_region_held_drew (S := Held ws) (by kernel_rfl) (by rw [hws]; exact Held.refl _) (fun hHeld => ?_)
            rw [← hws] at hHeld ⊢
            clear hws
            refine take_at 0 137 rfl rfl (by kernel_rfl) (by kernel_rfl) (by kernel_rfl) (fun _ _ _ h => h) hHeld (yieldsIf_load_agg (by rfl) 37 (.tmp 9) rfl _ _ (by rfl) (fun wq hSw => lA wq hSw)) rfl ?_
            simp only [List.set_cons_zero, List.set_cons_succ]
            refine take_at 1 138 rfl rfl (by kernel_rfl) (by kernel_rfl) (by kernel_rfl) (fun _ _ _ h => h) hHeld (yieldsIf_load_agg (by rfl) 42 (.tmp 11) rfl _ _ (by rfl) (fun wq hSw => lC wq hSw)) rfl ?_
            simp only [List.set_cons_zero, List.set_cons_succ]
            refine take_at (v := ?_) 2 139 rfl rfl (by kernel_rfl) (by kernel_rfl) (by kernel_rfl) (fun _ _ _ h => h) hHeld (Or.inl ⟨by rfl, ?_⟩) rfl ?_
            rotate_left
            · intro wq hSw
              go_simp
              try with_reducible rfl
            simp only [List.set_cons_zero, List.set_cons_succ]
            refine take_at (v := ?_) 3 140 rfl rfl (by kernel_rfl) (by kernel_rfl) (by kernel_rfl) (fun _ _ _ h => h) hHeld (Or.inl ⟨by rfl, ?_⟩) rfl ?_
            rotate_left
            · intro wq hSw
              go_simp
              try with_reducible rfl
            simp only [List.set_cons_zero, List.set_cons_succ]
            refine take_at (v := ?_) 4 141 rfl rfl (by kernel_rfl) (by kernel_rfl) (by kernel_rfl) (fun _ _ _ h => h) hHeld (Or.inl ⟨by rfl, ?_⟩) rfl ?_
            rotate_left
            · intro wq hSw
              go_simp
              try with_reducible rfl
            simp only [List.set_cons_zero, List.set_cons_succ]
            refine take_at (v := ?_) 6 143 rfl rfl (by kernel_rfl) (by kernel_rfl) (by kernel_rfl) (fun _ _ _ h => h) hHeld (Or.inl ⟨by rfl, ?_⟩) rfl ?_
            rotate_left
            · intro wq hSw
              go_simp
              try with_reducible rfl
            simp only [List.set_cons_zero, List.set_cons_succ]
            refine wpAnyH_ready (rs := [5]) (by kernel_rfl) (by simp) ?_
            refine AllReadyH.cons rfl (fun K hK => ?_) AllReadyH.nil
            go_simp
            go_at_call 25
            refine (num_any Z _).mono ?_
            rintro e w2 ⟨rfl, rfl⟩
            refine hK.out _ _ hHeld (fun _ => ?_)
            clear hK K
            try simp only [Act.put, List.setIfInBounds_toArray, List.set_cons_zero, List.set_cons_succ]
            refine take_at (v := ?_) 7 144 rfl rfl (by kernel_rfl) (by kernel_rfl) (by kernel_rfl) (fun _ _ _ h => h) hHeld (Or.inl ⟨by rfl, ?_⟩) rfl ?_
            rotate_left
            · intro wq hSw
              go_simp
              try with_reducible rfl
            simp only [List.set_cons_zero, List.set_cons_succ]
            refine take_at (v := ?_) 8 145 rfl rfl (by kernel_rfl) (by kernel_rfl) (by kernel_rfl) (fun _ _ _ h => h) hHeld (Or.inl ⟨by rfl, ?_⟩) rfl ?_
            rotate_left
            · intro wq hSw
              go_simp
              try with_reducible rfl
            simp only [List.set_cons_zero, List.set_cons_succ]
            refine take_at (v := ?_) 9 146 rfl rfl (by kernel_rfl) (by kernel_rfl) (by kernel_rfl) (fun _ _ _ h => h) hHeld (Or.inl ⟨by rfl, ?_⟩) rfl ?_
            rotate_left
            · intro wq hSw
              go_simp
              try with_reducible rfl
            simp only [List.set_cons_zero, List.set_cons_succ]
            refine take_at (v := ?_) 10 147 rfl rfl (by kernel_rfl) (by kernel_rfl) (by kernel_rfl) (fun _ _ _ h => h) hHeld (Or.inl ⟨by rfl, ?_⟩) rfl ?_
            rotate_left
            · intro wq hSw
              go_simp
              try with_reducible rfl
            simp only [List.set_cons_zero, List.set_cons_succ]
            refine take_at (v := ?_) 11 148 rfl rfl (by kernel_rfl) (by kernel_rfl) (by kernel_rfl) (fun _ _ _ h => h) hHeld (Or.inl ⟨by rfl, ?_⟩) rfl ?_
            rotate_left
            · intro wq hSw
              go_simp
              try with_reducible rfl
            simp only [List.set_cons_zero, List.set_cons_succ]
            refine take_at (v := ?_) 13 150 rfl rfl (by kernel_rfl) (by kernel_rfl) (by kernel_rfl) (fun _ _ _ h => h) hHeld (Or.inl ⟨by rfl, ?_⟩) rfl ?_
            rotate_left
            · intro wq hSw
              go_simp
              try with_reducible rfl
            simp only [List.set_cons_zero, List.set_cons_succ]
            refine take_at (v := ?_) 14 151 rfl rfl (by kernel_rfl) (by kernel_rfl) (by kernel_rfl) (fun _ _ _ h => h) hHeld (Or.inl ⟨by rfl, ?_⟩) rfl ?_
            rotate_left
            · intro wq hSw
              go_simp
              try with_reducible rfl
            simp only [List.set_cons_zero, List.set_cons_succ]
            refine wpAnyH_ready (rs := [12]) (by kernel_rfl) (by simp) ?_
            refine AllReadyH.cons rfl (fun K hK => ?_) AllReadyH.nil
            go_simp
            go_at_call 26
            refine (HCA.out.1 _ hHeld.below).mono ?_
            rintro e k2m ⟨_, rfl, ⟨ua, un, uq, rfl, hu⟩, hk2m⟩
            refine hK.out _ _ (hHeld.trans (Held.of hk2m)) (fun _ => ?_)
            clear hK K
            try simp only [Act.put, List.setIfInBounds_toArray, List.set_cons_zero, List.set_cons_succ]
            replace hHeld := hHeld.trans (Held.of hk2m)
            refine wpAnyH_ready (rs := [15]) (by kernel_rfl) (by simp) ?_
            refine AllReadyH.cons rfl (fun K hK => ?_) AllReadyH.nil
            go_simp
            go_at_call 27
            refine (HCB.out.1 _ hHeld.below).mono ?_
            rintro e k2 ⟨_, rfl, ⟨va, vn, vq, rfl, hv⟩, hk2⟩
            refine hK.out _ _ (hHeld.trans (Held.of hk2)) (fun _ => ?_)
            clear hK K
            try simp only [Act.put, List.setIfInBounds_toArray, List.set_cons_zero, List.set_cons_succ]
            replace hHeld := hHeld.trans (Held.of hk2)
            replace hu := hu.below hk2
            clear hk2m
            refine wpAnyH_ready (rs := [16]) (by kernel_rfl) (by simp) ?_
            refine AllReadyH.cons rfl (fun K hK => ?_) AllReadyH.nil
            go_simp
            go_at_call 18
            refine (Gr.hashes_same ua un uq va vn vq _ k2 hu hv).mono ?_
            rintro e k3 ⟨rfl, hk3⟩
            refine hK.out _ _ (hHeld.trans (Held.of hk3)) (fun _ => ?_)
            clear hK K
            try simp only [Act.put, List.setIfInBounds_toArray, List.set_cons_zero, List.set_cons_succ]
            replace hHeld := hHeld.trans (Held.of hk3)
            refine take_at (v := ?_) 17 154 rfl rfl (by kernel_rfl) (by kernel_rfl) (by kernel_rfl) (fun _ _ _ h => h) hHeld (Or.inl ⟨by rfl, ?_⟩) rfl ?_
            rotate_left
            · intro wq hSw
              go_simp
              try with_reducible rfl
            simp only [List.set_cons_zero, List.set_cons_succ]
            refine take_at (v := ?_) 18 155 rfl rfl (by kernel_rfl) (by kernel_rfl) (by kernel_rfl) (fun _ _ _ h => h) hHeld (Or.inl ⟨by rfl, ?_⟩) rfl ?_
            rotate_left
            · intro wq hSw
              go_simp
              try with_reducible rfl
            simp only [List.set_cons_zero, List.set_cons_succ]
            refine take_at (v := ?_) 19 156 rfl rfl (by kernel_rfl) (by kernel_rfl) (by kernel_rfl) (fun _ _ _ h => h) hHeld (Or.inl ⟨by rfl, ?_⟩) rfl ?_
            rotate_left
            · intro wq hSw
              go_simp
              try with_reducible rfl
            simp only [List.set_cons_zero, List.set_cons_succ]
            refine take_at (v := ?_) 20 157 rfl rfl (by kernel_rfl) (by kernel_rfl) (by kernel_rfl) (fun _ _ _ h => h) hHeld (Or.inl ⟨by rfl, ?_⟩) rfl ?_
            rotate_left
            · intro wq hSw
              go_simp
              try with_reducible rfl
            simp only [List.set_cons_zero, List.set_cons_succ]
            refine take_at (v := ?_) 22 159 rfl rfl (by kernel_rfl) (by kernel_rfl) (by kernel_rfl) (fun _ _ _ h => h) hHeld (Or.inl ⟨by rfl, ?_⟩) rfl ?_
            rotate_left
            · intro wq hSw
              go_simp
              try with_reducible rfl
            simp only [List.set_cons_zero, List.set_cons_succ]
            refine take_at (v := ?_) 23 160 rfl rfl (by kernel_rfl) (by kernel_rfl) (by kernel_rfl) (fun _ _ _ h => h) hHeld (Or.inl ⟨by rfl, ?_⟩) rfl ?_
            rotate_left
            · intro wq hSw
              go_simp
              try with_reducible rfl
            simp only [List.set_cons_zero, List.set_cons_succ]
            refine wpAnyH_ready (rs := [21]) (by kernel_rfl) (by simp) ?_
            refine AllReadyH.cons rfl (fun K hK => ?_) AllReadyH.nil
            go_simp
            go_at_call 28
            refine (HCA.out.2.1 _ hHeld.below).mono ?_
            rintro e k4m ⟨_, rfl, ⟨ua, un, uq, rfl, hu⟩, hk4m⟩
            refine hK.out _ _ (hHeld.trans (Held.of hk4m)) (fun _ => ?_)
            clear hK K
            try simp only [Act.put, List.setIfInBounds_toArray, List.set_cons_zero, List.set_cons_succ]
            replace hHeld := hHeld.trans (Held.of hk4m)
            refine wpAnyH_ready (rs := [24]) (by kernel_rfl) (by simp) ?_
            refine AllReadyH.cons rfl (fun K hK => ?_) AllReadyH.nil
            go_simp
            go_at_call 29
            refine (HCB.out.2.1 _ hHeld.below).mono ?_
            rintro e k4 ⟨_, rfl, ⟨va, vn, vq, rfl, hv⟩, hk4⟩
            refine hK.out _ _ (hHeld.trans (Held.of hk4)) (fun _ => ?_)
            clear hK K
            try simp only [Act.put, List.setIfInBounds_toArray, List.set_cons_zero, List.set_cons_succ]
            replace hHeld := hHeld.trans (Held.of hk4)
            replace hu := hu.below hk4
            clear hk4m
            refine wpAnyH_ready (rs := [25]) (by kernel_rfl) (by simp) ?_
            refine AllReadyH.cons rfl (fun K hK => ?_) AllReadyH.nil
            go_simp
            go_at_call 18
            refine (Gr.hashes_same ua un uq va vn vq _ k4 hu hv).mono ?_
            rintro e k5 ⟨rfl, hk5⟩
            refine hK.out _ _ (hHeld.trans (Held.of hk5)) (fun _ => ?_)
            clear hK K
            try simp only [Act.put, List.setIfInBounds_toArray, List.set_cons_zero, List.set_cons_succ]
            replace hHeld := hHeld.trans (Held.of hk5)
            refine take_at (v := ?_) 26 163 rfl rfl (by kernel_rfl) (by kernel_rfl) (by kernel_rfl) (fun _ _ _ h => h) hHeld (Or.inl ⟨by rfl, ?_⟩) rfl ?_
            rotate_left
            · intro wq hSw
              go_simp
              try with_reducible rfl
            simp only [List.set_cons_zero, List.set_cons_succ]
            refine take_at (v := ?_) 27 164 rfl rfl (by kernel_rfl) (by kernel_rfl) (by kernel_rfl) (fun _ _ _ h => h) hHeld (Or.inl ⟨by rfl, ?_⟩) rfl ?_
            rotate_left
            · intro wq hSw
              go_simp
              try with_reducible rfl
            simp only [List.set_cons_zero, List.set_cons_succ]
            refine take_at (v := ?_) 28 165 rfl rfl (by kernel_rfl) (by kernel_rfl) (by kernel_rfl) (fun _ _ _ h => h) hHeld (Or.inl ⟨by rfl, ?_⟩) rfl ?_
            rotate_left
            · intro wq hSw
              go_simp
              try with_reducible rfl
            simp only [List.set_cons_zero, List.set_cons_succ]
            refine take_at 29 166 rfl rfl (by kernel_rfl) (by kernel_rfl) (by kernel_rfl) (fun _ _ _ h => h) hHeld (yieldsIf_load_agg (by rfl) 34 (.tmp 5) rfl _ _ (by rfl) (fun wq hSw => lX wq hSw)) rfl ?_
            simp only [List.set_cons_zero, List.set_cons_succ]
            refine take_at (v := ?_) 31 168 rfl rfl (by kernel_rfl) (by kernel_rfl) (by kernel_rfl) (fun _ _ _ h => h) hHeld (Or.inl ⟨by rfl, ?_⟩) rfl ?_
            rotate_left
            · intro wq hSw
              go_simp
              try with_reducible rfl
            simp only [List.set_cons_zero, List.set_cons_succ]
            refine take_at 32 169 rfl rfl (by kernel_rfl) (by kernel_rfl) (by kernel_rfl) (fun _ _ _ h => h) hHeld (yieldsIf_load_agg (by rfl) 34 (.tmp 5) rfl _ _ (by rfl) (fun wq hSw => lX wq hSw)) rfl ?_
            simp only [List.set_cons_zero, List.set_cons_succ]
            refine wpAnyH_ready (rs := [30]) (by kernel_rfl) (by simp) ?_
            refine AllReadyH.cons rfl (fun K hK => ?_) AllReadyH.nil
            go_simp
            go_at_call 30
            refine (HCA.out.2.2 _ hHeld.below).mono ?_
            rintro e k6m ⟨_, rfl, ⟨ua, un, uq, rfl, hu⟩, hk6m⟩
            refine hK.out _ _ (hHeld.trans (Held.of hk6m)) (fun _ => ?_)
            clear hK K
            try simp only [Act.put, List.setIfInBounds_toArray, List.set_cons_zero, List.set_cons_succ]
            replace hHeld := hHeld.trans (Held.of hk6m)
            refine wpAnyH_ready (rs := [33]) (by kernel_rfl) (by simp) ?_
            refine AllReadyH.cons rfl (fun K hK => ?_) AllReadyH.nil
            go_simp
            go_at_call 31
            refine (HCB.out.2.2 _ hHeld.below).mono ?_
            rintro e k6 ⟨_, rfl, ⟨va, vn, vq, rfl, hv⟩, hk6⟩
            refine hK.out _ _ (hHeld.trans (Held.of hk6)) (fun _ => ?_)
            clear hK K
            try simp only [Act.put, List.setIfInBounds_toArray, List.set_cons_zero, List.set_cons_succ]
            replace hHeld := hHeld.trans (Held.of hk6)
            replace hu := hu.below hk6
            clear hk6m
            refine wpAnyH_ready (rs := [34]) (by kernel_rfl) (by simp) ?_
            refine AllReadyH.cons rfl (fun K hK => ?_) AllReadyH.nil
            go_simp
            go_at_call 18
            refine (Gr.hashes_same ua un uq va vn vq _ k6 hu hv).mono ?_
            rintro e k7 ⟨rfl, hk7⟩
            refine hK.out _ _ (hHeld.trans (Held.of hk7)) (fun _ => ?_)
            clear hK K
            try simp only [Act.put, List.setIfInBounds_toArray, List.set_cons_zero, List.set_cons_succ]
            replace hHeld := hHeld.trans (Held.of hk7)
            refine take_at (v := ?_) 35 172 rfl rfl (by kernel_rfl) (by kernel_rfl) (by kernel_rfl) (fun _ _ _ h => h) hHeld (Or.inl ⟨by rfl, ?_⟩) rfl ?_
            rotate_left
            · intro wq hSw
              go_simp
              try with_reducible rfl
            simp only [List.set_cons_zero, List.set_cons_succ]
            refine take_at (v := ?_) 36 6 rfl rfl (by kernel_rfl) (by kernel_rfl) (by kernel_rfl) (fun _ _ _ h => h) hHeld (Or.inl ⟨by rfl, ?_⟩) rfl ?_
            rotate_left
            · intro wq hSw
              go_simp
              try with_reducible rfl
            simp only [List.set_cons_zero, List.set_cons_succ]
            refine wpAnyH_done (by kernel_rfl) ?_ _
            have HB9 := Lib.hid (HBs.out.trans (hHeld.below.mono HBs.out.size))
            clear hHeld lA lC lX
            go_wp2
            go_ret
            exact ⟨rfl, HBc.out.trans (HB9.out.mono HBc.out.size)⟩
  · have hmi : (30 : Int) < (m : Int) := by omega
    go_wp2_with (go_at_call 8; refine (glong_any a n q K w2 (HLA.out.below hT2) hT2).mono ?_; rintro e w3 ⟨z1, rfl, hz1, hb3⟩; clear hz1; have hT3 := hT2.trans (hb3.mono hT2.size))
    all_goals (go_ret; exact ⟨rfl, hT3⟩)
end Go.Proofs.YtijemcfnlbapjaaGreatDoor
