/- LockSigns: its parts (mklkw.py) -/
import Derived.Test.YtcedecljbgailaaDoorLkM
import Derived.Test.YtcedecljbgailaaDoorLkN
import Derived.Test.YtcedecljbgailaaDoorLkU
import Derived.Test.YtcedecljbgailaaDoorLz
namespace Go.Proofs.YtcedecljbgailaaDoor
open Go Go.RowKit Go.ChangeShapes Go.WideShapes
/-- a region whose orders end alike but for what J leaves open -/
theorem wp_region_joinP {P : Program} {id : Nat} {ops : Array Oper} {b : Bool} {Q : Exit → Act → World → Prop} {a : Act} {w : World} (J : List Value → World → Prop) (lo n : Nat)
    (h : (Code.region id ops b).wp P (Exit.then (fun s w' => J ((s.tmps.toList.drop lo).take n) w' ∧ ((s.tmps.toList.drop lo).take n).length = n ∧ s = ⟨(a.tmps.toList.take lo ++ (s.tmps.toList.drop lo).take n ++ a.tmps.toList.drop (lo + n)).toArray, a.defers⟩) (fun _ _ _ => False)) a w)
    (k : ∀ (vs : List Value) (w' : World), vs.length = n → J vs w' → Q .normal ⟨(a.tmps.toList.take lo ++ vs ++ a.tmps.toList.drop (lo + n)).toArray, a.defers⟩ w') : (Code.region id ops b).wp P Q a w :=
  Code.wp_mono (fun e s w' he => by
    cases e <;> first
      | (obtain ⟨hJ, hv, hs⟩ := he; rw [hs]; exact k _ _ hv hJ)
      | exact (he : False).elim) h
theorem wpList_wanted' {P : Program} {ops : Array Oper} {Q : Exit → Act → World → Prop} {a : Act} {w : World} {rest : List Oper} {o : Oper} (hw : Region.wanted o (yielded ops a.tmps) = true)
    (h : ∀ K : Act → World → Prop, (∀ a w, wpList P ops Q rest a w → K a w) → o.wp P a w K Q) : wpList P ops Q (o :: rest) a w :=
  wpList_step fun K hK => by rw [if_pos hw]; exact h K hK
theorem wpList_load_run_if {P : Program} {ops : Array Oper} {rest : List Oper} {op : Oper} {a : Act} {w : World} {Q : Exit → Act → World → Prop} (hgd : Region.wanted op (yielded ops a.tmps) = true) (ty : TypeId) (x : Operand) (ho : op.op = .load ty x)
    (p v : Value) (hx : a.eval x = p) (hr : (Instr.loadAt ty p).run P w = .ok v w) (h : wpList P ops Q rest (a.put op.dst v) w) : wpList P ops Q (op :: rest) a w :=
  wpList_wanted' hgd fun K hK => by
    unfold Oper.wp execOp
    simp only [ho, hx, Sem.run_bind, Sem.run_pure, Result.andThen_ok, hr]
    exact hK _ _ h
theorem coins_take {keys : List (List (BitVec 8))} {i : Nat} {key : List (BitVec 8)} (h : keys[i]? = some key) : (Lk.coins keys).take (i + 1) = (Lk.coins keys).take i ++ [⟨0, Lk.lockOf key⟩] := by
  have e : (Lk.coins keys)[i]? = some ⟨0, Lk.lockOf key⟩ := by rw [Lk.coins, List.getElem?_map, h]; rfl
  obtain ⟨h2, h3⟩ := List.getElem?_eq_some_iff.1 e
  rw [List.take_succ_eq_append_getElem h2, h3]
namespace Lk
/-- a seal that is one more -/
def up (s : Tx.Sp) : Tx.Sp := ⟨s.h, s.n, s.key, s.sl + 1#64⟩
def spz (L : List Tx.Sp) (i : Nat) : List Tx.Sp := (L.take i).map up ++ L.drop i
theorem spz_zero (L : List Tx.Sp) : spz L 0 = L := by
  unfold spz
  rw [List.take_zero, List.drop_zero, List.map_nil, List.nil_append]
theorem spz_all {L : List Tx.Sp} {n : Nat} (h : L.length = n) : spz L n = L.map up := by
  unfold spz
  rw [List.drop_of_length_le (by omega), List.append_nil, List.take_of_length_le (by omega)]
theorem spz_at {L : List Tx.Sp} {i : Nat} {s : Tx.Sp} (hs : L[i]? = some s) : (spz L i)[i]? = some s := by
  have hi := (List.getElem?_eq_some_iff.1 hs).1
  unfold spz
  rw [List.getElem?_append_right (by rw [List.length_map, List.length_take]; omega), List.length_map, List.length_take, Nat.min_eq_left (Nat.le_of_lt hi), Nat.sub_self, List.getElem?_drop]
  exact hs
theorem spz_next {L : List Tx.Sp} {i : Nat} {s : Tx.Sp} (hs : L[i]? = some s) : (spz L i).set i (up s) = spz L (i + 1) := by
  obtain ⟨hi, he⟩ := List.getElem?_eq_some_iff.1 hs
  have hl : ((L.take i).map up).length = i := by rw [List.length_map, List.length_take]; omega
  unfold spz
  rw [List.set_append_right _ _ (by omega), hl, Nat.sub_self, List.take_succ_eq_append_getElem hi, he, List.map_append, List.append_assoc, List.drop_eq_getElem_cons hi]
  rfl
theorem up_cells {s : Tx.Sp} (h : s.h.length = 32) : spCells (up s) = (spCells s).set 34 (.int .u64 (nb64 (s.sl + 1#64))) := by
  unfold spCells
  rw [List.set_append_right _ _ (by rw [blist_length]; omega), blist_length, h]
  rfl
theorem seal_cell {s : Tx.Sp} (h : s.h.length = 32) : (spCells s)[34]? = some (.int .u64 (nb64 s.sl)) := by
  unfold spCells
  rw [List.getElem?_append_right (by rw [blist_length]; omega), blist_length, h]
  rfl
theorem spoil_small {t : Tx.T} (h : Tx.Small t) : Tx.Small (spoil t) :=
  ⟨by show (t.sp.map _).length ≤ 30; rw [List.length_map]; exact h.1, h.2.1, fun s hs => by
    obtain ⟨u, hu, rfl⟩ := List.mem_map.1 hs
    exact h.2.2 u hu⟩
end Lk
def Lk.zT : Tx.T := ⟨[], [], false⟩
/-- which answer Sign gives -/
def SgCase (n m : Nat) (t : Tx.T) (cn : Nat) (keys : List (List (BitVec 8))) (u : Tx.T) (ev : Value) (nu mu : Nat) : Prop :=
  (cn = n ∧ u = Lk.sign t keys ∧ ev = .nilIface ∧ nu = n ∧ mu = m) ∨ (¬ cn = n ∧ u = Lk.zT ∧ ev = erro 1 ∧ nu = 0 ∧ mu = 0)
theorem sgCase_any (n m : Nat) (t : Tx.T) (cn : Nat) (keys : List (List (BitVec 8))) : ∃ (u : Tx.T) (ev : Value) (nu mu : Nat), SgCase n m t cn keys u ev nu mu := by
  by_cases h : cn = n
  · exact ⟨_, _, _, _, .inl ⟨h, rfl, rfl, rfl, rfl⟩⟩
  · exact ⟨_, _, _, _, .inr ⟨h, rfl, rfl, rfl, rfl⟩⟩
def SignEnd (u : Tx.T) (ev : Value) (nu mu : Nat) (w0 : World) (e : Ending) (w' : World) : Prop :=
  ∃ (a : Option Addr) (q : Nat) (b : Option Addr) (r : Nat), e = .returned (.tuple #[txv a nu q b mu r u.firm, ev]) ∧ TxOwn w0.heap.size w' a nu q b mu r u ∧ Below w0.heap.size w0 w'
theorem psign_end {n m : Nat} {t : Tx.T} {cn : Nat} {keys : List (List (BitVec 8))} {u : Tx.T} {ev : Value} {nu mu : Nat} (h : SgCase n m t cn keys u ev nu mu) (a : Option Addr) (q : Nat) (b : Option Addr) (r : Nat) (ca : Option Addr) (cq : Nat) (w : World)
    (ht : TxAt w a n q b m r t) (hs : Tx.Small t) (hc : Recs strRec w ca cn keys) (hk : ∀ k, k ∈ keys → k.length ≤ 300) (hT : KDg w) : Calls Tryd.prog 15 #[txv a n q b m r t.firm, .slice ca cn cq] w (SignEnd u ev nu mu w) := by
  rcases h with ⟨h1, h2, h3, h4, h5⟩ | ⟨hne, h2, h3, h4, h5⟩
  · rw [h1] at hc ⊢
    rw [h2, h3, h4, h5]
    refine (psign_any a n q b m r t t.firm rfl ca cq keys w ht hs hc (fun k h => by have := hk k h; omega) hT).mono ?_
    rintro e w' ⟨a2, q2, b2, r2, rfl, ho, hb⟩
    exact ⟨a2, q2, b2, r2, rfl, ho, hb⟩
  · rw [h2, h3, h4, h5]
    refine (psign_no a n q b m r t t.firm ca cn cq keys w ht hc hne).mono ?_
    rintro e w' ⟨rfl, hb⟩
    exact ⟨none, 0, none, 0, rfl, ⟨OwnR.nil _ _ _ _, OwnR.nil _ _ _ _⟩, hb⟩
theorem rsign_end {t v : Tx.T} {keys : List (List (BitVec 8))} (hv : v = Lk.sign t keys) (a : Option Addr) (n q : Nat) (b : Option Addr) (m r : Nat) (ca : Option Addr) (cq : Nat) (w : World)
    (ht : TxAt w a n q b m r t) (hs : Tx.Small t) (hc : Recs strRec w ca n keys) (hk : ∀ k, k ∈ keys → k.length ≤ 300) (hT : Tab32 w 1 Dg.kL) :
    Calls Tryd.prog 19 #[txv a n q b m r t.firm, .slice ca n cq] w fun e w' => ∃ (a' : Option Addr) (q' : Nat), e = .returned (txv a' n q' b m r v.firm) ∧ TxAt w' a' n q' b m r v ∧ Below w.heap.size w w' := by
  rw [hv]
  refine (rsign_any a n q b m r t ca cq keys w ht hs hc (fun k h => by have := hk k h; omega) hT).mono ?_
  rintro e w' ⟨a', q', rfl, ho, hb⟩
  have h1 := ho.recs
  have h2 := ht.below hb
  exact ⟨a', q', rfl, ⟨h1.1, h2.co, h1.2.1, h2.mr, h1.2.2, h2.r0⟩, hb⟩
theorem psign_again {v : Tx.T} {keys : List (List (BitVec 8))} (hv : Lk.sign v keys = v) (a : Option Addr) (n q : Nat) (b : Option Addr) (m r : Nat) (ca : Option Addr) (cq : Nat) (w : World)
    (ht : TxAt w a n q b m r v) (hs : Tx.Small v) (hc : Recs strRec w ca n keys) (hk : ∀ k, k ∈ keys → k.length ≤ 300) (hT : KDg w) :
    Calls Tryd.prog 15 #[txv a n q b m r v.firm, .slice ca n cq] w (SignEnd v .nilIface n m w) := by
  refine (psign_any a n q b m r v v.firm rfl ca cq keys w ht hs hc (fun k h => by have := hk k h; omega) hT).mono ?_
  rintro e w' ⟨a2, q2, b2, r2, rfl, ho, hb⟩
  rw [hv] at ho
  exact ⟨a2, q2, b2, r2, rfl, ho, hb⟩
/-- what stays while the law goes on -/
structure LsB (W : World) (g1 g8 : Nat) (a : Option Addr) (n q : Nat) (b : Option Addr) (m r : Nat) (t : Tx.T) (a2 : Option Addr) (q2 : Nat) (b2 : Option Addr) (r2 : Nat) (ca : Option Addr) (cn : Nat) (keys : List (List (BitVec 8))) (oa : Option Addr) (oq : Nat) (w : World) : Prop where
  X : Has w g1 38 #[.slice a n q, .slice b m r, .bool t.firm]
  Y : Has w g8 38 #[.slice a2 n q2, .slice b2 m r2, .bool t.firm]
  tx : TxAt w a n q b m r t
  own : TxAt w a2 n q2 b2 m r2 t
  ks : Recs strRec w ca cn keys
  co : Recs coRec w oa cn (Lk.coins keys)
  coq : cn ≤ oq ∧ (oa = none → oq = 0)
  kd : KDg w
  tab : Tab32 w 1 Dg.kL
  bel : Below W.heap.size W w
theorem LsB.below {W : World} {g1 g8 : Nat} {a : Option Addr} {n q : Nat} {b : Option Addr} {m r : Nat} {t : Tx.T} {a2 : Option Addr} {q2 : Nat} {b2 : Option Addr} {r2 : Nat} {ca : Option Addr} {cn : Nat} {keys : List (List (BitVec 8))} {oa : Option Addr} {oq : Nat} {w w' : World}
    (h : LsB W g1 g8 a n q b m r t a2 q2 b2 r2 ca cn keys oa oq w) (hb : Below w.heap.size w w') : LsB W g1 g8 a n q b m r t a2 q2 b2 r2 ca cn keys oa oq w' :=
  ⟨h.X.under hb h.X.lt, h.Y.under hb h.Y.lt, h.tx.below hb, h.own.below hb, h.ks.below hb, h.co.below hb, h.coq, h.kd.below hb, h.tab.below hb, h.bel.trans (hb.mono h.bel.size)⟩
theorem info_str : (Tryd.prog.info? 9).map (fun i => (i.zero, i.size, i.bytes)) = some (some (.string ⟨#[]⟩), strRec.k, 16) := by kernel_rfl
theorem Moved.held {F : Nat → Prop} {D : Nat} {w w' : World} (h : Moved F w w') (hF : ∀ j, F j → D ≤ j) (hD : w.heap.size = D) : Below w.heap.size w w' := h.below (fun j e => by rw [hD]; exact hF j e) (Nat.le_refl _)
theorem txown_aside {B g : Nat} {w w' : World} {a b : Option Addr} {n q m r : Nat} {u : Tx.T} {cs : Array Value} (h : TxOwn B w a n q b m r u) (hg : Has w g 38 cs) (hm : Moved (fun j => j = g) w w') : TxOwn B w' a n q b m r u :=
  ⟨h.sp.moved hm (fun j hj e => by obtain ⟨c2, hc2⟩ := ownr_block h.sp hj; exact Has.ne_type hc2 hg (by decide) e), h.co.moved hm (fun j hj e => by obtain ⟨c2, hc2⟩ := ownr_block h.co hj; exact Has.ne_type hc2 hg (by decide) e)⟩
theorem own_not {α : Type} {R : Rec α} {T T' : TypeId} {B g : Nat} {w : World} {v : Value} {L : List α} {cs : Array Value} (hT : (T == T') = false) (h : OwnR R T B w v L) (hg : Has w g T' cs) : ¬ v.ownBlock = some g := fun e => by
  obtain ⟨c2, hc2⟩ := ownr_block h e
  exact Has.ne_type hc2 hg (by intro e; rw [e] at hT; simp at hT) rfl
theorem list41 {vs : List Value} (h : vs.length = 41) : ∃ x0 x1 x2 x3 x4 x5 x6 x7 x8 x9 x10 x11 x12 x13 x14 x15 x16 x17 x18 x19 x20 x21 x22 x23 x24 x25 x26 x27 x28 x29 x30 x31 x32 x33 x34 x35 x36 x37 x38 x39 x40, vs = [x0, x1, x2, x3, x4, x5, x6, x7, x8, x9, x10, x11, x12, x13, x14, x15, x16, x17, x18, x19, x20, x21, x22, x23, x24, x25, x26, x27, x28, x29, x30, x31, x32, x33, x34, x35, x36, x37, x38, x39, x40] := by
  match vs, h with
  | x0 :: x1 :: x2 :: x3 :: x4 :: x5 :: x6 :: x7 :: x8 :: x9 :: x10 :: x11 :: x12 :: x13 :: x14 :: x15 :: x16 :: x17 :: x18 :: x19 :: x20 :: x21 :: x22 :: x23 :: x24 :: x25 :: x26 :: x27 :: x28 :: x29 :: x30 :: x31 :: x32 :: x33 :: x34 :: x35 :: x36 :: x37 :: x38 :: x39 :: x40 :: [], _ => exact ⟨x0, x1, x2, x3, x4, x5, x6, x7, x8, x9, x10, x11, x12, x13, x14, x15, x16, x17, x18, x19, x20, x21, x22, x23, x24, x25, x26, x27, x28, x29, x30, x31, x32, x33, x34, x35, x36, x37, x38, x39, x40, rfl⟩
set_option maxRecDepth 100000 in
set_option maxHeartbeats 32000000 in
theorem lsignsMain (a : Option Addr) (n q : Nat) (b : Option Addr) (m r : Nat) (t : Tx.T) (ca : Option Addr) (cn cq : Nat) (keys : List (List (BitVec 8))) (W : World) (ht : TxAt W a n q b m r t) (hc : Recs strRec W ca cn keys) (hcq : cn ≤ cq ∧ (ca = none → cq = 0)) (hK : KDg W) (hT : Tab32 W 1 Dg.kL) :
    Calls Tryd.prog 4 #[txv a n q b m r t.firm, .slice ca cn cq] W fun e w' => e = .returned (.bool true) ∧ Below W.heap.size W w' := by
  have HAT := Lib.hid ht
  have HCC := Lib.hid hc
  have hcmx : cn ≤ 9223372036854775807 := hc.2.1
  have HKD := Lib.hid (And.intro hK (And.intro hT hcq))
  clear ht hK hT hc hcq
  go_enter Tryd.func4, Tryd.ntmps4
  go_upto_region 1 with fail
  obtain ⟨W1, hW1⟩ : ∃ x, x = W.alloc (.cells #[.slice a n q, .slice b m r, .bool t.firm] 38) := ⟨_, rfl⟩
  have hT1 : Below W.heap.size W W1 := by rw [hW1]; exact (Below.refl _ W).alloc (Nat.le_refl _) _
  have hX : Has W1 W.heap.size 38 #[.slice a n q, .slice b m r, .bool t.firm] := by rw [hW1]; exact Has.fresh W _ _
  rw [← hW1]
  clear hW1
  obtain ⟨g1, hg1⟩ : ∃ g, g = W.heap.size := ⟨_, rfl⟩
  rw [← hg1]
  rw [← hg1] at hX
  clear hg1
  go_upto_region 3 with (go_at_call 6; refine (alive11 lockA W1 (HKD.out.1.below hT1)).mono ?_; rintro e w2 ⟨rfl, hb2⟩)
  have hT2 := hT1.trans (hb2.mono hT1.size)
  replace hX := hX.under hb2 hX.lt
  replace HAT := Lib.hid (HAT.out.below hT2)
  have lX := (hX).load_agg (P := Tryd.prog) (t := 38) Tryd.underlying38 rfl (by kernel_rfl)
  obtain ⟨w3, hw3⟩ : ∃ x, x = w2.alloc (.cells #[.slice a n q, .slice b m r, .bool t.firm] 38) := ⟨_, rfl⟩
  have hb3 : Below w2.heap.size w2 w3 := by rw [hw3]; exact (Below.refl _ _).alloc (Nat.le_refl _) _
  have HTS := Lib.hid (show Txs w3 (some ⟨w2.heap.size, 0, none⟩) 1 [⟨a, n, q, b, m, r, t⟩] from
    ⟨recs_fresh (R := vRec) (fun _ _ => trivial) (by rw [hw3]; exact Has.fresh _ _ _) (by show 1 ≤ maxLen; unfold maxLen; omega) (fun j v hj => by rw [List.getElem?_toArray]; exact hj),
      fun x hx => by
        obtain rfl := List.mem_singleton.1 hx
        exact HAT.out.below hb3⟩)
  have HW3 := Lib.hid hw3
  have HX := Lib.hid hX
  clear hw3 hb2 hT1 hX
  go_upto_region 5 with (first
    | (go_at_call 13; rw [← HW3.out]; refine (large_any _ 1 1 _ w3 HTS.out).mono ?_; rintro e w4 ⟨bl, rfl, hsm, hb4⟩; have HSM := Lib.hid hsm; clear hsm; have hb24 := hb3.trans (hb4.mono hb3.size))
    | (refine wpList_load_run rfl 38 (.tmp 2) rfl _ _ rfl lX ?_))
  all_goals try (go_ret; exact ⟨rfl, hT2.trans (hb24.mono hT2.size)⟩)
  have hblf : bl = false := by first | rfl | assumption | simp_all
  have hcn40 : cn ≤ 40 := by omega
  have SA := Lib.hid ((HSM.out hblf).2 _ List.mem_cons_self)
  have hT4 := hT2.trans (hb24.mono hT2.size)
  replace HAT := Lib.hid (HAT.out.below hb24)
  replace HCC := Lib.hid (HCC.out.below hT4)
  replace HX := Lib.hid (HX.out.under hb24 HX.out.lt)
  have HKS := Lib.hid (show KDg w4 ∧ Tab32 w4 1 Dg.kL from ⟨HKD.out.1.below hT4, HKD.out.2.1.below hT4⟩)
  have HCQ := Lib.hid HKD.out.2.2
  have HT4 := Lib.hid hT4
  clear hblf lX hb24 hT2 hb3 hb4 hT4 HTS HW3 HSM HKD
  go_upto_region 6 with fail
  obtain ⟨w5, hw5⟩ : ∃ x, x = w4.alloc (.cells #[] 30) := ⟨_, rfl⟩
  have hb5 : Below w4.heap.size w4 w5 := by rw [hw5]; exact (Below.refl _ _).alloc (Nat.le_refl _) _
  obtain ⟨B, hB⟩ : ∃ B, B = w4.heap.size := ⟨_, rfl⟩
  have ho5 : OwnR coRec 30 B w5 (.slice (some ⟨B, 0, none⟩) 0 0) [] := OwnR.empty (Nat.le_refl _) (by rw [hB, hw5]; exact Has.fresh _ _ _)
  rw [← hw5]
  have HB4 := Lib.hid hB
  rw [← hB] at hb5 ⊢
  clear hw5 hB
  have HN4 := Lib.hid (show B ≤ w5.heap.size from by rw [HB4.out]; exact (hb5.size))
  go_wp2
  go_loopw [5, 26] (fun lv iv wr => ∃ (i : Nat) (oa : Option Addr) (oq : Nat), i ≤ cn ∧ iv = .int .i64 i ∧ lv = .slice oa i oq ∧ OwnR coRec 30 B wr (.slice oa i oq) ((Lk.coins keys).take i) ∧ Below B w4 wr ∧ B ≤ wr.heap.size ∧ RowKit.Hid (∀ k, k ∈ keys.take i → k.length ≤ 300)) (fun _ iv _ => cn - (intOf iv).toNat)
  case atStart => exact ⟨0, some ⟨B, 0, none⟩, 0, Nat.zero_le _, rfl, rfl, by rw [List.take_zero]; exact ho5, hb5, HN4.out, Lib.hid (fun k hk => by rw [List.take_zero] at hk; cases hk)⟩
  case round =>
    obtain ⟨i, oa, oq, hi, rfl, rfl, ho, hbr, hBr, HS⟩ := hrel
    clear ho5 hb5 HN4
    have hbw : Below w4.heap.size w4 wr := by rw [← HB4.out]; exact hbr
    by_cases hlt : i < cn
    · have hii : (i : Int) < (cn : Int) := by omega
      have hi0 : (0 : Int) ≤ (i : Int) := by omega
      obtain ⟨key, hkey⟩ := HCC.out.get hlt
      obtain ⟨y, hay, _⟩ := HCC.out.2.2.2 i key hkey
      subst hay
      have hky := strs_at (HCC.out.below hbw) hkey
      obtain ⟨kl, hkl⟩ : ∃ k, k = key.length := ⟨_, rfl⟩
      have hsz := strB_size key
      rw [← hkl] at hsz
      have hkm : kl ≤ 9223372036854775807 := by
        have := HCC.out.2.2.1 key (List.mem_of_getElem? hkey)
        have e : key.length ≤ maxLen := this
        unfold maxLen at e
        omega
      have HKY := Lib.hid (show keys[i]? = some key ∧ kl = key.length from ⟨hkey, hkl⟩)
      clear hkey hkl
      go_upto_region 9 with fail
      clear hky
      by_cases hlong : 300 < kl
      · have hgt : (300 : Int) < (kl : Int) := by omega
        go_wp2
        go_ret
        exact ⟨rfl, HT4.out.trans (hbw.mono HT4.out.size)⟩
      · have hle : ¬ (300 : Int) < (kl : Int) := by omega
        have HK2 := Lib.hid (HKS.out.1.below hbw)
        obtain ⟨lk, hlk⟩ : ∃ x, x = Lk.lockOf key := ⟨_, rfl⟩
        have HLK := Lib.hid (show Lk.lockOf key = lk ∧ (Lk.coins keys).take (i + 1) = (Lk.coins keys).take i ++ [⟨0, lk⟩] ∧ ((Lk.coins keys).take i).length = i ∧ key.length ≤ 300 from ⟨hlk.symm, by rw [hlk]; exact coins_take HKY.out.1, by rw [List.length_take, Lk.coins, List.length_map, HCC.out.1]; omega, by have := HKY.out.2; omega⟩)
        have hcok : coRec.ok ⟨0, lk⟩ := by show _ ∧ _; dsimp only; omega
        clear hlk
        go_wp2_with (first
          | (at_builtin; go_loud (refine wpList_append_recs (R := coRec) rfl (.tmp 33) (.tmp 37) 36 rfl 30 Tryd.underlying36 info_coin rfl (by decide) B _ ((Lk.coins keys).take i) rfl ((ho.below hb6).below ((Below.refl _ _).alloc (Nat.le_refl _) _)) (some ⟨w6.heap.size, 0, none⟩) 1 1 [⟨0, lk⟩] rfl (lk_recs_one (R := coRec) (x := ⟨0, lk⟩) hcok rfl) (fun e => by cases e) (by rw [HLK.out.2.2.1]; have := hcn40; omega) (by have := hb6.size; simp; omega) ?_; intro va wa ho2 hg2 hl2; obtain ⟨oa', oq', rfl, _⟩ := ho2.shape (K := i + 1) (by rw [List.length_append, HLK.out.2.2.1]; rfl)))
          | (refine wpList_build_row rfl (.tmp 36) 36 rfl 30 Tryd.underlying36 info_coin (by decide) (by decide) (coCells ⟨0, lk⟩).toArray rfl rfl ?_)
          | (go_at_call 7; refine (plock_any key wr HK2.out (by have := HLK.out.2.2.2; omega)).mono ?_; rw [HLK.out.1]; rintro e w6 ⟨rfl, hb6⟩))
        have hba : Below B w4 wa := ((hbr.trans (hb6.mono hBr)).alloc (Nat.le_trans hBr hb6.size) _).grown hg2 (by simp; have := hb6.size; have := hBr; omega) (fun j e => ho.lt j e)
        have hBa : B ≤ wa.heap.size := Nat.le_trans (Nat.le_trans hBr hb6.size) (Nat.le_trans (by simp) hg2.size)
        rw [← HLK.out.2.1] at ho2
        have HS2 := Lib.hid (show ∀ k, k ∈ keys.take (i + 1) → k.length ≤ 300 from fun k hk => by
          obtain ⟨h2, h3⟩ := List.getElem?_eq_some_iff.1 HKY.out.1
          rw [List.take_succ_eq_append_getElem h2, h3] at hk
          rcases List.mem_append.1 hk with hk | hk
          · exact HS.out k hk
          · rw [List.mem_singleton.1 hk]; exact HLK.out.2.2.2)
        go_roundw
        case rel => exact ⟨i + 1, oa', oq', by omega, by go_num, rfl, ho2, hba, hBa, HS2⟩
        case measure => (simp [intOf]; try omega)
    · have hii : ¬ (i : Int) < (cn : Int) := by omega
      obtain rfl : i = cn := by omega
      have hkl : keys.length = i := HCC.out.1
      have HCO := Lib.hid (show OwnR coRec 30 B wr (.slice oa i oq) (Lk.coins keys) by rw [List.take_of_length_le (by rw [Lk.coins, List.length_map, hkl]; exact Nat.le_refl _)] at ho; exact ho)
      have HS3 := Lib.hid (show ∀ k, k ∈ keys → k.length ≤ 300 by rw [List.take_of_length_le (by rw [hkl]; exact Nat.le_refl _)] at HS; exact HS.out)
      clear ho HS hi hlt
      have hbwr := hbw
      have HB7 := Lib.hid (show TxAt wr a n q b m r t ∧ Has wr g1 38 #[.slice a n q, .slice b m r, .bool t.firm] ∧ Recs strRec wr ca i keys ∧ KDg wr ∧ Tab32 wr 1 Dg.kL ∧ Below W.heap.size W wr ∧ B ≤ wr.heap.size from ⟨HAT.out.below hbw, HX.out.under hbw HX.out.lt, HCC.out.below hbw, HKS.out.1.below hbw, HKS.out.2.below hbw, HT4.out.trans (hbw.mono HT4.out.size), hBr⟩)
      have HNM := Lib.hid (show n ≤ 30 ∧ m ≤ 30 ∧ n ≤ 9223372036854775807 from ⟨by have := SA.out.1; have e : t.sp.length = n := HAT.out.sp.1; show n ≤ 30; rw [← e]; exact this, by have := SA.out.2.1; have e : t.co.length = m := HAT.out.co.1; show m ≤ 30; rw [← e]; exact this, HAT.out.sp.2.1⟩)
      have lX := (HB7.out.2.1).load_agg (P := Tryd.prog) (t := 38) Tryd.underlying38 rfl (by kernel_rfl)
      clear HAT HX HCC HKS HT4 HB4 hbr hbw hbwr hBr
      go_upto_region 14 with (first
        | (refine wpList_store_mid rfl 38 (.tmp 8) (.tmp 41) rfl w7.heap.size 0 #[.slice a2 n q2, .slice b2 m r2, .bool t.firm] rfl rfl ((Has.fresh _ _ _).there 0 3 (Nat.le_refl _)) (by kernel_rfl) (vRec.all_one ⟨a2, n, q2, b2, m, r2, ⟨[], [], t.firm⟩⟩) ?_)
        | (go_at_call 14; refine (copy_any a n q b m r t wr HB7.out.1 (by have := HNM.out.1; omega) (by have := HNM.out.2.1; omega)).mono ?_; rintro e w7 ⟨a2, q2, b2, r2, rfl, hown, hb7⟩)
        | (refine wpList_load_run rfl 38 (.tmp 2) rfl _ _ rfl lX ?_))
      clear lX
      obtain ⟨w8, hw8⟩ : ∃ x, x = (w7.alloc (.cells zTx 38)).setCells w7.heap.size 0 [.slice a2 n q2, .slice b2 m r2, .bool t.firm] := ⟨_, rfl⟩
      rw [← hw8]
      have hY : Has w8 w7.heap.size 38 #[.slice a2 n q2, .slice b2 m r2, .bool t.firm] := by rw [hw8]; exact (Has.fresh w7 _ zTx).whole_cs (cs2 := #[.slice a2 n q2, .slice b2 m r2, .bool t.firm]) rfl
      have hb8 : Below w7.heap.size w7 w8 := by rw [hw8]; exact below_setAll (Nat.le_refl _) _ 0 ((Below.refl _ _).alloc (Nat.le_refl _) _)
      obtain ⟨g8, hg8⟩ : ∃ g, g = w7.heap.size := ⟨_, rfl⟩
      rw [← hg8] at hY ⊢
      have hb78 := hb7.trans (hb8.mono hb7.size)
      have hcr := HCO.out.recs
      have hB8 : LsB W g1 g8 a n q b m r t a2 q2 b2 r2 ca i keys oa oq w8 := ⟨HB7.out.2.1.under hb78 HB7.out.2.1.lt, hY, HB7.out.1.below hb78, hown.at.below hb8, HB7.out.2.2.1.below hb78, hcr.1.below hb78, hcr.2, HB7.out.2.2.2.1.below hb78, HB7.out.2.2.2.2.1.below hb78, HB7.out.2.2.2.2.2.1.trans (hb78.mono HB7.out.2.2.2.2.2.1.size)⟩
      clear hw8 hY hb8 hg8 hb78 hcr hown hb7 HB7 HCO
      obtain ⟨u, ev, nu, mu, hsg⟩ := sgCase_any n m t i keys
      have HSG := Lib.hid hsg
      clear hsg
      obtain ⟨D, hD⟩ : ∃ D, D = w8.heap.size := ⟨_, rfl⟩
      have HDD := Lib.hid (show w8.heap.size = D ∧ g8 < D ∧ g1 < D from ⟨hD.symm, by rw [hD]; exact hB8.Y.lt, by rw [hD]; exact hB8.X.lt⟩)
      have HB8 := Lib.hid hB8
      clear hB8 hD
      refine wp_region_joinP (fun vs w' => ∃ (g9 : Nat) (sa : Option Addr) (sq : Nat) (sb : Option Addr) (sr : Nat), vs.take 2 = [.pointer (some ⟨g9, 0, none⟩), ev] ∧ Has w' g9 38 #[.slice sa nu sq, .slice sb mu sr, .bool u.firm] ∧ TxOwn D w' sa nu sq sb mu sr u ∧ Below D w8 w') 9 41 ?_ ?_
      · obtain ⟨ws, hws⟩ : ∃ x, x = w8.drew := ⟨_, rfl⟩
        have hbs : Below w8.heap.size w8 ws := by rw [hws]; exact (Below.refl _ _).drew
        have HBs := Lib.hid (HB8.out.below hbs)
        have HDs := Lib.hid (show ws.heap.size = D ∧ Below D w8 ws from ⟨by rw [hws]; exact HDD.out.1, by rw [← HDD.out.1]; exact hbs⟩)
        clear hbs
        refine wp_region_held_drew (S := HeldM (fun j => D ≤ j) ws) (by kernel_rfl) (by rw [hws]; exact HeldM.refl _ _) (fun hHeld => ?_)
        rw [← hws] at hHeld ⊢
        clear hws
        have hMws : Moved (fun j => D ≤ j) ws ws := Moved.refl _ _
        refine take_at 0 43 rfl rfl (by kernel_rfl) (by kernel_rfl) (by kernel_rfl) (fun _ _ _ h => h) hHeld (yieldsIf_load_agg (by rfl) 38 (.tmp 8) rfl _ _ (by rfl) (fun wq hSw => (HBs.out.Y.moved hSw.out (fun e => by have e2 : D ≤ g8 := e; have := HDD.out; omega)).load_agg (P := Tryd.prog) (t := 38) Tryd.underlying38 rfl (by kernel_rfl))) rfl ?_
        simp only [List.set_cons_zero, List.set_cons_succ]
        refine take_at (v := ?_) 2 45 rfl rfl (by kernel_rfl) (by kernel_rfl) (by kernel_rfl) (fun _ _ _ h => h) hHeld (Or.inl ⟨by rfl, ?_⟩) rfl ?_
        rotate_left
        · intro wq hSw
          go_simp
          try with_reducible rfl
        simp only [List.set_cons_zero, List.set_cons_succ]
        refine wpAnyH_ready (rs := [1, 8]) (by kernel_rfl) (by simp) ?_
        refine AllReadyH.cons rfl (fun K hK => ?_) (AllReadyH.cons rfl (fun K hK => ?_) AllReadyH.nil)
        · go_simp
          obtain ⟨wsl, hwsl⟩ : ∃ x, x = ws.alloc (.cells #[] 9) := ⟨_, rfl⟩
          rw [← hwsl]
          have hbwsl : Below ws.heap.size ws wsl := by rw [hwsl]; exact (Below.refl _ _).alloc (Nat.le_refl _) _
          have hmwsl : Moved (fun j => D ≤ j) ws wsl := Moved.of_below hbwsl
          have hLwsl : Has wsl ws.heap.size 9 #[] := by rw [hwsl]; exact Has.fresh _ _ _
          have hDwsl : D ≤ ws.heap.size := by have := hMws.size; have := HDs.out; omega
          refine hK.out _ _ (HeldM.of hmwsl) (fun _ => ?_)
          clear hK K
          try simp only [Act.put]
          try simp only [List.setIfInBounds_toArray]
          try simp only [List.set_cons_zero, List.set_cons_succ]
          refine heldM_grow (w1 := wsl) hmwsl ?_
          clear hHeld
          have hHeld : HeldM (fun j => D ≤ j) wsl wsl := HeldM.refl _ _
          obtain ⟨gL, hgL⟩ : ∃ g, g = ws.heap.size := ⟨_, rfl⟩
          rw [← hgL] at hLwsl hDwsl ⊢
          clear hwsl hgL
          have hDL := hDwsl
          have hMwsl : Moved (fun j => D ≤ j) ws wsl := hMws.then hbwsl
          refine wpAnyH_ready (rs := [3, 8]) (by kernel_rfl) (by simp) ?_
          refine AllReadyH.cons rfl (fun K hK => ?_) (AllReadyH.cons rfl (fun K hK => ?_) AllReadyH.nil)
          · refine step_append_recs (R := strRec) (by rfl) (.tmp 44) (.tmp 45) 39 rfl 9 Tryd.underlying39 info_str rfl (by decide) D _ [] (by first | rfl | simp [Act.eval]) (OwnR.empty hDL hLwsl) ca i cq keys (by first | rfl | simp [Act.eval]) ((HBs.out.ks).below (hMwsl.held (fun _ e => e) HDs.out.1)) HCQ.out.2 (by simp; omega) (by have := hMwsl.size; have := HDs.out; omega) ?_
            intro va wslp howslp hgwslp _
            rw [List.nil_append] at howslp
            obtain ⟨ka, kq, rfl, _, _, _, hPwslp⟩ := howslp.shape (K := i) HBs.out.ks.1
            have hlwslp : Moved (fun j => j = gL) wsl wslp := Moved.of_grown hgwslp (fun j e => by injection e with e; exact e.symm)
            have hmwslp : Moved (fun j => D ≤ j) wsl wslp := hlwslp.mono (fun j e => by have e2 : j = gL := e; have := hDL; show D ≤ j; omega)
            refine hK.out _ _ (HeldM.of hmwslp) (fun _ => ?_)
            clear hK K
            try simp only [Act.put]
            try simp only [List.setIfInBounds_toArray]
            try simp only [List.set_cons_zero, List.set_cons_succ]
            refine heldM_grow (w1 := wslp) hmwslp ?_
            clear hHeld
            have hHeld : HeldM (fun j => D ≤ j) wslp wslp := HeldM.refl _ _
            have hMwslp : Moved (fun j => D ≤ j) ws wslp := hMwsl.trans hmwslp (fun _ e => .inl e)
            refine wpAnyH_ready (rs := [4, 8]) (by kernel_rfl) (by simp) ?_
            refine AllReadyH.cons rfl (fun K hK => ?_) (AllReadyH.cons rfl (fun K hK => ?_) AllReadyH.nil)
            · go_simp
              go_at_call 15; refine (psign_end HSG.out a2 q2 b2 r2 ka kq wslp ((HBs.out.own).below (hMwslp.held (fun _ e => e) HDs.out.1)) SA.out hPwslp HS3.out (HBs.out.kd.below (hMwslp.held (fun _ e => e) HDs.out.1))).mono ?_; rintro e wslps ⟨sa, sq, sb, sr, rfl, hSwslps, hbwslps⟩
              have hmwslps : Moved (fun j => D ≤ j) wslp wslps := Moved.of_below hbwslps
              refine hK.out _ _ (HeldM.of hmwslps) (fun _ => ?_)
              clear hK K
              try simp only [Act.put, List.setIfInBounds_toArray, List.set_cons_zero, List.set_cons_succ]
              refine heldM_grow (w1 := wslps) hmwslps ?_
              clear hHeld
              have hHeld : HeldM (fun j => D ≤ j) wslps wslps := HeldM.refl _ _
              have hMwslps : Moved (fun j => D ≤ j) ws wslps := hMwslp.then hbwslps
              refine take_at (v := ?_) 5 42 rfl rfl (by kernel_rfl) (by kernel_rfl) (by kernel_rfl) (fun _ _ _ h => h) hHeld (Or.inl ⟨by rfl, ?_⟩) rfl ?_
              rotate_left
              · intro wq hSw
                go_simp
                try with_reducible rfl
              simp only [List.set_cons_zero, List.set_cons_succ]
              refine take_at (v := ?_) 6 48 rfl rfl (by kernel_rfl) (by kernel_rfl) (by kernel_rfl) (fun _ _ _ h => h) hHeld (Or.inl ⟨by rfl, ?_⟩) rfl ?_
              rotate_left
              · intro wq hSw
                go_simp
                try with_reducible rfl
              simp only [List.set_cons_zero, List.set_cons_succ]
              refine take_at (v := ?_) 7 49 rfl rfl (by kernel_rfl) (by kernel_rfl) (by kernel_rfl) (fun _ _ _ h => h) hHeld (Or.inl ⟨by rfl, ?_⟩) rfl ?_
              rotate_left
              · intro wq hSw
                go_simp
                try with_reducible rfl
              simp only [List.set_cons_zero, List.set_cons_succ]
              refine wpAnyH_ready (rs := [8]) (by kernel_rfl) (by simp) ?_
              refine AllReadyH.cons rfl (fun K hK => ?_) AllReadyH.nil
              go_simp
              obtain ⟨wslpsc, hwslpsc⟩ : ∃ x, x = wslps.alloc (.cells zTx 38) := ⟨_, rfl⟩
              rw [← hwslpsc]
              have hbwslpsc : Below wslps.heap.size wslps wslpsc := by rw [hwslpsc]; exact (Below.refl _ _).alloc (Nat.le_refl _) _
              have hmwslpsc : Moved (fun j => D ≤ j) wslps wslpsc := Moved.of_below hbwslpsc
              have hZwslpsc : Has wslpsc wslps.heap.size 38 zTx := by rw [hwslpsc]; exact Has.fresh _ _ _
              have hDwslpsc : D ≤ wslps.heap.size := by have := hMwslps.size; have := HDs.out; omega
              refine hK.out _ _ (HeldM.of hmwslpsc) (fun _ => ?_)
              clear hK K
              try simp only [Act.put, List.setIfInBounds_toArray, List.set_cons_zero, List.set_cons_succ]
              refine heldM_grow (w1 := wslpsc) hmwslpsc ?_
              clear hHeld
              have hHeld : HeldM (fun j => D ≤ j) wslpsc wslpsc := HeldM.refl _ _
              obtain ⟨g9, hg9⟩ : ∃ g, g = wslps.heap.size := ⟨_, rfl⟩
              rw [← hg9] at hZwslpsc hDwslpsc ⊢
              clear hwslpsc hg9
              have hD9 := hDwslpsc
              have hMwslpsc : Moved (fun j => D ≤ j) ws wslpsc := hMwslps.then hbwslpsc
              have hSwslpsc := hSwslps.below hbwslpsc
              refine wpAnyH_ready (rs := [9]) (by kernel_rfl) (by simp) ?_
              refine AllReadyH.cons rfl (fun K hK => ?_) AllReadyH.nil
              refine step_store_row (by rfl) 38 (.tmp 9) (.tmp 48) rfl g9 0 (#[.slice sa nu sq, .slice sb mu sr, .bool u.firm]) (by first | rfl | simp [Act.eval]) (by first | rfl | simp [Act.eval]) (hZwslpsc.there 0 3 (Nat.le_refl _)) (by kernel_rfl) (vRec.all_one ⟨sa, nu, sq, sb, mu, sr, ⟨[], [], u.firm⟩⟩) rfl ?_
              obtain ⟨wslpsct, hwslpsct⟩ : ∃ x, x = wslpsc.setCells g9 0 (#[.slice sa nu sq, .slice sb mu sr, .bool u.firm]).toList := ⟨_, rfl⟩
              rw [← hwslpsct]
              have hlwslpsct : Moved (fun j => j = g9) wslpsc wslpsct := by rw [hwslpsct]; exact Moved.putAll (F := fun j => j = g9) (.inl rfl) _ 0 (Moved.refl _ _)
              have hmwslpsct : Moved (fun j => D ≤ j) wslpsc wslpsct := hlwslpsct.mono (fun j e => by have e2 : j = g9 := e; have := hD9; show D ≤ j; omega)
              refine hK.out _ _ (HeldM.of hmwslpsct) (fun _ => ?_)
              clear hK K
              refine heldM_grow (w1 := wslpsct) hmwslpsct ?_
              clear hHeld
              have hHeld : HeldM (fun j => D ≤ j) wslpsct wslpsct := HeldM.refl _ _
              have hMwslpsct : Moved (fun j => D ≤ j) ws wslpsct := hMwslpsc.trans hmwslpsct (fun _ e => .inl e)
              have hZwslpsct : Has wslpsct g9 38 #[.slice sa nu sq, .slice sb mu sr, .bool u.firm] := by rw [hwslpsct]; exact hZwslpsc.whole_cs (cs2 := #[.slice sa nu sq, .slice sb mu sr, .bool u.firm]) rfl
              have hSwslpsct := txown_aside hSwslpsc hZwslpsc hlwslpsct
              refine take_at (v := ?_) 10 10 rfl rfl (by kernel_rfl) (by kernel_rfl) (by kernel_rfl) (fun _ _ _ h => h) hHeld (Or.inl ⟨by rfl, ?_⟩) rfl ?_
              rotate_left
              · intro wq hSw
                go_simp
                try with_reducible rfl
              simp only [List.set_cons_zero, List.set_cons_succ]
              refine wpAnyH_done (by kernel_rfl) ?_ _
              refine ⟨⟨g9, sa, sq, sb, sr, rfl, hZwslpsct, hSwslpsct.low (by have := hMwslp.size; have := HDs.out; omega), ?_⟩, rfl, rfl⟩
              exact Below.trans HDs.out.2 (hMwslpsct.below (fun _ e => e) (Nat.le_of_eq HDs.out.1.symm))
            · go_simp
              obtain ⟨wslpc, hwslpc⟩ : ∃ x, x = wslp.alloc (.cells zTx 38) := ⟨_, rfl⟩
              rw [← hwslpc]
              have hbwslpc : Below wslp.heap.size wslp wslpc := by rw [hwslpc]; exact (Below.refl _ _).alloc (Nat.le_refl _) _
              have hmwslpc : Moved (fun j => D ≤ j) wslp wslpc := Moved.of_below hbwslpc
              have hZwslpc : Has wslpc wslp.heap.size 38 zTx := by rw [hwslpc]; exact Has.fresh _ _ _
              have hDwslpc : D ≤ wslp.heap.size := by have := hMwslp.size; have := HDs.out; omega
              refine hK.out _ _ (HeldM.of hmwslpc) (fun _ => ?_)
              clear hK K
              try simp only [Act.put, List.setIfInBounds_toArray, List.set_cons_zero, List.set_cons_succ]
              refine heldM_grow (w1 := wslpc) hmwslpc ?_
              clear hHeld
              have hHeld : HeldM (fun j => D ≤ j) wslpc wslpc := HeldM.refl _ _
              obtain ⟨g9, hg9⟩ : ∃ g, g = wslp.heap.size := ⟨_, rfl⟩
              rw [← hg9] at hZwslpc hDwslpc ⊢
              clear hwslpc hg9
              have hD9 := hDwslpc
              have hMwslpc : Moved (fun j => D ≤ j) ws wslpc := hMwslp.then hbwslpc
              have hPwslpc := hPwslp.below hbwslpc
              refine wpAnyH_ready (rs := [4]) (by kernel_rfl) (by simp) ?_
              refine AllReadyH.cons rfl (fun K hK => ?_) AllReadyH.nil
              go_simp
              go_at_call 15; refine (psign_end HSG.out a2 q2 b2 r2 ka kq wslpc ((HBs.out.own).below (hMwslpc.held (fun _ e => e) HDs.out.1)) SA.out hPwslpc HS3.out (HBs.out.kd.below (hMwslpc.held (fun _ e => e) HDs.out.1))).mono ?_; rintro e wslpcs ⟨sa, sq, sb, sr, rfl, hSwslpcs, hbwslpcs⟩
              have hmwslpcs : Moved (fun j => D ≤ j) wslpc wslpcs := Moved.of_below hbwslpcs
              refine hK.out _ _ (HeldM.of hmwslpcs) (fun _ => ?_)
              clear hK K
              try simp only [Act.put, List.setIfInBounds_toArray, List.set_cons_zero, List.set_cons_succ]
              refine heldM_grow (w1 := wslpcs) hmwslpcs ?_
              clear hHeld
              have hHeld : HeldM (fun j => D ≤ j) wslpcs wslpcs := HeldM.refl _ _
              have hMwslpcs : Moved (fun j => D ≤ j) ws wslpcs := hMwslpc.then hbwslpcs
              have hZwslpcs := hZwslpc.under hbwslpcs hZwslpc.lt
              refine take_at (v := ?_) 5 42 rfl rfl (by kernel_rfl) (by kernel_rfl) (by kernel_rfl) (fun _ _ _ h => h) hHeld (Or.inl ⟨by rfl, ?_⟩) rfl ?_
              rotate_left
              · intro wq hSw
                go_simp
                try with_reducible rfl
              simp only [List.set_cons_zero, List.set_cons_succ]
              refine take_at (v := ?_) 6 48 rfl rfl (by kernel_rfl) (by kernel_rfl) (by kernel_rfl) (fun _ _ _ h => h) hHeld (Or.inl ⟨by rfl, ?_⟩) rfl ?_
              rotate_left
              · intro wq hSw
                go_simp
                try with_reducible rfl
              simp only [List.set_cons_zero, List.set_cons_succ]
              refine take_at (v := ?_) 7 49 rfl rfl (by kernel_rfl) (by kernel_rfl) (by kernel_rfl) (fun _ _ _ h => h) hHeld (Or.inl ⟨by rfl, ?_⟩) rfl ?_
              rotate_left
              · intro wq hSw
                go_simp
                try with_reducible rfl
              simp only [List.set_cons_zero, List.set_cons_succ]
              refine wpAnyH_ready (rs := [9]) (by kernel_rfl) (by simp) ?_
              refine AllReadyH.cons rfl (fun K hK => ?_) AllReadyH.nil
              refine step_store_row (by rfl) 38 (.tmp 9) (.tmp 48) rfl g9 0 (#[.slice sa nu sq, .slice sb mu sr, .bool u.firm]) (by first | rfl | simp [Act.eval]) (by first | rfl | simp [Act.eval]) (hZwslpcs.there 0 3 (Nat.le_refl _)) (by kernel_rfl) (vRec.all_one ⟨sa, nu, sq, sb, mu, sr, ⟨[], [], u.firm⟩⟩) rfl ?_
              obtain ⟨wslpcst, hwslpcst⟩ : ∃ x, x = wslpcs.setCells g9 0 (#[.slice sa nu sq, .slice sb mu sr, .bool u.firm]).toList := ⟨_, rfl⟩
              rw [← hwslpcst]
              have hlwslpcst : Moved (fun j => j = g9) wslpcs wslpcst := by rw [hwslpcst]; exact Moved.putAll (F := fun j => j = g9) (.inl rfl) _ 0 (Moved.refl _ _)
              have hmwslpcst : Moved (fun j => D ≤ j) wslpcs wslpcst := hlwslpcst.mono (fun j e => by have e2 : j = g9 := e; have := hD9; show D ≤ j; omega)
              refine hK.out _ _ (HeldM.of hmwslpcst) (fun _ => ?_)
              clear hK K
              refine heldM_grow (w1 := wslpcst) hmwslpcst ?_
              clear hHeld
              have hHeld : HeldM (fun j => D ≤ j) wslpcst wslpcst := HeldM.refl _ _
              have hMwslpcst : Moved (fun j => D ≤ j) ws wslpcst := hMwslpcs.trans hmwslpcst (fun _ e => .inl e)
              have hZwslpcst : Has wslpcst g9 38 #[.slice sa nu sq, .slice sb mu sr, .bool u.firm] := by rw [hwslpcst]; exact hZwslpcs.whole_cs (cs2 := #[.slice sa nu sq, .slice sb mu sr, .bool u.firm]) rfl
              have hSwslpcst := txown_aside hSwslpcs hZwslpcs hlwslpcst
              refine take_at (v := ?_) 10 10 rfl rfl (by kernel_rfl) (by kernel_rfl) (by kernel_rfl) (fun _ _ _ h => h) hHeld (Or.inl ⟨by rfl, ?_⟩) rfl ?_
              rotate_left
              · intro wq hSw
                go_simp
                try with_reducible rfl
              simp only [List.set_cons_zero, List.set_cons_succ]
              refine wpAnyH_done (by kernel_rfl) ?_ _
              refine ⟨⟨g9, sa, sq, sb, sr, rfl, hZwslpcst, hSwslpcst.low (by have := hMwslpc.size; have := HDs.out; omega), ?_⟩, rfl, rfl⟩
              exact Below.trans HDs.out.2 (hMwslpcst.below (fun _ e => e) (Nat.le_of_eq HDs.out.1.symm))
          · go_simp
            obtain ⟨wslc, hwslc⟩ : ∃ x, x = wsl.alloc (.cells zTx 38) := ⟨_, rfl⟩
            rw [← hwslc]
            have hbwslc : Below wsl.heap.size wsl wslc := by rw [hwslc]; exact (Below.refl _ _).alloc (Nat.le_refl _) _
            have hmwslc : Moved (fun j => D ≤ j) wsl wslc := Moved.of_below hbwslc
            have hZwslc : Has wslc wsl.heap.size 38 zTx := by rw [hwslc]; exact Has.fresh _ _ _
            have hDwslc : D ≤ wsl.heap.size := by have := hMwsl.size; have := HDs.out; omega
            refine hK.out _ _ (HeldM.of hmwslc) (fun _ => ?_)
            clear hK K
            try simp only [Act.put, List.setIfInBounds_toArray, List.set_cons_zero, List.set_cons_succ]
            refine heldM_grow (w1 := wslc) hmwslc ?_
            clear hHeld
            have hHeld : HeldM (fun j => D ≤ j) wslc wslc := HeldM.refl _ _
            obtain ⟨g9, hg9⟩ : ∃ g, g = wsl.heap.size := ⟨_, rfl⟩
            rw [← hg9] at hZwslc hDwslc ⊢
            clear hwslc hg9
            have hD9 := hDwslc
            have hMwslc : Moved (fun j => D ≤ j) ws wslc := hMwsl.then hbwslc
            have hLwslc := hLwsl.under hbwslc hLwsl.lt
            refine wpAnyH_ready (rs := [3]) (by kernel_rfl) (by simp) ?_
            refine AllReadyH.cons rfl (fun K hK => ?_) AllReadyH.nil
            refine step_append_recs (R := strRec) (by rfl) (.tmp 44) (.tmp 45) 39 rfl 9 Tryd.underlying39 info_str rfl (by decide) D _ [] (by first | rfl | simp [Act.eval]) (OwnR.empty hDL hLwslc) ca i cq keys (by first | rfl | simp [Act.eval]) ((HBs.out.ks).below (hMwslc.held (fun _ e => e) HDs.out.1)) HCQ.out.2 (by simp; omega) (by have := hMwslc.size; have := HDs.out; omega) ?_
            intro va wslcp howslcp hgwslcp _
            rw [List.nil_append] at howslcp
            obtain ⟨ka, kq, rfl, _, _, _, hPwslcp⟩ := howslcp.shape (K := i) HBs.out.ks.1
            have hlwslcp : Moved (fun j => j = gL) wslc wslcp := Moved.of_grown hgwslcp (fun j e => by injection e with e; exact e.symm)
            have hmwslcp : Moved (fun j => D ≤ j) wslc wslcp := hlwslcp.mono (fun j e => by have e2 : j = gL := e; have := hDL; show D ≤ j; omega)
            refine hK.out _ _ (HeldM.of hmwslcp) (fun _ => ?_)
            clear hK K
            try simp only [Act.put]
            try simp only [List.setIfInBounds_toArray]
            try simp only [List.set_cons_zero, List.set_cons_succ]
            refine heldM_grow (w1 := wslcp) hmwslcp ?_
            clear hHeld
            have hHeld : HeldM (fun j => D ≤ j) wslcp wslcp := HeldM.refl _ _
            have hMwslcp : Moved (fun j => D ≤ j) ws wslcp := hMwslc.trans hmwslcp (fun _ e => .inl e)
            have hZwslcp := hZwslc.moved hlwslcp (fun e => Has.ne_type hZwslc hLwslc (by decide) e)
            refine wpAnyH_ready (rs := [4]) (by kernel_rfl) (by simp) ?_
            refine AllReadyH.cons rfl (fun K hK => ?_) AllReadyH.nil
            go_simp
            go_at_call 15; refine (psign_end HSG.out a2 q2 b2 r2 ka kq wslcp ((HBs.out.own).below (hMwslcp.held (fun _ e => e) HDs.out.1)) SA.out hPwslcp HS3.out (HBs.out.kd.below (hMwslcp.held (fun _ e => e) HDs.out.1))).mono ?_; rintro e wslcps ⟨sa, sq, sb, sr, rfl, hSwslcps, hbwslcps⟩
            have hmwslcps : Moved (fun j => D ≤ j) wslcp wslcps := Moved.of_below hbwslcps
            refine hK.out _ _ (HeldM.of hmwslcps) (fun _ => ?_)
            clear hK K
            try simp only [Act.put, List.setIfInBounds_toArray, List.set_cons_zero, List.set_cons_succ]
            refine heldM_grow (w1 := wslcps) hmwslcps ?_
            clear hHeld
            have hHeld : HeldM (fun j => D ≤ j) wslcps wslcps := HeldM.refl _ _
            have hMwslcps : Moved (fun j => D ≤ j) ws wslcps := hMwslcp.then hbwslcps
            have hZwslcps := hZwslcp.under hbwslcps hZwslcp.lt
            refine take_at (v := ?_) 5 42 rfl rfl (by kernel_rfl) (by kernel_rfl) (by kernel_rfl) (fun _ _ _ h => h) hHeld (Or.inl ⟨by rfl, ?_⟩) rfl ?_
            rotate_left
            · intro wq hSw
              go_simp
              try with_reducible rfl
            simp only [List.set_cons_zero, List.set_cons_succ]
            refine take_at (v := ?_) 6 48 rfl rfl (by kernel_rfl) (by kernel_rfl) (by kernel_rfl) (fun _ _ _ h => h) hHeld (Or.inl ⟨by rfl, ?_⟩) rfl ?_
            rotate_left
            · intro wq hSw
              go_simp
              try with_reducible rfl
            simp only [List.set_cons_zero, List.set_cons_succ]
            refine take_at (v := ?_) 7 49 rfl rfl (by kernel_rfl) (by kernel_rfl) (by kernel_rfl) (fun _ _ _ h => h) hHeld (Or.inl ⟨by rfl, ?_⟩) rfl ?_
            rotate_left
            · intro wq hSw
              go_simp
              try with_reducible rfl
            simp only [List.set_cons_zero, List.set_cons_succ]
            refine wpAnyH_ready (rs := [9]) (by kernel_rfl) (by simp) ?_
            refine AllReadyH.cons rfl (fun K hK => ?_) AllReadyH.nil
            refine step_store_row (by rfl) 38 (.tmp 9) (.tmp 48) rfl g9 0 (#[.slice sa nu sq, .slice sb mu sr, .bool u.firm]) (by first | rfl | simp [Act.eval]) (by first | rfl | simp [Act.eval]) (hZwslcps.there 0 3 (Nat.le_refl _)) (by kernel_rfl) (vRec.all_one ⟨sa, nu, sq, sb, mu, sr, ⟨[], [], u.firm⟩⟩) rfl ?_
            obtain ⟨wslcpst, hwslcpst⟩ : ∃ x, x = wslcps.setCells g9 0 (#[.slice sa nu sq, .slice sb mu sr, .bool u.firm]).toList := ⟨_, rfl⟩
            rw [← hwslcpst]
            have hlwslcpst : Moved (fun j => j = g9) wslcps wslcpst := by rw [hwslcpst]; exact Moved.putAll (F := fun j => j = g9) (.inl rfl) _ 0 (Moved.refl _ _)
            have hmwslcpst : Moved (fun j => D ≤ j) wslcps wslcpst := hlwslcpst.mono (fun j e => by have e2 : j = g9 := e; have := hD9; show D ≤ j; omega)
            refine hK.out _ _ (HeldM.of hmwslcpst) (fun _ => ?_)
            clear hK K
            refine heldM_grow (w1 := wslcpst) hmwslcpst ?_
            clear hHeld
            have hHeld : HeldM (fun j => D ≤ j) wslcpst wslcpst := HeldM.refl _ _
            have hMwslcpst : Moved (fun j => D ≤ j) ws wslcpst := hMwslcps.trans hmwslcpst (fun _ e => .inl e)
            have hZwslcpst : Has wslcpst g9 38 #[.slice sa nu sq, .slice sb mu sr, .bool u.firm] := by rw [hwslcpst]; exact hZwslcps.whole_cs (cs2 := #[.slice sa nu sq, .slice sb mu sr, .bool u.firm]) rfl
            have hSwslcpst := txown_aside hSwslcps hZwslcps hlwslcpst
            refine take_at (v := ?_) 10 10 rfl rfl (by kernel_rfl) (by kernel_rfl) (by kernel_rfl) (fun _ _ _ h => h) hHeld (Or.inl ⟨by rfl, ?_⟩) rfl ?_
            rotate_left
            · intro wq hSw
              go_simp
              try with_reducible rfl
            simp only [List.set_cons_zero, List.set_cons_succ]
            refine wpAnyH_done (by kernel_rfl) ?_ _
            refine ⟨⟨g9, sa, sq, sb, sr, rfl, hZwslcpst, hSwslcpst.low (by have := hMwslcp.size; have := HDs.out; omega), ?_⟩, rfl, rfl⟩
            exact Below.trans HDs.out.2 (hMwslcpst.below (fun _ e => e) (Nat.le_of_eq HDs.out.1.symm))
        · go_simp
          obtain ⟨wsc, hwsc⟩ : ∃ x, x = ws.alloc (.cells zTx 38) := ⟨_, rfl⟩
          rw [← hwsc]
          have hbwsc : Below ws.heap.size ws wsc := by rw [hwsc]; exact (Below.refl _ _).alloc (Nat.le_refl _) _
          have hmwsc : Moved (fun j => D ≤ j) ws wsc := Moved.of_below hbwsc
          have hZwsc : Has wsc ws.heap.size 38 zTx := by rw [hwsc]; exact Has.fresh _ _ _
          have hDwsc : D ≤ ws.heap.size := by have := hMws.size; have := HDs.out; omega
          refine hK.out _ _ (HeldM.of hmwsc) (fun _ => ?_)
          clear hK K
          try simp only [Act.put]
          try simp only [List.setIfInBounds_toArray]
          try simp only [List.set_cons_zero, List.set_cons_succ]
          refine heldM_grow (w1 := wsc) hmwsc ?_
          clear hHeld
          have hHeld : HeldM (fun j => D ≤ j) wsc wsc := HeldM.refl _ _
          obtain ⟨g9, hg9⟩ : ∃ g, g = ws.heap.size := ⟨_, rfl⟩
          rw [← hg9] at hZwsc hDwsc ⊢
          clear hwsc hg9
          have hD9 := hDwsc
          have hMwsc : Moved (fun j => D ≤ j) ws wsc := hMws.then hbwsc
          refine wpAnyH_ready (rs := [1]) (by kernel_rfl) (by simp) ?_
          refine AllReadyH.cons rfl (fun K hK => ?_) AllReadyH.nil
          go_simp
          obtain ⟨wscl, hwscl⟩ : ∃ x, x = wsc.alloc (.cells #[] 9) := ⟨_, rfl⟩
          rw [← hwscl]
          have hbwscl : Below wsc.heap.size wsc wscl := by rw [hwscl]; exact (Below.refl _ _).alloc (Nat.le_refl _) _
          have hmwscl : Moved (fun j => D ≤ j) wsc wscl := Moved.of_below hbwscl
          have hLwscl : Has wscl wsc.heap.size 9 #[] := by rw [hwscl]; exact Has.fresh _ _ _
          have hDwscl : D ≤ wsc.heap.size := by have := hMwsc.size; have := HDs.out; omega
          refine hK.out _ _ (HeldM.of hmwscl) (fun _ => ?_)
          clear hK K
          try simp only [Act.put]
          try simp only [List.setIfInBounds_toArray]
          try simp only [List.set_cons_zero, List.set_cons_succ]
          refine heldM_grow (w1 := wscl) hmwscl ?_
          clear hHeld
          have hHeld : HeldM (fun j => D ≤ j) wscl wscl := HeldM.refl _ _
          obtain ⟨gL, hgL⟩ : ∃ g, g = wsc.heap.size := ⟨_, rfl⟩
          rw [← hgL] at hLwscl hDwscl ⊢
          clear hwscl hgL
          have hDL := hDwscl
          have hMwscl : Moved (fun j => D ≤ j) ws wscl := hMwsc.then hbwscl
          have hZwscl := hZwsc.under hbwscl hZwsc.lt
          refine wpAnyH_ready (rs := [3]) (by kernel_rfl) (by simp) ?_
          refine AllReadyH.cons rfl (fun K hK => ?_) AllReadyH.nil
          refine step_append_recs (R := strRec) (by rfl) (.tmp 44) (.tmp 45) 39 rfl 9 Tryd.underlying39 info_str rfl (by decide) D _ [] (by first | rfl | simp [Act.eval]) (OwnR.empty hDL hLwscl) ca i cq keys (by first | rfl | simp [Act.eval]) ((HBs.out.ks).below (hMwscl.held (fun _ e => e) HDs.out.1)) HCQ.out.2 (by simp; omega) (by have := hMwscl.size; have := HDs.out; omega) ?_
          intro va wsclp howsclp hgwsclp _
          rw [List.nil_append] at howsclp
          obtain ⟨ka, kq, rfl, _, _, _, hPwsclp⟩ := howsclp.shape (K := i) HBs.out.ks.1
          have hlwsclp : Moved (fun j => j = gL) wscl wsclp := Moved.of_grown hgwsclp (fun j e => by injection e with e; exact e.symm)
          have hmwsclp : Moved (fun j => D ≤ j) wscl wsclp := hlwsclp.mono (fun j e => by have e2 : j = gL := e; have := hDL; show D ≤ j; omega)
          refine hK.out _ _ (HeldM.of hmwsclp) (fun _ => ?_)
          clear hK K
          try simp only [Act.put]
          try simp only [List.setIfInBounds_toArray]
          try simp only [List.set_cons_zero, List.set_cons_succ]
          refine heldM_grow (w1 := wsclp) hmwsclp ?_
          clear hHeld
          have hHeld : HeldM (fun j => D ≤ j) wsclp wsclp := HeldM.refl _ _
          have hMwsclp : Moved (fun j => D ≤ j) ws wsclp := hMwscl.trans hmwsclp (fun _ e => .inl e)
          have hZwsclp := hZwscl.moved hlwsclp (fun e => Has.ne_type hZwscl hLwscl (by decide) e)
          refine wpAnyH_ready (rs := [4]) (by kernel_rfl) (by simp) ?_
          refine AllReadyH.cons rfl (fun K hK => ?_) AllReadyH.nil
          go_simp
          go_at_call 15; refine (psign_end HSG.out a2 q2 b2 r2 ka kq wsclp ((HBs.out.own).below (hMwsclp.held (fun _ e => e) HDs.out.1)) SA.out hPwsclp HS3.out (HBs.out.kd.below (hMwsclp.held (fun _ e => e) HDs.out.1))).mono ?_; rintro e wsclps ⟨sa, sq, sb, sr, rfl, hSwsclps, hbwsclps⟩
          have hmwsclps : Moved (fun j => D ≤ j) wsclp wsclps := Moved.of_below hbwsclps
          refine hK.out _ _ (HeldM.of hmwsclps) (fun _ => ?_)
          clear hK K
          try simp only [Act.put, List.setIfInBounds_toArray, List.set_cons_zero, List.set_cons_succ]
          refine heldM_grow (w1 := wsclps) hmwsclps ?_
          clear hHeld
          have hHeld : HeldM (fun j => D ≤ j) wsclps wsclps := HeldM.refl _ _
          have hMwsclps : Moved (fun j => D ≤ j) ws wsclps := hMwsclp.then hbwsclps
          have hZwsclps := hZwsclp.under hbwsclps hZwsclp.lt
          refine take_at (v := ?_) 5 42 rfl rfl (by kernel_rfl) (by kernel_rfl) (by kernel_rfl) (fun _ _ _ h => h) hHeld (Or.inl ⟨by rfl, ?_⟩) rfl ?_
          rotate_left
          · intro wq hSw
            go_simp
            try with_reducible rfl
          simp only [List.set_cons_zero, List.set_cons_succ]
          refine take_at (v := ?_) 6 48 rfl rfl (by kernel_rfl) (by kernel_rfl) (by kernel_rfl) (fun _ _ _ h => h) hHeld (Or.inl ⟨by rfl, ?_⟩) rfl ?_
          rotate_left
          · intro wq hSw
            go_simp
            try with_reducible rfl
          simp only [List.set_cons_zero, List.set_cons_succ]
          refine take_at (v := ?_) 7 49 rfl rfl (by kernel_rfl) (by kernel_rfl) (by kernel_rfl) (fun _ _ _ h => h) hHeld (Or.inl ⟨by rfl, ?_⟩) rfl ?_
          rotate_left
          · intro wq hSw
            go_simp
            try with_reducible rfl
          simp only [List.set_cons_zero, List.set_cons_succ]
          refine wpAnyH_ready (rs := [9]) (by kernel_rfl) (by simp) ?_
          refine AllReadyH.cons rfl (fun K hK => ?_) AllReadyH.nil
          refine step_store_row (by rfl) 38 (.tmp 9) (.tmp 48) rfl g9 0 (#[.slice sa nu sq, .slice sb mu sr, .bool u.firm]) (by first | rfl | simp [Act.eval]) (by first | rfl | simp [Act.eval]) (hZwsclps.there 0 3 (Nat.le_refl _)) (by kernel_rfl) (vRec.all_one ⟨sa, nu, sq, sb, mu, sr, ⟨[], [], u.firm⟩⟩) rfl ?_
          obtain ⟨wsclpst, hwsclpst⟩ : ∃ x, x = wsclps.setCells g9 0 (#[.slice sa nu sq, .slice sb mu sr, .bool u.firm]).toList := ⟨_, rfl⟩
          rw [← hwsclpst]
          have hlwsclpst : Moved (fun j => j = g9) wsclps wsclpst := by rw [hwsclpst]; exact Moved.putAll (F := fun j => j = g9) (.inl rfl) _ 0 (Moved.refl _ _)
          have hmwsclpst : Moved (fun j => D ≤ j) wsclps wsclpst := hlwsclpst.mono (fun j e => by have e2 : j = g9 := e; have := hD9; show D ≤ j; omega)
          refine hK.out _ _ (HeldM.of hmwsclpst) (fun _ => ?_)
          clear hK K
          refine heldM_grow (w1 := wsclpst) hmwsclpst ?_
          clear hHeld
          have hHeld : HeldM (fun j => D ≤ j) wsclpst wsclpst := HeldM.refl _ _
          have hMwsclpst : Moved (fun j => D ≤ j) ws wsclpst := hMwsclps.trans hmwsclpst (fun _ e => .inl e)
          have hZwsclpst : Has wsclpst g9 38 #[.slice sa nu sq, .slice sb mu sr, .bool u.firm] := by rw [hwsclpst]; exact hZwsclps.whole_cs (cs2 := #[.slice sa nu sq, .slice sb mu sr, .bool u.firm]) rfl
          have hSwsclpst := txown_aside hSwsclps hZwsclps hlwsclpst
          refine take_at (v := ?_) 10 10 rfl rfl (by kernel_rfl) (by kernel_rfl) (by kernel_rfl) (fun _ _ _ h => h) hHeld (Or.inl ⟨by rfl, ?_⟩) rfl ?_
          rotate_left
          · intro wq hSw
            go_simp
            try with_reducible rfl
          simp only [List.set_cons_zero, List.set_cons_succ]
          refine wpAnyH_done (by kernel_rfl) ?_ _
          refine ⟨⟨g9, sa, sq, sb, sr, rfl, hZwsclpst, hSwsclpst.low (by have := hMwsclp.size; have := HDs.out; omega), ?_⟩, rfl, rfl⟩
          exact Below.trans HDs.out.2 (hMwsclpst.below (fun _ e => e) (Nat.le_of_eq HDs.out.1.symm))
      · intro vs w9 hvs hJ
        obtain ⟨g9, sa, sq, sb, sr, htk, hZ, hS, hb9⟩ := hJ
        obtain ⟨x0, xE, x2, x3, x4, x5, x6, x7, x8, x9, x10, x11, x12, x13, x14, x15, x16, x17, x18, x19, x20, x21, x22, x23, x24, x25, x26, x27, x28, x29, x30, x31, x32, x33, x34, x35, x36, x37, x38, x39, x40, rfl⟩ := list41 hvs
        clear hvs
        obtain ⟨rfl, rfl⟩ : x0 = .pointer (some ⟨g9, 0, none⟩) ∧ xE = ev := by simpa using htk
        clear htk
        simp only [Act.put, List.take_succ_cons, List.take_zero, List.drop_succ_cons, List.drop_zero, List.cons_append, List.nil_append]
        have hb9w : Below w8.heap.size w8 w9 := by rw [HDD.out.1]; exact hb9
        have HBW := HB8
        replace HB8 := Lib.hid (HB8.out.below hb9w)
        have lX := (HB8.out.X).load_agg (P := Tryd.prog) (t := 38) Tryd.underlying38 rfl (by kernel_rfl)
        have lY := (HB8.out.Y).load_agg (P := Tryd.prog) (t := 38) Tryd.underlying38 rfl (by kernel_rfl)
        go_upto_region 17 with (first
          | (go_at_call 16; refine (txeq_any a2 n q2 b2 m r2 t a n q b m r t w9 HB8.out.own HB8.out.tx).mono ?_; rw [decide_eq_true rfl]; rintro e w10 ⟨rfl, hb10⟩)
          | (refine wpList_load_run rfl 38 (.tmp 8) rfl _ _ rfl lY ?_)
          | (refine wpList_load_run rfl 38 (.tmp 2) rfl _ _ rfl lX ?_))

        clear lX lY
        replace HB8 := Lib.hid (HB8.out.below hb10)
        replace hZ := hZ.under hb10 hZ.lt
        replace hS := hS.below hb10
        replace hb9 : Below D w8 w10 := hb9.trans (hb10.mono (by have := hb9w.size; have := HDD.out.1; omega))
        have hDw : D ≤ w10.heap.size := by have := hb9w.size; have := HDD.out.1; have := hb10.size; omega
        clear hb10 hb9w
        have c0 : w10.cell? ⟨g1, 0, none⟩ = some (.slice a n q) := HB8.out.X.cell_at rfl
        have hnmx := HNM.out.2.2
        by_cases hne : i = n
        · have HKL := Lib.hid hkl
          clear hkl
          subst i
          rcases HSG.out with ⟨_, h2, h3, h4, h5⟩ | ⟨h1, _⟩
          rotate_left
          · exact absurd rfl h1
          rw [h2, h4, h5] at hZ hS
          rw [h3]
          clear HSG h2 h3 h4 h5
          go_upto_region 19 with fail
          have hkn : keys.length = t.sp.length := by rw [HKL.out, show t.sp.length = n from HB8.out.tx.sp.1]
          obtain ⟨v, hv⟩ : ∃ v, v = Lk.sign t keys := ⟨_, rfl⟩
          obtain ⟨id, hid⟩ : ∃ d, d = Tx.idOf false t := ⟨_, rfl⟩
          have HV := Lib.hid (show v = Lk.sign t keys ∧ Lk.sign v keys = v ∧ Tx.Small v ∧ Tx.idOf false v = id ∧ Tx.idOf false t = id ∧ id.length = 32 ∧ Lk.check v (Lk.coins keys) = 0 from
            ⟨hv, by rw [hv]; exact Lk.sign_again t keys hkn, by rw [hv]; exact Lk.sign_small SA.out keys hkn HS3.out, by rw [hv, hid]; exact Lk.id_sign t keys hkn, hid.symm, by rw [hid]; exact Tx.idOf_len _ _, by rw [hv]; exact Lk.check_sign t keys hkn⟩)
          rw [← hv] at hZ hS
          have HKN := Lib.hid hkn
          clear hv hid hkn HKL
          have HCH0 := Lib.hid (show errn (Lk.check v (Lk.coins keys)) = .nilIface by rw [HV.out.2.2.2.2.2.2]; rfl)
          obtain ⟨ws, hws⟩ : ∃ x, x = w10.drew := ⟨_, rfl⟩
          have hbs : Below w10.heap.size w10 ws := by rw [hws]; exact (Below.refl _ _).drew
          have HB := Lib.hid (HB8.out.below hbs)
          have HZ := Lib.hid (hZ.under hbs hZ.lt)
          have HSO := Lib.hid (hS.below hbs)
          have HDL := Lib.hid (show D ≤ ws.heap.size ∧ Below D w8 ws from ⟨Nat.le_trans hDw hbs.size, hb9.trans (hbs.mono hDw)⟩)
          have HND := Lib.hid (show n ≤ 9223372036854775807 from hnmx)
          clear HB8 hZ hS hb9 hDw hbs c0
          refine wp_region_held_drew (S := Held ws) (by kernel_rfl) (by rw [hws]; exact Held.refl _) (fun hHeld => ?_)
          rw [← hws] at hHeld ⊢
          clear hws
          refine take_at (v := ?_) 0 73 rfl rfl (by kernel_rfl) (by kernel_rfl) (by kernel_rfl) (fun _ _ _ h => h) hHeld (Or.inl ⟨by rfl, ?_⟩) rfl ?_
          rotate_left
          · intro wq hSw
            go_simp
            try with_reducible rfl
          simp only [List.set_cons_zero, List.set_cons_succ]
          refine take_at (v := ?_) 1 74 rfl rfl (by kernel_rfl) (by kernel_rfl) (by kernel_rfl) (fun _ _ _ h => h) hHeld (Or.inl ⟨by rfl, ?_⟩) rfl ?_
          rotate_left
          · intro wq hSw
            go_simp
            try with_reducible rfl
          simp only [List.set_cons_zero, List.set_cons_succ]
          refine take_at (v := ?_) 2 75 rfl rfl (by kernel_rfl) (by kernel_rfl) (by kernel_rfl) (fun _ _ _ h => h) hHeld (Or.inl ⟨by rfl, ?_⟩) rfl ?_
          rotate_left
          · intro wq hSw
            go_simp
            try with_reducible rfl
          simp only [List.set_cons_zero, List.set_cons_succ]
          refine take_at 3 76 rfl rfl (by kernel_rfl) (by kernel_rfl) (by kernel_rfl) (fun _ _ _ h => h) hHeld (yieldsIf_load_agg (by rfl) 38 (.tmp 9) rfl _ _ (by rfl) (fun wq hSw => (HZ.out.under hSw HZ.out.lt).load_agg (P := Tryd.prog) (t := 38) Tryd.underlying38 rfl (by kernel_rfl))) rfl ?_
          simp only [List.set_cons_zero, List.set_cons_succ]
          refine take_at 4 77 rfl rfl (by kernel_rfl) (by kernel_rfl) (by kernel_rfl) (fun _ _ _ h => h) hHeld (yieldsIf_load_agg (by rfl) 38 (.tmp 2) rfl _ _ (by rfl) (fun wq hSw => (HB.out.X.under hSw HB.out.X.lt).load_agg (P := Tryd.prog) (t := 38) Tryd.underlying38 rfl (by kernel_rfl))) rfl ?_
          simp only [List.set_cons_zero, List.set_cons_succ]
          refine take_at (v := ?_) 5 78 rfl rfl (by kernel_rfl) (by kernel_rfl) (by kernel_rfl) (fun _ _ _ h => h) hHeld (Or.inl ⟨by rfl, ?_⟩) rfl ?_
          rotate_left
          · intro wq hSw
            go_simp
            try with_reducible rfl
          simp only [List.set_cons_zero, List.set_cons_succ]
          refine wpAnyH_ready (rs := [6]) (by kernel_rfl) (by simp) ?_
          refine AllReadyH.cons rfl (fun K hK => ?_) AllReadyH.nil
          go_simp
          go_at_call 19; refine (rsign_end HV.out.1 a n q b m r ca cq ws HB.out.tx SA.out HB.out.ks HS3.out HB.out.tab).mono ?_; rintro e k1 ⟨ra, rq, rfl, hR, hkk1⟩
          refine hK.out _ _ (Held.of hkk1) (fun _ => ?_)
          clear hK K
          try simp only [Act.put, List.setIfInBounds_toArray, List.set_cons_zero, List.set_cons_succ]
          refine held_grow (w1 := k1) (Held.of hkk1) ?_
          clear hHeld
          have hHeld : Held k1 k1 := Held.refl _
          have HRT := Lib.hid hR
          clear hR
          replace HB := Lib.hid (HB.out.below hkk1)
          replace HZ := Lib.hid (HZ.out.under hkk1 HZ.out.lt)
          replace HSO := Lib.hid (HSO.out.below hkk1)
          replace HDL := Lib.hid (And.intro (Nat.le_trans HDL.out.1 hkk1.size) (HDL.out.2.trans (hkk1.mono HDL.out.1)))
          clear hkk1
          refine wpAnyH_ready (rs := [7]) (by kernel_rfl) (by simp) ?_
          refine AllReadyH.cons rfl (fun K hK => ?_) AllReadyH.nil
          go_simp
          go_at_call 16; refine (txeq_any sa n sq sb m sr v ra n rq b m r v k1 HSO.out.at HRT.out).mono ?_; rw [decide_eq_true rfl]; rintro e k2 ⟨rfl, hkk2⟩
          refine hK.out _ _ (Held.of hkk2) (fun _ => ?_)
          clear hK K
          try simp only [Act.put, List.setIfInBounds_toArray, List.set_cons_zero, List.set_cons_succ]
          refine held_grow (w1 := k2) (Held.of hkk2) ?_
          clear hHeld
          have hHeld : Held k2 k2 := Held.refl _
          clear HRT
          replace HB := Lib.hid (HB.out.below hkk2)
          replace HZ := Lib.hid (HZ.out.under hkk2 HZ.out.lt)
          replace HSO := Lib.hid (HSO.out.below hkk2)
          replace HDL := Lib.hid (And.intro (Nat.le_trans HDL.out.1 hkk2.size) (HDL.out.2.trans (hkk2.mono HDL.out.1)))
          clear hkk2
          refine take_at (v := ?_) 8 81 rfl rfl (by kernel_rfl) (by kernel_rfl) (by kernel_rfl) (fun _ _ _ h => h) hHeld (Or.inl ⟨by rfl, ?_⟩) rfl ?_
          rotate_left
          · intro wq hSw
            go_simp
            try with_reducible rfl
          simp only [List.set_cons_zero, List.set_cons_succ]
          refine take_at (v := ?_) 9 82 rfl rfl (by kernel_rfl) (by kernel_rfl) (by kernel_rfl) (fun _ _ _ h => h) hHeld (Or.inl ⟨by rfl, ?_⟩) rfl ?_
          rotate_left
          · intro wq hSw
            go_simp
            try with_reducible rfl
          simp only [List.set_cons_zero, List.set_cons_succ]
          refine take_at (v := ?_) 10 83 rfl rfl (by kernel_rfl) (by kernel_rfl) (by kernel_rfl) (fun _ _ _ h => h) hHeld (Or.inl ⟨by rfl, ?_⟩) rfl ?_
          rotate_left
          · intro wq hSw
            go_simp
            try with_reducible rfl
          simp only [List.set_cons_zero, List.set_cons_succ]
          refine take_at 11 84 rfl rfl (by kernel_rfl) (by kernel_rfl) (by kernel_rfl) (fun _ _ _ h => h) hHeld (yieldsIf_load_agg (by rfl) 38 (.tmp 9) rfl _ _ (by rfl) (fun wq hSw => (HZ.out.under hSw HZ.out.lt).load_agg (P := Tryd.prog) (t := 38) Tryd.underlying38 rfl (by kernel_rfl))) rfl ?_
          simp only [List.set_cons_zero, List.set_cons_succ]
          refine take_at 13 86 rfl rfl (by kernel_rfl) (by kernel_rfl) (by kernel_rfl) (fun _ _ _ h => h) hHeld (yieldsIf_load_agg (by rfl) 38 (.tmp 2) rfl _ _ (by rfl) (fun wq hSw => (HB.out.X.under hSw HB.out.X.lt).load_agg (P := Tryd.prog) (t := 38) Tryd.underlying38 rfl (by kernel_rfl))) rfl ?_
          simp only [List.set_cons_zero, List.set_cons_succ]
          refine wpAnyH_ready (rs := [12]) (by kernel_rfl) (by simp) ?_
          refine AllReadyH.cons rfl (fun K hK => ?_) AllReadyH.nil
          go_simp
          go_at_call 20; refine (pid_any sa n sq sb m sr v v.firm rfl k2 HSO.out.at HV.out.2.2.1 HB.out.kd).mono ?_; rw [HV.out.2.2.2.1]; rintro e k3 ⟨rfl, hkk3⟩
          refine hK.out _ _ (Held.of hkk3) (fun _ => ?_)
          clear hK K
          try simp only [Act.put, List.setIfInBounds_toArray, List.set_cons_zero, List.set_cons_succ]
          refine held_grow (w1 := k3) (Held.of hkk3) ?_
          clear hHeld
          have hHeld : Held k3 k3 := Held.refl _
          replace HB := Lib.hid (HB.out.below hkk3)
          replace HZ := Lib.hid (HZ.out.under hkk3 HZ.out.lt)
          replace HSO := Lib.hid (HSO.out.below hkk3)
          replace HDL := Lib.hid (And.intro (Nat.le_trans HDL.out.1 hkk3.size) (HDL.out.2.trans (hkk3.mono HDL.out.1)))
          clear hkk3
          refine wpAnyH_ready (rs := [14]) (by kernel_rfl) (by simp) ?_
          refine AllReadyH.cons rfl (fun K hK => ?_) AllReadyH.nil
          go_simp
          go_at_call 20; refine (pid_any a n q b m r t t.firm rfl k3 HB.out.tx SA.out HB.out.kd).mono ?_; rw [HV.out.2.2.2.2.1]; rintro e k4 ⟨rfl, hkk4⟩
          refine hK.out _ _ (Held.of hkk4) (fun _ => ?_)
          clear hK K
          try simp only [Act.put, List.setIfInBounds_toArray, List.set_cons_zero, List.set_cons_succ]
          refine held_grow (w1 := k4) (Held.of hkk4) ?_
          clear hHeld
          have hHeld : Held k4 k4 := Held.refl _
          replace HB := Lib.hid (HB.out.below hkk4)
          replace HZ := Lib.hid (HZ.out.under hkk4 HZ.out.lt)
          replace HSO := Lib.hid (HSO.out.below hkk4)
          replace HDL := Lib.hid (And.intro (Nat.le_trans HDL.out.1 hkk4.size) (HDL.out.2.trans (hkk4.mono HDL.out.1)))
          clear hkk4
          refine take_at 15 88 rfl rfl (by kernel_rfl) (by kernel_rfl) (by kernel_rfl) (fun _ _ _ h => h) hHeld (yieldsIf_neq_same (by rfl) 23 5 23 32 (.tmp 85) (.tmp 87) rfl id (by rfl) (by rfl) (by kernel_rfl) Tryd.underlying23 Tryd.underlying5 (by kernel_rfl) HV.out.2.2.2.2.2.1) rfl ?_
          simp only [List.set_cons_zero, List.set_cons_succ]
          refine take_at (v := ?_) 16 89 rfl rfl (by kernel_rfl) (by kernel_rfl) (by kernel_rfl) (fun _ _ _ h => h) hHeld (Or.inl ⟨by rfl, ?_⟩) rfl ?_
          rotate_left
          · intro wq hSw
            go_simp
            try with_reducible rfl
          simp only [List.set_cons_zero, List.set_cons_succ]
          refine take_at (v := ?_) 17 90 rfl rfl (by kernel_rfl) (by kernel_rfl) (by kernel_rfl) (fun _ _ _ h => h) hHeld (Or.inl ⟨by rfl, ?_⟩) rfl ?_
          rotate_left
          · intro wq hSw
            go_simp
            try with_reducible rfl
          simp only [List.set_cons_zero, List.set_cons_succ]
          refine take_at 18 91 rfl rfl (by kernel_rfl) (by kernel_rfl) (by kernel_rfl) (fun _ _ _ h => h) hHeld (yieldsIf_load_agg (by rfl) 38 (.tmp 9) rfl _ _ (by rfl) (fun wq hSw => (HZ.out.under hSw HZ.out.lt).load_agg (P := Tryd.prog) (t := 38) Tryd.underlying38 rfl (by kernel_rfl))) rfl ?_
          simp only [List.set_cons_zero, List.set_cons_succ]
          refine take_at (v := ?_) 19 92 rfl rfl (by kernel_rfl) (by kernel_rfl) (by kernel_rfl) (fun _ _ _ h => h) hHeld (Or.inl ⟨by rfl, ?_⟩) rfl ?_
          rotate_left
          · intro wq hSw
            go_simp
            try with_reducible rfl
          simp only [List.set_cons_zero, List.set_cons_succ]
          refine wpAnyH_ready (rs := [20]) (by kernel_rfl) (by simp) ?_
          refine AllReadyH.cons rfl (fun K hK => ?_) AllReadyH.nil
          go_simp
          go_at_call 18; refine (lockChk sa n sq sb m sr v oa n oq (Lk.coins keys) k4 HB.out.kd HSO.out.at HV.out.2.2.1 HB.out.co HB.out.coq).mono ?_; rw [HCH0.out]; rintro e k5 ⟨rfl, hkk5⟩
          refine hK.out _ _ (Held.of hkk5) (fun _ => ?_)
          clear hK K
          try simp only [Act.put, List.setIfInBounds_toArray, List.set_cons_zero, List.set_cons_succ]
          refine held_grow (w1 := k5) (Held.of hkk5) ?_
          clear hHeld
          have hHeld : Held k5 k5 := Held.refl _
          replace HB := Lib.hid (HB.out.below hkk5)
          replace HZ := Lib.hid (HZ.out.under hkk5 HZ.out.lt)
          replace HSO := Lib.hid (HSO.out.below hkk5)
          replace HDL := Lib.hid (And.intro (Nat.le_trans HDL.out.1 hkk5.size) (HDL.out.2.trans (hkk5.mono HDL.out.1)))
          clear hkk5
          refine take_at (v := ?_) 21 94 rfl rfl (by kernel_rfl) (by kernel_rfl) (by kernel_rfl) (fun _ _ _ h => h) hHeld (Or.inl ⟨by rfl, ?_⟩) rfl ?_
          rotate_left
          · intro wq hSw
            go_simp
            try with_reducible rfl
          simp only [List.set_cons_zero, List.set_cons_succ]
          refine take_at (v := ?_) 22 95 rfl rfl (by kernel_rfl) (by kernel_rfl) (by kernel_rfl) (fun _ _ _ h => h) hHeld (Or.inl ⟨by rfl, ?_⟩) rfl ?_
          rotate_left
          · intro wq hSw
            go_simp
            try with_reducible rfl
          simp only [List.set_cons_zero, List.set_cons_succ]
          refine wpAnyH_done (by kernel_rfl) ?_ _
          have lZ := (HZ.out).load_agg (P := Tryd.prog) (t := 38) Tryd.underlying38 rfl (by kernel_rfl)
          go_upto_region 22 with (first
            | (go_at_call 15; refine (psign_again HV.out.2.1 sa n sq sb m sr ca cq k5 HSO.out.at HV.out.2.2.1 HB.out.ks HS3.out HB.out.kd).mono ?_; rintro e w20 ⟨aa, aq, ab, ar, rfl, hA, hb20⟩)
            | (refine wpList_load_run rfl 38 (.tmp 9) rfl _ _ rfl lZ ?_))
          clear lZ
          obtain ⟨E, hE⟩ : ∃ E, E = k5.heap.size := ⟨_, rfl⟩
          have HLT := Lib.hid (show ∀ j, (Value.slice sa n sq).ownBlock = some j → j < E from fun j hj => by rw [hE]; exact (HSO.out.sp.lt_size j hj).2)
          rw [← hE] at hA
          obtain ⟨w21, hw21⟩ : ∃ x, x = w20.alloc (.cells #[.slice aa n aq, .slice ab m ar, .bool v.firm] 38) := ⟨_, rfl⟩
          rw [← hw21]
          have hY11 : Has w21 w20.heap.size 38 #[.slice aa n aq, .slice ab m ar, .bool v.firm] := by rw [hw21]; exact Has.fresh _ _ _
          have hb21 : Below w20.heap.size w20 w21 := by rw [hw21]; exact (Below.refl _ _).alloc (Nat.le_refl _) _
          obtain ⟨g11, hg11⟩ : ∃ g, g = w20.heap.size := ⟨_, rfl⟩
          rw [← hg11] at hY11 ⊢
          have hb2 := hb20.trans (hb21.mono hb20.size)
          have HAG := Lib.hid (hA.below hb21)
          have HG := Lib.hid hY11
          replace HZ := Lib.hid (HZ.out.under hb2 HZ.out.lt)
          replace HSO := Lib.hid (HSO.out.below hb2)
          replace HDL := Lib.hid (And.intro (Nat.le_trans HDL.out.1 hb2.size) (HDL.out.2.trans (hb2.mono HDL.out.1)))
          clear hw21 hg11 hb20 hb21 hb2 hA hE hY11 HB
          have HN9 := Lib.hid (own_not (by rfl) HSO.out.sp HZ.out)
          have HN11 := Lib.hid (own_not (by rfl) HSO.out.sp HG.out)
          have hnmx := HND.out
          have c9 : w21.cell? ⟨g9, 0, none⟩ = some (.slice sa n sq) := HZ.out.cell_at rfl
          go_wp2
          clear c9
          go_loopw [105] (fun iv wt => ∃ i : Nat, i ≤ n ∧ iv = .int .i64 i ∧ OwnR spRec 28 D wt (.slice sa n sq) (Lk.spz v.sp i) ∧ Moved (fun j => (Value.slice sa n sq).ownBlock = some j) w21 wt) (fun iv _ => n - (intOf iv).toNat)
          case atStart => exact ⟨0, Nat.zero_le _, rfl, by rw [Lk.spz_zero]; exact HSO.out.sp, Moved.refl _ _⟩
          case round =>
            rename World => wt
            obtain ⟨i, hi, rfl, ho, hm⟩ := hrel
            have hz := HZ.out.moved hm HN9.out
            by_cases hlt : i < n
            · have hii : (i : Int) < (n : Int) := by omega
              have hi0 : (0 : Int) ≤ (i : Int) := by omega
              obtain ⟨s, hs⟩ := HSO.out.at.sp.get hlt
              obtain ⟨g, cur, rfl, hBg, hcur, hcs⟩ := ho.rowed.open hlt
              have hsok : Tx.SpOk s := HSO.out.at.sp.okay hs
              have cz : wt.cell? ⟨g9, 0, none⟩ = some (.slice (some ⟨g, 0, none⟩) n sq) := hz.cell_at rfl
              have q34 : wt.cell? ⟨g, i * 35 + 34, none⟩ = some (.int .u64 (nb64 s.sl)) := by
                have e := (ho.recs.1).field (R := spRec) (Lk.spz_at hs) (Lk.seal_cell hsok.1)
                rw [Addr.add_mid, Nat.zero_add] at e
                exact e
              have l34 := hcur.loose (i * 35 + 34)
              go_upto_region 26 with fail
              clear cz q34 l34
              obtain ⟨wu, hwu⟩ : ∃ x, x = wt.setCell ⟨g, i * 35 + 34, none⟩ (.int .u64 (nb64 (s.sl + 1#64))) := ⟨_, rfl⟩
              rw [← hwu]
              have hmu : Moved (fun j => (Value.slice (some ⟨g, 0, none⟩) n sq).ownBlock = some j) wt wu := by rw [hwu]; exact Moved.put (F := fun j => (Value.slice (some ⟨g, 0, none⟩) n sq).ownBlock = some j) (Moved.refl _ _) (.inl rfl) _ _
              have hou : OwnR spRec 28 D wu (.slice (some ⟨g, 0, none⟩) n sq) (Lk.spz v.sp (i + 1)) := by
                have h1 := ho.setCell (i := i) (j := 34) (s := s) (s' := Lk.up s) (x := .int .u64 (nb64 (s.sl + 1#64))) (Lk.spz_at hs) ⟨hsok.1, hsok.2.1, hsok.2.2⟩ (show 34 < 35 by omega) (Lk.up_cells hsok.1)
                rw [Lk.spz_next hs] at h1
                rw [hwu]
                exact h1
              have hmv := hm.trans hmu (fun _ e => .inl e)
              clear hwu hmu ho hm hz hcur hcs hBg
              go_wp2
              go_roundw
              case rel => exact ⟨i + 1, by omega, by go_num, hou, hmv⟩
              case measure => (simp [intOf]; try omega)
            · have hii : ¬ (i : Int) < (n : Int) := by omega
              obtain rfl : i = n := by omega
              clear hi hlt
              obtain ⟨u2, hu2⟩ : ∃ u2, u2 = Lk.spoil v := ⟨_, rfl⟩
              have HU := Lib.hid (show u2 = Lk.spoil v ∧ v.firm = u2.firm ∧ Tx.Small u2 from ⟨hu2, by rw [hu2]; rfl, by rw [hu2]; exact Lk.spoil_small HV.out.2.2.1⟩)
              rw [Lk.spz_all HSO.out.at.sp.1] at ho
              have hb8 : Below w8.heap.size w8 wt := by rw [HDD.out.1]; exact HDL.out.2.trans (hm.below (fun j e => HSO.out.sp.lt j e) HDL.out.1)
              have hspo : TxAt wt sa i sq sb m sr u2 := by
                have h1 := ho.recs
                have h2 := (HSO.out.co.moved hm (fun j hj e => ownr_ne (by rfl) HSO.out.co HSO.out.sp hj e)).recs
                rw [hu2]
                exact ⟨h1.1, h2.1, h1.2.1, h2.2.1, h1.2.2, h2.2.2⟩
              have hag : TxAt wt aa i aq ab m ar v := (show TxOwn E wt aa i aq ab m ar v from ⟨HAG.out.sp.moved hm (fun j hj e => by have h1 := HAG.out.sp.lt j hj; have h2 := HLT.out j e; omega), HAG.out.co.moved hm (fun j hj e => by have h1 := HAG.out.co.lt j hj; have h2 := HLT.out j e; omega)⟩).at
              rw [HU.out.2.1] at hz
              clear hu2 ho
              go_upto_region 27 with fail
              obtain ⟨wz, hwz⟩ : ∃ x, x = wt.drew := ⟨_, rfl⟩
              have hbs : Below wt.heap.size wt wz := by rw [hwz]; exact (Below.refl _ _).drew
              have HB := Lib.hid ((HBW.out.below hb8).below hbs)
              have HZ2 := Lib.hid (hz.under hbs hz.lt)
              have HG2 := Lib.hid ((HG.out.moved hm HN11.out).under hbs (HG.out.moved hm HN11.out).lt)
              have HSP := Lib.hid (hspo.below hbs)
              have HAT2 := Lib.hid (hag.below hbs)
              clear hbs hz hspo hag hb8 hm HBW HZ HSO HAG HG HDL HLT HN9 HN11
              refine wp_region_held_drew (S := Held wz) (by kernel_rfl) (by rw [hwz]; exact Held.refl _) (fun hHeld => ?_)
              rw [← hwz] at hHeld ⊢
              clear hwz
              refine take_at (v := ?_) 0 118 rfl rfl (by kernel_rfl) (by kernel_rfl) (by kernel_rfl) (fun _ _ _ h => h) hHeld (Or.inl ⟨by rfl, ?_⟩) rfl ?_
              rotate_left
              · intro wq hSw
                go_simp
                try with_reducible rfl
              simp only [List.set_cons_zero, List.set_cons_succ]
              refine take_at (v := ?_) 1 119 rfl rfl (by kernel_rfl) (by kernel_rfl) (by kernel_rfl) (fun _ _ _ h => h) hHeld (Or.inl ⟨by rfl, ?_⟩) rfl ?_
              rotate_left
              · intro wq hSw
                go_simp
                try with_reducible rfl
              simp only [List.set_cons_zero, List.set_cons_succ]
              refine take_at (v := ?_) 2 120 rfl rfl (by kernel_rfl) (by kernel_rfl) (by kernel_rfl) (fun _ _ _ h => h) hHeld (Or.inl ⟨by rfl, ?_⟩) rfl ?_
              rotate_left
              · intro wq hSw
                go_simp
                try with_reducible rfl
              simp only [List.set_cons_zero, List.set_cons_succ]
              refine take_at 3 121 rfl rfl (by kernel_rfl) (by kernel_rfl) (by kernel_rfl) (fun _ _ _ h => h) hHeld (yieldsIf_load_agg (by rfl) 38 (.tmp 11) rfl _ _ (by rfl) (fun wq hSw => (HG2.out.under hSw HG2.out.lt).load_agg (P := Tryd.prog) (t := 38) Tryd.underlying38 rfl (by kernel_rfl))) rfl ?_
              simp only [List.set_cons_zero, List.set_cons_succ]
              refine take_at 4 122 rfl rfl (by kernel_rfl) (by kernel_rfl) (by kernel_rfl) (fun _ _ _ h => h) hHeld (yieldsIf_load_agg (by rfl) 38 (.tmp 2) rfl _ _ (by rfl) (fun wq hSw => (HB.out.X.under hSw HB.out.X.lt).load_agg (P := Tryd.prog) (t := 38) Tryd.underlying38 rfl (by kernel_rfl))) rfl ?_
              simp only [List.set_cons_zero, List.set_cons_succ]
              refine take_at (v := ?_) 5 123 rfl rfl (by kernel_rfl) (by kernel_rfl) (by kernel_rfl) (fun _ _ _ h => h) hHeld (Or.inl ⟨by rfl, ?_⟩) rfl ?_
              rotate_left
              · intro wq hSw
                go_simp
                try with_reducible rfl
              simp only [List.set_cons_zero, List.set_cons_succ]
              refine wpAnyH_ready (rs := [6]) (by kernel_rfl) (by simp) ?_
              refine AllReadyH.cons rfl (fun K hK => ?_) AllReadyH.nil
              go_simp
              go_at_call 19; refine (rsign_end HV.out.1 a i q b m r ca cq wz HB.out.tx SA.out HB.out.ks HS3.out HB.out.tab).mono ?_; rintro e k1 ⟨ra, rq, rfl, hR, hkk1⟩
              refine hK.out _ _ (Held.of hkk1) (fun _ => ?_)
              clear hK K
              try simp only [Act.put, List.setIfInBounds_toArray, List.set_cons_zero, List.set_cons_succ]
              refine held_grow (w1 := k1) (Held.of hkk1) ?_
              clear hHeld
              have hHeld : Held k1 k1 := Held.refl _
              have HRT := Lib.hid hR
              clear hR
              replace HB := Lib.hid (HB.out.below hkk1)
              replace HZ2 := Lib.hid (HZ2.out.under hkk1 HZ2.out.lt)
              replace HG2 := Lib.hid (HG2.out.under hkk1 HG2.out.lt)
              replace HSP := Lib.hid (HSP.out.below hkk1)
              replace HAT2 := Lib.hid (HAT2.out.below hkk1)
              clear hkk1
              refine wpAnyH_ready (rs := [7]) (by kernel_rfl) (by simp) ?_
              refine AllReadyH.cons rfl (fun K hK => ?_) AllReadyH.nil
              go_simp
              go_at_call 16; refine (txeq_any aa i aq ab m ar v ra i rq b m r v k1 HAT2.out HRT.out).mono ?_; rw [decide_eq_true rfl]; rintro e k2 ⟨rfl, hkk2⟩
              refine hK.out _ _ (Held.of hkk2) (fun _ => ?_)
              clear hK K
              try simp only [Act.put, List.setIfInBounds_toArray, List.set_cons_zero, List.set_cons_succ]
              refine held_grow (w1 := k2) (Held.of hkk2) ?_
              clear hHeld
              have hHeld : Held k2 k2 := Held.refl _
              clear HRT
              replace HB := Lib.hid (HB.out.below hkk2)
              replace HZ2 := Lib.hid (HZ2.out.under hkk2 HZ2.out.lt)
              replace HG2 := Lib.hid (HG2.out.under hkk2 HG2.out.lt)
              replace HSP := Lib.hid (HSP.out.below hkk2)
              replace HAT2 := Lib.hid (HAT2.out.below hkk2)
              clear hkk2
              refine take_at (v := ?_) 8 126 rfl rfl (by kernel_rfl) (by kernel_rfl) (by kernel_rfl) (fun _ _ _ h => h) hHeld (Or.inl ⟨by rfl, ?_⟩) rfl ?_
              rotate_left
              · intro wq hSw
                go_simp
                try with_reducible rfl
              simp only [List.set_cons_zero, List.set_cons_succ]
              refine take_at (v := ?_) 9 127 rfl rfl (by kernel_rfl) (by kernel_rfl) (by kernel_rfl) (fun _ _ _ h => h) hHeld (Or.inl ⟨by rfl, ?_⟩) rfl ?_
              rotate_left
              · intro wq hSw
                go_simp
                try with_reducible rfl
              simp only [List.set_cons_zero, List.set_cons_succ]
              refine take_at 10 128 rfl rfl (by kernel_rfl) (by kernel_rfl) (by kernel_rfl) (fun _ _ _ h => h) hHeld (yieldsIf_load_agg (by rfl) 38 (.tmp 8) rfl _ _ (by rfl) (fun wq hSw => (HB.out.Y.under hSw HB.out.Y.lt).load_agg (P := Tryd.prog) (t := 38) Tryd.underlying38 rfl (by kernel_rfl))) rfl ?_
              simp only [List.set_cons_zero, List.set_cons_succ]
              refine take_at 11 129 rfl rfl (by kernel_rfl) (by kernel_rfl) (by kernel_rfl) (fun _ _ _ h => h) hHeld (yieldsIf_load_agg (by rfl) 38 (.tmp 2) rfl _ _ (by rfl) (fun wq hSw => (HB.out.X.under hSw HB.out.X.lt).load_agg (P := Tryd.prog) (t := 38) Tryd.underlying38 rfl (by kernel_rfl))) rfl ?_
              simp only [List.set_cons_zero, List.set_cons_succ]
              refine wpAnyH_ready (rs := [12]) (by kernel_rfl) (by simp) ?_
              refine AllReadyH.cons rfl (fun K hK => ?_) AllReadyH.nil
              go_simp
              go_at_call 16; refine (txeq_any a2 i q2 b2 m r2 t a i q b m r t k2 HB.out.own HB.out.tx).mono ?_; rw [decide_eq_true rfl]; rintro e k3 ⟨rfl, hkk3⟩
              refine hK.out _ _ (Held.of hkk3) (fun _ => ?_)
              clear hK K
              try simp only [Act.put, List.setIfInBounds_toArray, List.set_cons_zero, List.set_cons_succ]
              refine held_grow (w1 := k3) (Held.of hkk3) ?_
              clear hHeld
              have hHeld : Held k3 k3 := Held.refl _
              replace HB := Lib.hid (HB.out.below hkk3)
              replace HZ2 := Lib.hid (HZ2.out.under hkk3 HZ2.out.lt)
              replace HG2 := Lib.hid (HG2.out.under hkk3 HG2.out.lt)
              replace HSP := Lib.hid (HSP.out.below hkk3)
              replace HAT2 := Lib.hid (HAT2.out.below hkk3)
              clear hkk3
              refine take_at (v := ?_) 13 131 rfl rfl (by kernel_rfl) (by kernel_rfl) (by kernel_rfl) (fun _ _ _ h => h) hHeld (Or.inl ⟨by rfl, ?_⟩) rfl ?_
              rotate_left
              · intro wq hSw
                go_simp
                try with_reducible rfl
              simp only [List.set_cons_zero, List.set_cons_succ]
              refine take_at (v := ?_) 14 132 rfl rfl (by kernel_rfl) (by kernel_rfl) (by kernel_rfl) (fun _ _ _ h => h) hHeld (Or.inl ⟨by rfl, ?_⟩) rfl ?_
              rotate_left
              · intro wq hSw
                go_simp
                try with_reducible rfl
              simp only [List.set_cons_zero, List.set_cons_succ]
              refine take_at (v := ?_) 15 133 rfl rfl (by kernel_rfl) (by kernel_rfl) (by kernel_rfl) (fun _ _ _ h => h) hHeld (Or.inl ⟨by rfl, ?_⟩) rfl ?_
              rotate_left
              · intro wq hSw
                go_simp
                try with_reducible rfl
              simp only [List.set_cons_zero, List.set_cons_succ]
              refine take_at (v := ?_) 16 134 rfl rfl (by kernel_rfl) (by kernel_rfl) (by kernel_rfl) (fun _ _ _ h => h) hHeld (Or.inl ⟨by rfl, ?_⟩) rfl ?_
              rotate_left
              · intro wq hSw
                go_simp
                try with_reducible rfl
              simp only [List.set_cons_zero, List.set_cons_succ]
              rcases Nat.eq_zero_or_pos i with hn0 | hn0
              · have HQ := Lib.hid (show ((i : Int) == 0) = true by rw [hn0]; rfl)
                refine take_at (v := .bool true) 17 135 rfl rfl (by kernel_rfl) (by kernel_rfl) (by kernel_rfl) (fun _ _ _ h => h) hHeld (Or.inl ⟨by rfl, ?_⟩) rfl ?_
                · intro wq hSw
                  have hst := HQ.out
                  go_simp
                  skip
                simp only [List.set_cons_zero, List.set_cons_succ]
                refine take_at (v := ?_) 18 136 rfl rfl (by kernel_rfl) (by kernel_rfl) (by kernel_rfl) (fun _ _ _ h => h) hHeld (Or.inl ⟨by rfl, ?_⟩) rfl ?_
                rotate_left
                · intro wq hSw
                  go_simp
                  try with_reducible rfl
                simp only [List.set_cons_zero, List.set_cons_succ]
                refine take_at (v := undef) 19 137 rfl rfl (by kernel_rfl) (by kernel_rfl) (by kernel_rfl) (fun _ _ _ h => h) hHeld (Or.inr ⟨by rfl, rfl⟩) rfl ?_
                simp only [List.set_cons_zero, List.set_cons_succ]
                refine take_at (v := undef) 20 138 rfl rfl (by kernel_rfl) (by kernel_rfl) (by kernel_rfl) (fun _ _ _ h => h) hHeld (Or.inr ⟨by rfl, rfl⟩) rfl ?_
                simp only [List.set_cons_zero, List.set_cons_succ]
                refine take_at (v := undef) 21 139 rfl rfl (by kernel_rfl) (by kernel_rfl) (by kernel_rfl) (fun _ _ _ h => h) hHeld (Or.inr ⟨by rfl, rfl⟩) rfl ?_
                simp only [List.set_cons_zero, List.set_cons_succ]
                refine take_at (v := undef) 22 140 rfl rfl (by kernel_rfl) (by kernel_rfl) (by kernel_rfl) (fun _ _ _ h => h) hHeld (Or.inr ⟨by rfl, rfl⟩) rfl ?_
                simp only [List.set_cons_zero, List.set_cons_succ]
                refine take_at (v := ?_) 23 141 rfl rfl (by kernel_rfl) (by kernel_rfl) (by kernel_rfl) (fun _ _ _ h => h) hHeld (Or.inl ⟨by rfl, ?_⟩) rfl ?_
                rotate_left
                · intro wq hSw
                  go_simp
                  try with_reducible rfl
                simp only [List.set_cons_zero, List.set_cons_succ]
                refine take_at (v := ?_) 24 142 rfl rfl (by kernel_rfl) (by kernel_rfl) (by kernel_rfl) (fun _ _ _ h => h) hHeld (Or.inl ⟨by rfl, ?_⟩) rfl ?_
                rotate_left
                · intro wq hSw
                  go_simp
                  try with_reducible rfl
                simp only [List.set_cons_zero, List.set_cons_succ]
                refine take_at (v := ?_) 25 4 rfl rfl (by kernel_rfl) (by kernel_rfl) (by kernel_rfl) (fun _ _ _ h => h) hHeld (Or.inl ⟨by rfl, ?_⟩) rfl ?_
                rotate_left
                · intro wq hSw
                  go_simp
                  try with_reducible rfl
                simp only [List.set_cons_zero, List.set_cons_succ]
                refine wpAnyH_done (by kernel_rfl) ?_ _
                go_wp2
                go_ret
                exact ⟨rfl, HB.out.bel⟩
              · have HQ := Lib.hid (show ((i : Int) == 0) = false by simp; omega)
                have HC10 := Lib.hid (show errn (Lk.check u2 (Lk.coins keys)) = erro 10 by
                  rw [HU.out.1, HV.out.1, Lk.check_spoil t keys HKN.out (fun e => by have h1 := HB.out.ks.1; rw [e] at h1; simp at h1; omega)]
                  rfl)
                refine take_at (v := .bool false) 17 135 rfl rfl (by kernel_rfl) (by kernel_rfl) (by kernel_rfl) (fun _ _ _ h => h) hHeld (Or.inl ⟨by rfl, ?_⟩) rfl ?_
                · intro wq hSw
                  have hst := HQ.out
                  go_simp
                  skip
                simp only [List.set_cons_zero, List.set_cons_succ]
                refine take_at (v := ?_) 18 136 rfl rfl (by kernel_rfl) (by kernel_rfl) (by kernel_rfl) (fun _ _ _ h => h) hHeld (Or.inl ⟨by rfl, ?_⟩) rfl ?_
                rotate_left
                · intro wq hSw
                  go_simp
                  try with_reducible rfl
                simp only [List.set_cons_zero, List.set_cons_succ]
                refine take_at 19 137 rfl rfl (by kernel_rfl) (by kernel_rfl) (by kernel_rfl) (fun _ _ _ h => h) hHeld (yieldsIf_load_agg (by rfl) 38 (.tmp 9) rfl _ _ (by rfl) (fun wq hSw => (HZ2.out.under hSw HZ2.out.lt).load_agg (P := Tryd.prog) (t := 38) Tryd.underlying38 rfl (by kernel_rfl))) rfl ?_
                simp only [List.set_cons_zero, List.set_cons_succ]
                refine take_at (v := ?_) 20 138 rfl rfl (by kernel_rfl) (by kernel_rfl) (by kernel_rfl) (fun _ _ _ h => h) hHeld (Or.inl ⟨by rfl, ?_⟩) rfl ?_
                rotate_left
                · intro wq hSw
                  go_simp
                  try with_reducible rfl
                simp only [List.set_cons_zero, List.set_cons_succ]
                refine wpAnyH_ready (rs := [21]) (by kernel_rfl) (by simp) ?_
                refine AllReadyH.cons rfl (fun K hK => ?_) AllReadyH.nil
                go_simp
                go_at_call 18; refine (lockChk sa i sq sb m sr u2 oa i oq (Lk.coins keys) k3 HB.out.kd HSP.out HU.out.2.2 HB.out.co HB.out.coq).mono ?_; rw [HC10.out]; rintro e k4 ⟨rfl, hkk4⟩
                refine hK.out _ _ (Held.of hkk4) (fun _ => ?_)
                clear hK K
                try simp only [Act.put, List.setIfInBounds_toArray, List.set_cons_zero, List.set_cons_succ]
                refine held_grow (w1 := k4) (Held.of hkk4) ?_
                clear hHeld
                have hHeld : Held k4 k4 := Held.refl _
                replace HB := Lib.hid (HB.out.below hkk4)
                replace HZ2 := Lib.hid (HZ2.out.under hkk4 HZ2.out.lt)
                replace HG2 := Lib.hid (HG2.out.under hkk4 HG2.out.lt)
                replace HSP := Lib.hid (HSP.out.below hkk4)
                replace HAT2 := Lib.hid (HAT2.out.below hkk4)
                clear hkk4
                refine wpAnyH_ready (rs := [22]) (by kernel_rfl) (by simp) ?_
                refine AllReadyH.cons rfl (fun K hK => ?_) AllReadyH.nil
                go_simp
                go_at_call 17; refine (is_erro 10 rfl _).mono ?_; rintro e wk ⟨rfl, rfl⟩
                refine hK.out _ _ hHeld (fun _ => ?_)
                clear hK K
                try simp only [Act.put, List.setIfInBounds_toArray, List.set_cons_zero, List.set_cons_succ]
                refine take_at (v := ?_) 23 141 rfl rfl (by kernel_rfl) (by kernel_rfl) (by kernel_rfl) (fun _ _ _ h => h) hHeld (Or.inl ⟨by rfl, ?_⟩) rfl ?_
                rotate_left
                · intro wq hSw
                  go_simp
                  try with_reducible rfl
                simp only [List.set_cons_zero, List.set_cons_succ]
                refine take_at (v := ?_) 24 142 rfl rfl (by kernel_rfl) (by kernel_rfl) (by kernel_rfl) (fun _ _ _ h => h) hHeld (Or.inl ⟨by rfl, ?_⟩) rfl ?_
                rotate_left
                · intro wq hSw
                  go_simp
                  try with_reducible rfl
                simp only [List.set_cons_zero, List.set_cons_succ]
                refine take_at (v := ?_) 25 4 rfl rfl (by kernel_rfl) (by kernel_rfl) (by kernel_rfl) (fun _ _ _ h => h) hHeld (Or.inl ⟨by rfl, ?_⟩) rfl ?_
                rotate_left
                · intro wq hSw
                  go_simp
                  try with_reducible rfl
                simp only [List.set_cons_zero, List.set_cons_succ]
                refine wpAnyH_done (by kernel_rfl) ?_ _
                go_wp2
                go_ret
                exact ⟨rfl, HB.out.bel⟩
        · rcases HSG.out with ⟨h1, _⟩ | ⟨_, h2, h3, h4, h5⟩
          · exact absurd h1 hne
          rw [h2, h4, h5] at hZ hS
          rw [h3]
          clear HSG h2 h3 h4 h5
          have hnn : ((i : Int) != (n : Int)) = true := by simp; omega
          have hcz : Lk.check t (Lk.coins keys) = 1 := by
            rw [Lk.check, if_neg]
            rw [Lk.coins, List.length_map, HB8.out.ks.1, show t.sp.length = n from HB8.out.tx.sp.1]
            exact hne
          have HCZ := Lib.hid hcz
          have HZ := Lib.hid hZ
          have HZT := Lib.hid (show TxAt w10 none 0 0 none 0 0 Lk.zT from (show TxOwn 0 w10 none 0 0 none 0 0 Lk.zT from ⟨OwnR.nil _ _ _ _, OwnR.nil _ _ _ _⟩).at)
          have HSS := Lib.hid hS.at
          clear hcz hZ hS
          have lZ := (HZ.out).load_agg (P := Tryd.prog) (t := 38) Tryd.underlying38 rfl (by kernel_rfl)
          have lX11 := fun (wq : World) (hb : Below w10.heap.size w10 wq) => (HB8.out.X.under hb HB8.out.X.lt).load_agg (P := Tryd.prog) (t := 38) Tryd.underlying38 rfl (by kernel_rfl)
          go_wp2_with (first
            | (go_at_call 18; refine (lockChk a n q b m r t oa i oq (Lk.coins keys) w11 (HB8.out.kd.below hb11) (HB8.out.tx.below hb11) SA.out (HB8.out.co.below hb11) HB8.out.coq).mono ?_; rw [HCZ.out]; rintro e w12 ⟨rfl, hb12⟩)
            | (go_at_call 16; refine (txeq_any sa 0 sq sb 0 sr Lk.zT none 0 0 none 0 0 Lk.zT w10 HSS.out HZT.out).mono ?_; rw [decide_eq_true rfl]; rintro e w11 ⟨rfl, hb11⟩)
            | (go_at_call 17; refine (is_erro 1 rfl _).mono ?_; rintro e wk ⟨rfl, rfl⟩)
            | (refine wpList_load_run_if (by rfl) 38 (.tmp 9) rfl _ _ rfl lZ ?_)
            | (refine wpList_load_run_if (by rfl) 38 (.tmp 2) rfl _ _ rfl (lX11 w11 hb11) ?_))
          go_ret
          exact ⟨rfl, HB8.out.bel.trans ((hb11.trans (hb12.mono hb11.size)).mono HB8.out.bel.size)⟩
end Go.Proofs.YtcedecljbgailaaDoor
