/- package lock: Sign, where it copies, then writes keys and seals in order (mklkn.py) · LockChecks over the premise (mklkh.py) · package lock: Check, where it asks Opens of each spend, in order (mklkm.py) -/
import Derived.Test.YtagjolbpmhbifaaGreatDoorLkx
import Derived.Test.YtagjolbpmhbifaaGreatDoorLkQ
import Derived.Test.YtagjolbpmhbifaaGreatDoorTxI
import Derived.Test.YtagjolbpmhbifaaGreatDoorTxD
import Derived.Test.YtagjolbpmhbifaaGreatDoorLz
import Derived.Test.YtagjolbpmhbifaaGreatDoorLky
import Derived.Test.YtagjolbpmhbifaaGreatDoorTxz
/-! package lock: Sign, where it copies, then writes keys and seals in order (mklkn.py) -/
namespace Go.Proofs.YtagjolbpmhbifaaGreatDoor
open Go Go.RowKit Go.ChangeShapes Go.WideShapes
namespace Lk
/-- the spends when the first i are signed -/
def mix (t : Tx.T) (keys : List (List (BitVec 8))) (i : Nat) : List Tx.Sp := (signed t keys).take i ++ t.sp.drop i
theorem mix_zero (t : Tx.T) (keys : List (List (BitVec 8))) : mix t keys 0 = t.sp := by
  unfold mix
  rw [List.take_zero, List.drop_zero, List.nil_append]
theorem mix_all {t : Tx.T} {keys : List (List (BitVec 8))} {n : Nat} (h1 : t.sp.length = n) (h2 : keys.length = n) : mix t keys n = signed t keys := by
  unfold mix
  rw [List.drop_of_length_le (by omega), List.append_nil, List.take_of_length_le (by rw [signed_len t keys (by omega)]; omega)]
theorem mix_at {t : Tx.T} {keys : List (List (BitVec 8))} {i : Nat} {s : Tx.Sp} (h : keys.length = t.sp.length) (hs : t.sp[i]? = some s) : (mix t keys i)[i]? = some s := by
  have hi := (List.getElem?_eq_some_iff.1 hs).1
  unfold mix
  rw [List.getElem?_append_right (by rw [List.length_take]; omega), List.length_take, signed_len t keys h, Nat.min_eq_left (Nat.le_of_lt hi), Nat.sub_self, List.getElem?_drop]
  exact hs
theorem mix_next {t : Tx.T} {keys : List (List (BitVec 8))} {i : Nat} {s : Tx.Sp} {key : List (BitVec 8)} (h : keys.length = t.sp.length) (hs : t.sp[i]? = some s) (hk : keys[i]? = some key) :
    (mix t keys i).set i (signSp (Tx.idOf false t) s key) = mix t keys (i + 1) := by
  obtain ⟨hi, he⟩ := List.getElem?_eq_some_iff.1 hs
  have hl : ((signed t keys).take i).length = i := by rw [List.length_take, signed_len t keys h]; omega
  unfold mix
  rw [List.set_append_right _ _ (by omega), hl, Nat.sub_self, signed_take hs hk, List.append_assoc, List.drop_eq_getElem_cons hi]
  rfl
def keyed (s : Tx.Sp) (key : List (BitVec 8)) : Tx.Sp := ⟨s.h, s.n, key, s.sl⟩
theorem keyed_cells {s : Tx.Sp} (h : s.h.length = 32) (key : List (BitVec 8)) : spCells (keyed s key) = (spCells s).set 33 (.string (strB key)) := by
  unfold spCells
  rw [List.set_append_right _ _ (by rw [blist_length, h]; omega), blist_length, h]
  rfl
theorem sealed_cells {s : Tx.Sp} (h : s.h.length = 32) (id key : List (BitVec 8)) : spCells (signSp id s key) = (spCells (keyed s key)).set 34 (.int .u64 (nb64 (sealOf key id))) := by
  unfold spCells
  rw [List.set_append_right _ _ (by rw [blist_length]; show (keyed s key).h.length ≤ 34; show s.h.length ≤ 34; omega), blist_length]
  show _ = _ ++ List.set _ (34 - s.h.length) _
  rw [h]
  rfl
end Lk
def PSignPost (n m : Nat) (t : Tx.T) (keys : List (List (BitVec 8))) (w0 : World) (e : Ending) (w' : World) : Prop :=
  ∃ (a : Option Addr) (q : Nat) (b : Option Addr) (r : Nat), e = .returned (.tuple #[txv a n q b m r t.firm, .nilIface]) ∧ TxOwn w0.heap.size w' a n q b m r (Lk.sign t keys) ∧ Below w0.heap.size w0 w'
set_option maxRecDepth 100000 in
set_option maxHeartbeats 4000000 in
theorem psign_no (a : Option Addr) (n q : Nat) (b : Option Addr) (m r : Nat) (t : Tx.T) (f : Bool) (ca : Option Addr) (cn cq : Nat) (keys : List (List (BitVec 8))) (w : World) (ht : TxAt w a n q b m r t) (hc : Recs strRec w ca cn keys) (hne : ¬ cn = n) :
    Calls Tryz.prog 25 #[txv a n q b m r f, .slice ca cn cq] w fun e w' => e = .returned (.tuple #[txv none 0 0 none 0 0 false, erro 1]) ∧ Below w.heap.size w w' := by
  obtain ⟨W1, hW1⟩ : ∃ x, x = (w.alloc (.cells #[.slice a n q, .slice b m r, .bool f] 39)).alloc (.cells zTx 39) := ⟨_, rfl⟩
  have hb1 : Below w.heap.size w W1 := by
    rw [hW1]
    exact ((Below.refl _ w).alloc (Nat.le_refl _) _).alloc (by simp) _
  have hX : Has W1 w.heap.size 39 #[.slice a n q, .slice b m r, .bool f] := by rw [hW1]; exact (Has.fresh w _ _).past _
  have hR : Has W1 (w.heap.size + 1) 39 zTx := by rw [hW1]; exact Has.fresh_at _ _ _ (by simp)
  have HW := Lib.hid hW1
  obtain ⟨g1, hg1⟩ : ∃ g, g = w.heap.size := ⟨_, rfl⟩
  have HG := Lib.hid hg1
  rw [← hg1] at hX hR
  have hnmx : n ≤ 9223372036854775807 := ht.sp.2.1
  have hcmx : cn ≤ 9223372036854775807 := hc.2.1
  have f0 : W1.cell? ⟨g1, 0, none⟩ = some (.slice a n q) := hX.cell_at rfl
  have hnn : ((cn : Int) != (n : Int)) = true := by simp; omega
  clear hW1 hg1 ht hc
  go_enter Tryz.func25, Tryz.ntmps25
  go_upto_region 1 with fail
  rw [← HW.out, ← HG.out]
  go_wp2_with (refine wpList_store_mid rfl 39 (.tmp 4) (.tmp 16) rfl (g1 + 1) 0 zTx rfl rfl (hR.there 0 3 (Nat.le_refl _)) (by kernel_rfl) (vRec.all_one ⟨none, 0, 0, none, 0, 0, ⟨[], [], false⟩⟩) ?_)
  obtain ⟨wZ, hwZ⟩ : ∃ x, x = W1.setCells (g1 + 1) 0 [.slice none 0 0, .slice none 0 0, .bool false] := ⟨_, rfl⟩
  have hE : Has wZ (g1 + 1) 39 zTx := by rw [hwZ]; exact hR.whole_cs (cs2 := zTx) rfl
  rw [← hwZ]
  refine bodyPost_ret (results_cellslot rfl _ _ (g1 + 1) rfl _ _ (hE.load_var Tryz.underlying39 rfl (by kernel_rfl)) rfl) rfl ⟨rfl, ?_⟩
  rw [hwZ]
  exact below_setAll (by have := HG.out; omega) _ 0 hb1
set_option maxRecDepth 100000 in
set_option maxHeartbeats 16000000 in
theorem psign_any (a : Option Addr) (n q : Nat) (b : Option Addr) (m r : Nat) (t : Tx.T) (f : Bool) (hf : f = t.firm) (ca : Option Addr) (cq : Nat) (keys : List (List (BitVec 8))) (w : World) (ht : TxAt w a n q b m r t) (hs : Tx.Small t) (hc : Recs strRec w ca n keys) (hk : ∀ k, k ∈ keys → k.length ≤ 10000) (hT : KDg w) :
    Calls Tryz.prog 25 #[txv a n q b m r f, .slice ca n cq] w (PSignPost n m t keys w) := by
  obtain ⟨W1, hW1⟩ : ∃ x, x = (w.alloc (.cells #[.slice a n q, .slice b m r, .bool f] 39)).alloc (.cells zTx 39) := ⟨_, rfl⟩
  have hb1 : Below w.heap.size w W1 := by
    rw [hW1]
    exact ((Below.refl _ w).alloc (Nat.le_refl _) _).alloc (by simp) _
  have hX : Has W1 w.heap.size 39 #[.slice a n q, .slice b m r, .bool f] := by rw [hW1]; exact (Has.fresh w _ _).past _
  have hR : Has W1 (w.heap.size + 1) 39 zTx := by rw [hW1]; exact Has.fresh_at _ _ _ (by simp)
  have HW := Lib.hid hW1
  obtain ⟨g1, hg1⟩ : ∃ g, g = w.heap.size := ⟨_, rfl⟩
  have HG := Lib.hid hg1
  rw [← hg1] at hX hR
  have lX := hX.load_agg (P := Tryz.prog) (t := 39) Tryz.underlying39 rfl (by kernel_rfl)
  have HT := Lib.hid (ht.below hb1)
  have HC := Lib.hid (hc.below hb1)
  have HK := Lib.hid (hT.below hb1)
  have HS := Lib.hid hs
  have hnl : t.sp.length = n := ht.sp.1
  have hml : t.co.length = m := ht.co.1
  have hkl : keys.length = n := hc.1
  have hnmx : n ≤ 9223372036854775807 := ht.sp.2.1
  have HN := Lib.hid (show t.sp.length = n ∧ keys.length = n ∧ n ≤ 30 ∧ m ≤ 30 ∧ (∀ k, k ∈ keys → k.length ≤ 10000) ∧ keys.length = t.sp.length ∧ f = t.firm from ⟨hnl, hkl, by rw [← hnl]; exact hs.1, by rw [← hml]; exact hs.2.1, hk, by omega, hf⟩)
  obtain ⟨id, hid⟩ : ∃ d, d = Tx.idOf false t := ⟨_, rfl⟩
  have HID := Lib.hid (show Tx.idOf false t = id ∧ id.length = 32 from ⟨hid.symm, by rw [hid]; exact Tx.idOf_len _ _⟩)
  have f0 : W1.cell? ⟨g1, 0, none⟩ = some (.slice a n q) := hX.cell_at rfl
  clear hW1 ht hc hT hs hnl hml hkl hg1 hid hk hf
  go_enter Tryz.func25, Tryz.ntmps25
  go_upto_region 1 with fail
  rw [← HW.out, ← HG.out]
  go_upto_region 4 with (first
    | (refine wpList_store_mid rfl 30 (.tmp 6) (.tmp 19) rfl w2.heap.size 0 (blist id).toArray rfl rfl (there_new w2 _ HID.out.2) (size_hash' HID.out.2) (one_hash _) ?_)
    | (go_at_call 58; refine (pid_any a n q b m r t f HN.out.2.2.2.2.2.2 W1 HT.out HS.out HK.out).mono ?_; rw [HID.out.1]; rintro e w2 ⟨rfl, hb2⟩)
    | (refine wpList_load_run rfl 39 (.tmp 2) rfl _ _ rfl lX ?_))
  clear lX f0
  obtain ⟨w3, hw3⟩ : ∃ x, x = (w2.alloc (.cells z32 30)).setCells w2.heap.size 0 (blist id) := ⟨_, rfl⟩
  rw [← hw3]
  obtain ⟨hH, hb3⟩ := hash_new HID.out.2 hw3
  obtain ⟨g5, hg5⟩ : ∃ g, g = w2.heap.size := ⟨_, rfl⟩
  rw [← hg5] at hH ⊢
  have hb13 : Below W1.heap.size W1 w3 := hb2.trans (hb3.mono hb2.size)
  obtain ⟨B, hB⟩ : ∃ B, B = w3.heap.size := ⟨_, rfl⟩
  have HB := Lib.hid (show g1 = w.heap.size ∧ g1 + 1 < B ∧ g5 < B ∧ w3.heap.size = B ∧ w.heap.size ≤ B from ⟨HG.out, by have := hR.lt; have := hb13.size; omega, by rw [hB]; exact hH.lt, hB.symm, by have := hb1.size; have := hb13.size; omega⟩)
  have hX3 := hX.under hb13 hX.lt
  have hR3 := hR.under hb13 hR.lt
  have HT3 := Lib.hid (HT.out.below hb13)
  have HC3 := Lib.hid (HC.out.below hb13)
  have HK3 := Lib.hid (HK.out.below hb13)
  have hw13 := hb1.trans (hb13.mono hb1.size)
  clear hw3 hg5 hB hX hR hb2 hb3 hb13
  have lX := hX3.load_agg (P := Tryz.prog) (t := 39) Tryz.underlying39 rfl (by kernel_rfl)
  go_upto_region 5 with (first
    | (refine wpList_store_mid rfl 39 (.tmp 7) (.tmp 21) rfl w4.heap.size 0 #[.slice a2 n q2, .slice b2 m r2, .bool t.firm] rfl rfl ((Has.fresh _ _ _).there 0 3 (Nat.le_refl _)) (by kernel_rfl) (vRec.all_one ⟨a2, n, q2, b2, m, r2, ⟨[], [], t.firm⟩⟩) ?_)
    | (go_at_call 41; refine (pcopy_any a n q b m r t f HN.out.2.2.2.2.2.2 w3 HT3.out (by have := HN.out.2.2.1; omega) (by have := HN.out.2.2.2.1; omega)).mono ?_; rintro e w4 ⟨a2, q2, b2, r2, rfl, hown, hb4⟩)
    | (refine wpList_load_run rfl 39 (.tmp 2) rfl _ _ rfl lX ?_))
  clear lX
  obtain ⟨w5, hw5⟩ : ∃ x, x = (w4.alloc (.cells zTx 39)).setCells w4.heap.size 0 [.slice a2 n q2, .slice b2 m r2, .bool t.firm] := ⟨_, rfl⟩
  rw [← hw5]
  have hY : Has w5 w4.heap.size 39 #[.slice a2 n q2, .slice b2 m r2, .bool t.firm] := by rw [hw5]; exact (Has.fresh w4 _ zTx).whole_cs (cs2 := #[.slice a2 n q2, .slice b2 m r2, .bool t.firm]) rfl
  have hb5 : Below w4.heap.size w4 w5 := by rw [hw5]; exact below_setAll (Nat.le_refl _) _ 0 ((Below.refl _ _).alloc (Nat.le_refl _) _)
  obtain ⟨g7, hg7⟩ : ∃ g, g = w4.heap.size := ⟨_, rfl⟩
  rw [← hg7] at hY ⊢
  have hown5 := hown.below hb5
  have hb35 : Below B w3 w5 := by rw [← HB.out.2.2.2.1]; exact hb4.trans (hb5.mono hb4.size)
  rw [HB.out.2.2.2.1] at hown5
  have hosp := hown5.sp
  have hoco := hown5.co
  clear hw5 hg7 hown hown5 hb4 hb5
  go_wp2
  go_loopw [24] (fun iv wr => ∃ i : Nat, i ≤ n ∧ iv = .int .i64 i ∧ OwnR spRec 75 B wr (.slice a2 n q2) (Lk.mix t keys i) ∧ OwnR coRec 35 B wr (.slice b2 m r2) t.co ∧ Has wr g7 39 #[.slice a2 n q2, .slice b2 m r2, .bool t.firm] ∧ Below B w3 wr) (fun iv _ => n - (intOf iv).toNat)
  case atStart => exact ⟨0, Nat.zero_le _, rfl, by rw [Lk.mix_zero]; exact hosp, hoco, hY, hb35⟩
  case round =>
    obtain ⟨i, hi, rfl, ho, hc, hy, hbr⟩ := hrel
    clear hosp hoco hY hb35
    have hB3 : Below w3.heap.size w3 wr := by rw [HB.out.2.2.2.1]; exact hbr
    by_cases hlt : i < n
    · have hii : (i : Int) < (n : Int) := by omega
      have hi0 : (0 : Int) ≤ (i : Int) := by omega
      obtain ⟨s, hs⟩ := HT3.out.sp.get hlt
      obtain ⟨key, hkey⟩ := HC3.out.get hlt
      obtain ⟨y, hay, _⟩ := HC3.out.2.2.2 i key hkey
      subst hay
      obtain ⟨g, cur, rfl, hBg, hcur, hcs⟩ := ho.rowed.open hlt
      have HMX := Lib.hid (show (Lk.mix t keys i)[i]? = some s ∧ (Lk.mix t keys i).set i (Lk.signSp (Tx.idOf false t) s key) = Lk.mix t keys (i + 1) from ⟨Lk.mix_at HN.out.2.2.2.2.2.1 hs, Lk.mix_next HN.out.2.2.2.2.2.1 hs hkey⟩)
      have hsok : Tx.SpOk s := HT3.out.sp.okay hs
      have HOK := Lib.hid (show key.length ≤ 10000 ∧ Tx.SpOk s ∧ Tx.SpOk (Lk.keyed s key) ∧ Tx.SpOk (Lk.signSp id s key) from by
        have h1 : key.length ≤ 10000 := HN.out.2.2.2.2.1 key (List.mem_of_getElem? hkey)
        exact ⟨h1, hsok, ⟨hsok.1, hsok.2.1, by show key.length ≤ maxLen; unfold maxLen; omega⟩, ⟨hsok.1, hsok.2.1, by show key.length ≤ maxLen; unfold maxLen; omega⟩⟩)
      have hky := strs_at (HC3.out.below hB3) hkey
      have hne7 : g ≠ g7 := Has.ne_type hcur hy (by decide)
      have HNE := Lib.hid hne7
      have HCUR := Lib.hid (And.intro hcs hBg)
      clear hs hkey hsok hne7 hcs hBg
      go_upto_region 8 with fail
      clear hky
      have cy : wr.cell? ⟨g7, 0, none⟩ = some (.slice (some ⟨g, 0, none⟩) n q2) := hy.cell_at rfl
      obtain ⟨v33, hv33⟩ : ∃ v, cur[i * 35 + 33]? = some v := ⟨cur[i * 35 + 33]'(by have e : n * 35 ≤ cur.size := HCUR.out.1; omega), Array.getElem?_eq_getElem _⟩
      have q33 : wr.cell? ⟨g, i * 35 + 33, none⟩ = some v33 := hcur.cell_at hv33
      have l33 := hcur.loose (i * 35 + 33)
      clear hv33
      go_upto_region 9 with fail
      clear cy q33 l33
      obtain ⟨w8, hw8⟩ : ∃ x, x = wr.setCell ⟨g, i * 35 + 33, none⟩ (.string (strB key)) := ⟨_, rfl⟩
      rw [← hw8]
      have hm8 : Moved (fun j => j = g) wr w8 := by rw [hw8]; exact Moved.put (F := fun j => j = g) (Moved.refl _ _) (.inl rfl) _ _
      have ho8 : OwnR spRec 75 B w8 (.slice (some ⟨g, 0, none⟩) n q2) ((Lk.mix t keys i).set i (Lk.keyed s key)) := by
        rw [hw8]
        exact ho.setCell HMX.out.1 HOK.out.2.2.1 (show 33 < 35 by omega) (Lk.keyed_cells HOK.out.2.1.1 key)
      have hy8 := hy.moved hm8 (fun e => HNE.out e.symm)
      have hc8 : OwnR coRec 35 B w8 (.slice b2 m r2) t.co := hc.moved hm8 (fun j hj e => ownr_ne (by rfl) hc ho hj (by rw [show j = g from e]; rfl))
      have hcur8 : Has w8 g 75 (cur.setIfInBounds (i * 35 + 33) (.string (strB key))) := by rw [hw8]; exact hcur.put _ _
      have hb8 : Below B w3 w8 := by rw [hw8]; exact hbr.setCell (p := ⟨g, _, none⟩) HCUR.out.2 _
      clear hw8 hm8 ho hy hc hcur hbr hB3
      obtain ⟨ws, hws⟩ : ∃ x, x = w8.drew := ⟨_, rfl⟩
      have hbs : Below w8.heap.size w8 ws := by rw [hws]; exact (Below.refl _ _).drew
      have HBs := Lib.hid (show Below w3.heap.size w3 ws from by rw [HB.out.2.2.2.1]; exact hb8.trans (hbs.mono (by have := hb8.size; have := HB.out; omega)))
      have HYs := Lib.hid (hy8.under hbs hy8.lt)
      have HHs := Lib.hid (hH.under HBs.out hH.lt)
      have HKs := Lib.hid (HK3.out.below HBs.out)
      have HOs := Lib.hid (ho8.below hbs)
      have HCs := Lib.hid (hc8.below hbs)
      have HQs := Lib.hid (hcur8.under hbs hcur8.lt)
      obtain ⟨sl, hsl⟩ : ∃ v, v = Lk.sealOf key id := ⟨_, rfl⟩
      have HSL := Lib.hid hsl
      clear hbs hb8 hy8 ho8 hc8 hcur8 hsl
      refine wp_region_held_drew (S := HeldM (fun j => j = g) ws) (by kernel_rfl) (by rw [hws]; exact HeldM.refl _ _) (fun hHeld => ?_)
      rw [← hws] at hHeld ⊢
      clear hws
      refine take_at (v := ?_) 0 35 rfl rfl (by kernel_rfl) (by kernel_rfl) (by kernel_rfl) (fun _ _ _ h => h) hHeld (Or.inl ⟨by rfl, ?_⟩) rfl ?_
      rotate_left
      · intro wq hSw
        go_simp
        try with_reducible rfl
      simp only [List.set_cons_zero, List.set_cons_succ]
      refine take_at (v := ?_) 1 36 rfl rfl (by kernel_rfl) (by kernel_rfl) (by kernel_rfl) (fun _ _ _ h => h) hHeld (Or.inl ⟨by rfl, ?_⟩) rfl ?_
      rotate_left
      · intro wq hSw
        have hst := (HYs.out.moved hSw.out (fun e => HNE.out e.symm)).cell_at (i := 0) rfl
        go_simp
        try with_reducible rfl
      simp only [List.set_cons_zero, List.set_cons_succ]
      refine take_at (v := ?_) 2 37 rfl rfl (by kernel_rfl) (by kernel_rfl) (by kernel_rfl) (fun _ _ _ h => h) hHeld (Or.inl ⟨by rfl, ?_⟩) rfl ?_
      rotate_left
      · intro wq hSw
        go_simp
        try with_reducible rfl
      simp only [List.set_cons_zero, List.set_cons_succ]
      refine take_at (v := ?_) 3 38 rfl rfl (by kernel_rfl) (by kernel_rfl) (by kernel_rfl) (fun _ _ _ h => h) hHeld (Or.inl ⟨by rfl, ?_⟩) rfl ?_
      rotate_left
      · intro wq hSw
        go_simp
        try with_reducible rfl
      simp only [List.set_cons_zero, List.set_cons_succ]
      refine take_at 4 39 rfl rfl (by kernel_rfl) (by kernel_rfl) (by kernel_rfl) (fun _ _ _ h => h) hHeld (yieldsIf_load_agg (by rfl) 30 (.tmp 6) rfl _ _ (by rfl) (fun wq hSw => (HHs.out.moved hSw.out (fun e => by have e2 : g5 = g := e; have := HB.out; have := HCUR.out.2; omega)).load_agg (P := Tryz.prog) (t := 30) Tryz.underlying30 rfl (size_hash' HID.out.2))) rfl ?_
      simp only [List.set_cons_zero, List.set_cons_succ]
      refine wpAnyH_ready (rs := [5]) (by kernel_rfl) (by simp) ?_
      refine AllReadyH.cons rfl (fun K hK => ?_) AllReadyH.nil
      go_simp
      go_at_call 59; refine (pseal_any key id ws HKs.out HOK.out.1 HID.out.2).mono ?_; rw [← HSL.out]; rintro e k1 ⟨rfl, hk1⟩
      have hm1 : Moved (fun j => j = g) ws k1 := Moved.of_below hk1
      refine hK.out _ _ (HeldM.of hm1) (fun _ => ?_)
      clear hK K
      try simp only [Act.put, List.setIfInBounds_toArray, List.set_cons_zero, List.set_cons_succ]
      refine heldM_grow (w1 := k1) hm1 ?_
      clear hHeld
      have hHeld : HeldM (fun j => j = g) k1 k1 := HeldM.refl _ _
      refine take_at (v := ?_) 6 41 rfl rfl (by kernel_rfl) (by kernel_rfl) (by kernel_rfl) (fun _ _ _ h => h) hHeld (Or.inl ⟨by rfl, ?_⟩) rfl ?_
      rotate_left
      · intro wq hSw
        go_simp
        try with_reducible rfl
      simp only [List.set_cons_zero, List.set_cons_succ]
      refine take_at (v := ?_) 7 42 rfl rfl (by kernel_rfl) (by kernel_rfl) (by kernel_rfl) (fun _ _ _ h => h) hHeld (Or.inl ⟨by rfl, ?_⟩) rfl ?_
      rotate_left
      · intro wq hSw
        go_simp
        try with_reducible rfl
      simp only [List.set_cons_zero, List.set_cons_succ]
      have hQ1 := HQs.out.under hk1 HQs.out.lt
      obtain ⟨v34, hv34⟩ : ∃ v, (cur.setIfInBounds (i * 35 + 33) (.string (strB key)))[i * 35 + 34]? = some v := ⟨(cur.setIfInBounds (i * 35 + 33) (.string (strB key)))[i * 35 + 34]'(by rw [Array.size_setIfInBounds]; have e : n * 35 ≤ cur.size := HCUR.out.1; omega), Array.getElem?_eq_getElem _⟩
      have q34 : k1.cell? ⟨g, i * 35 + 34, none⟩ = some v34 := hQ1.cell_at hv34
      have l34 := hQ1.loose (i * 35 + 34)
      clear hv34
      refine wpAnyH_ready (rs := [8]) (by kernel_rfl) (by simp) ?_
      refine AllReadyH.cons rfl (fun K hK => ?_) AllReadyH.nil
      go_simp
      obtain ⟨k2, hk2⟩ : ∃ x, x = k1.setCell ⟨g, i * 35 + 34, none⟩ (.int .u64 (nb64 sl)) := ⟨_, rfl⟩
      rw [← hk2]
      have hm2 : Moved (fun j => j = g) k1 k2 := by rw [hk2]; exact Moved.put (F := fun j => j = g) (Moved.refl _ _) (.inl rfl) _ _
      refine hK.out _ _ (HeldM.of hm2) (fun _ => ?_)
      clear hK K
      refine heldM_grow (w1 := k2) hm2 ?_
      clear hHeld
      have hHeld : HeldM (fun j => j = g) k2 k2 := HeldM.refl _ _
      have HK2 := Lib.hid hk2
      clear hk2 q34 l34
      refine wpAnyH_done (by kernel_rfl) ?_ _
      have ho2 : OwnR spRec 75 B k2 (.slice (some ⟨g, 0, none⟩) n q2) (Lk.mix t keys (i + 1)) := by
        have h1 := (HOs.out.below hk1).setCell (i := i) (j := 34) (s := Lk.keyed s key) (s' := Lk.signSp id s key) (x := .int .u64 (nb64 sl)) (List.getElem?_set_self (List.getElem?_eq_some_iff.1 HMX.out.1).1) HOK.out.2.2.2 (show 34 < 35 by omega) (by rw [HSL.out]; exact Lk.sealed_cells HOK.out.2.1.1 id key)
        rw [List.set_set, ← HID.out.1, HMX.out.2] at h1
        rw [HK2.out]
        exact h1
      have hc2 : OwnR coRec 35 B k2 (.slice b2 m r2) t.co := (HCs.out.below hk1).moved hm2 (fun j hj e => ownr_ne (by rfl) (HCs.out.below hk1) (HOs.out.below hk1) hj (by rw [show j = g from e]; rfl))
      have hy2 := (HYs.out.under hk1 HYs.out.lt).moved hm2 (fun e => HNE.out e.symm)
      have hb2 : Below B w3 k2 := by
        rw [HK2.out, ← HB.out.2.2.2.1]
        exact (HBs.out.trans (hk1.mono HBs.out.size)).setCell (p := ⟨g, _, none⟩) (by rw [HB.out.2.2.2.1]; exact HCUR.out.2) _
      clear hm1 hm2 hQ1 hk1 hHeld
      go_wp2
      go_roundw
      case rel => exact ⟨i + 1, by omega, by go_num, ho2, hc2, hy2, hb2⟩
      case measure => (simp [intOf]; try omega)
    · have hii : ¬ (i : Int) < (n : Int) := by omega
      obtain rfl : i = n := by omega
      rw [Lk.mix_all HN.out.1 HN.out.2.1] at ho
      have hRr := hR3.under hB3 hR3.lt
      have lY := hy.load_agg (P := Tryz.prog) (t := 39) Tryz.underlying39 rfl (by kernel_rfl)
      go_wp2_with (first
        | (refine wpList_store_mid rfl 39 (.tmp 4) (.tmp 44) rfl (g1 + 1) 0 #[.slice a2 i q2, .slice b2 m r2, .bool t.firm] rfl rfl (hRr.there 0 3 (Nat.le_refl _)) (by kernel_rfl) (vRec.all_one ⟨a2, i, q2, b2, m, r2, ⟨[], [], t.firm⟩⟩) ?_)
        | (refine wpList_load_run rfl 39 (.tmp 7) rfl _ _ rfl lY ?_))
      obtain ⟨w6, hw6⟩ : ∃ x, x = wr.setCells (g1 + 1) 0 [.slice a2 i q2, .slice b2 m r2, .bool t.firm] := ⟨_, rfl⟩
      rw [← hw6]
      have hR6 : Has w6 (g1 + 1) 39 #[.slice a2 i q2, .slice b2 m r2, .bool t.firm] := by rw [hw6]; exact hRr.whole_cs (cs2 := #[.slice a2 i q2, .slice b2 m r2, .bool t.firm]) rfl
      have hM6 : Moved (fun j => j = g1 + 1) wr w6 := by rw [hw6]; exact Moved.putAll (F := fun j => j = g1 + 1) (.inl rfl) _ 0 (Moved.refl _ _)
      have ho6 := ho.moved hM6 (fun j hj e => by have e2 : j = g1 + 1 := e; have := ho.lt j hj; have := HB.out; omega)
      have hc6 := hc.moved hM6 (fun j hj e => by have e2 : j = g1 + 1 := e; have := hc.lt j hj; have := HB.out; omega)
      refine bodyPost_ret (results_cellslot rfl _ _ (g1 + 1) rfl _ _ (hR6.load_var Tryz.underlying39 rfl (by kernel_rfl)) rfl) rfl ⟨a2, q2, b2, r2, rfl, ⟨ho6.low (by have := HB.out; omega), hc6.low (by have := HB.out; omega)⟩, ?_⟩
      rw [hw6]
      exact below_setAll (by have := HB.out; omega) _ 0 (hw13.trans (hB3.mono hw13.size))
end Go.Proofs.YtagjolbpmhbifaaGreatDoor

/-! LockChecks over the premise (mklkh.py) -/
namespace Go.Proofs.YtagjolbpmhbifaaGreatDoor
open Go Go.RowKit Go.ChangeShapes Go.WideShapes
/-- package lock's Check, as a premise -/
def LockChk (KD : World → Prop) : Prop := ∀ (a : Option Addr) (n q : Nat) (b : Option Addr) (m r : Nat) (t : Tx.T) (ca : Option Addr) (cn cq : Nat) (cl : List Tx.Co) (w : World), KD w → TxAt w a n q b m r t → Tx.Small t → Recs coRec w ca cn cl → cn ≤ cq ∧ (ca = none → cq = 0) →
  Calls Tryz.prog 35 #[txv a n q b m r t.firm, .slice ca cn cq] w fun e w' => e = .returned (errn (Lk.check t cl)) ∧ Below w.heap.size w w'
end Go.Proofs.YtagjolbpmhbifaaGreatDoor

/-! package lock: Check, where it asks Opens of each spend, in order (mklkm.py) -/
namespace Go.Proofs.YtagjolbpmhbifaaGreatDoor
open Go Go.RowKit Go.ChangeShapes Go.WideShapes
set_option maxRecDepth 100000 in
set_option maxHeartbeats 8000000 in
theorem lockChk : LockChk KDg := by
  intro a n q b m r t ca cn cq cl w hT ht hs hc hcq
  obtain ⟨W1, hW1⟩ : ∃ x, x = w.alloc (.cells #[.slice a n q, .slice b m r, .bool t.firm] 39) := ⟨_, rfl⟩
  have hb1 : Below w.heap.size w W1 := by rw [hW1]; exact (Below.refl _ w).alloc (Nat.le_refl _) _
  have hX : Has W1 w.heap.size 39 #[.slice a n q, .slice b m r, .bool t.firm] := by rw [hW1]; exact Has.fresh _ _ _
  have HW := Lib.hid hW1
  have HT := Lib.hid (ht.below hb1)
  have HC := Lib.hid (hc.below hb1)
  have HK := Lib.hid (hT.below hb1)
  have HS := Lib.hid hs
  have hnl : t.sp.length = n := ht.sp.1
  have hcl : cl.length = cn := hc.1
  have hcmx : cn ≤ 9223372036854775807 := hc.2.1
  have hnmx : n ≤ 9223372036854775807 := ht.sp.2.1
  obtain ⟨z, hz⟩ : ∃ z, z = Lk.check t cl := ⟨_, rfl⟩
  rw [← hz]
  have HZ := Lib.hid hz
  obtain ⟨g1, hg1⟩ : ∃ g, g = w.heap.size := ⟨_, rfl⟩
  have HG := Lib.hid hg1
  rw [← hg1] at hX
  have HN := Lib.hid (And.intro hnl hcl)
  clear hW1 ht hc hT hs hnl hcl hz hg1
  have f0 : W1.cell? ⟨g1, 0, none⟩ = some (.slice a n q) := hX.cell_at rfl
  by_cases hne : cn = n
  · subst hne
    obtain ⟨id, hid⟩ : ∃ d, d = Tx.idOf false t := ⟨_, rfl⟩
    have HID := Lib.hid (show Tx.idOf false t = id ∧ id.length = 32 from ⟨hid.symm, by rw [hid]; exact Tx.idOf_len _ _⟩)
    have lX := hX.load_agg (P := Tryz.prog) (t := 39) Tryz.underlying39 rfl (by kernel_rfl)
    clear hid
    go_enter Tryz.func35, Tryz.ntmps35
    go_upto_region 1 with fail
    rw [← HW.out, ← HG.out]
    go_upto_region 4 with (first
      | (refine wpList_store_mid rfl 30 (.tmp 5) (.tmp 16) rfl w2.heap.size 0 (blist id).toArray rfl rfl (there_new w2 _ HID.out.2) (size_hash' HID.out.2) (one_hash _) ?_)
      | (go_at_call 58; refine (pid_any a cn q b m r t t.firm rfl W1 HT.out HS.out HK.out).mono ?_; rw [HID.out.1]; rintro e w2 ⟨rfl, hb2⟩)
      | (refine wpList_load_run rfl 39 (.tmp 2) rfl _ _ rfl lX ?_))
    clear lX f0
    obtain ⟨w3, hw3⟩ : ∃ x, x = (w2.alloc (.cells z32 30)).setCells w2.heap.size 0 (blist id) := ⟨_, rfl⟩
    rw [← hw3]
    obtain ⟨hH, hb3⟩ := hash_new HID.out.2 hw3
    obtain ⟨g5, hg5⟩ : ∃ g, g = w2.heap.size := ⟨_, rfl⟩
    rw [← hg5] at hH ⊢
    have hb13 : Below W1.heap.size W1 w3 := hb2.trans (hb3.mono hb2.size)
    have hX3 := hX.under hb13 hX.lt
    have HT3 := Lib.hid (HT.out.below hb13)
    have HC3 := Lib.hid (HC.out.below hb13)
    have HK3 := Lib.hid (HK.out.below hb13)
    have hw13 := hb1.trans (hb13.mono hb1.size)
    clear hw3 hg5 hX hb2 hb3 hb13
    have f3 : w3.cell? ⟨g1, 0, none⟩ = some (.slice a cn q) := hX3.cell_at rfl
    go_wp2
    clear f3
    go_loopw [20] (fun iv wr => ∃ i : Nat, i ≤ cn ∧ iv = .int .i64 i ∧ RowKit.Hid (∀ (j : Nat) (s : Tx.Sp) (c : Tx.Co), j < i → t.sp[j]? = some s → cl[j]? = some c → Lk.opens s c (Tx.idOf false t) = true) ∧ Below w3.heap.size w3 wr) (fun iv _ => cn - (intOf iv).toNat)
    case atStart => exact ⟨0, Nat.zero_le _, rfl, Lib.hid (fun j s c hj => by omega), Below.refl _ _⟩
    case round =>
      obtain ⟨i, hi, rfl, HB, hb⟩ := hrel
      by_cases hlt : i < cn
      · have hii : (i : Int) < (cn : Int) := by omega
        have hi0 : (0 : Int) ≤ (i : Int) := by omega
        obtain ⟨s, hs⟩ := HT3.out.sp.get hlt
        obtain ⟨c, hc⟩ := HC3.out.get hlt
        obtain ⟨x, hax, _⟩ := HT3.out.sp.2.2.2 i s hs
        obtain ⟨y, hay, _⟩ := HC3.out.2.2.2 i c hc
        subst hax
        subst hay
        have HSC := Lib.hid (show t.sp[i]? = some s ∧ cl[i]? = some c ∧ Tx.SpOk s ∧ s.key.length ≤ 10000 from ⟨hs, hc, HT3.out.sp.okay hs, by have := HS.out.2.2 s (List.mem_of_getElem? hs); omega⟩)
        have hy := spends_at (HT3.out.sp.below hb) hs
        clear hs hc
        go_upto_region 7 with (first
          | (refine wpList_store_mid rfl 75 (.tmp 7) (.tmp 24) rfl wr.heap.size 0 (spCells s).toArray rfl rfl (spRec.there _ _ rfl HSC.out.2.2.1) (spRec.size_eq size_spend HSC.out.2.2.1) (spRec.all_one s) ?_)
          | (refine wpList_load_run rfl 75 (.tmp 23) rfl _ _ rfl hy ?_))
        obtain ⟨w5, hw5⟩ : ∃ x, x = (wr.alloc (.cells zSp 75)).setCells wr.heap.size 0 (spCells s) := ⟨_, rfl⟩
        obtain ⟨hG, hb5⟩ := Rec.new (R := spRec) rfl HSC.out.2.2.1 hw5
        rw [← hw5]
        clear hw5 hy
        obtain ⟨g7, hg7⟩ : ∃ g, g = wr.heap.size := ⟨_, rfl⟩
        rw [← hg7] at hG ⊢
        clear hg7
        replace hb := hb.trans (hb5.mono hb.size)
        clear hb5
        obtain ⟨ws, hws⟩ : ∃ x, x = w5.drew := ⟨_, rfl⟩
        have hbs : Below w5.heap.size w5 ws := by rw [hws]; exact (Below.refl _ _).drew
        have hBs := hb.trans (hbs.mono hb.size)
        have HGs := Lib.hid (hG.under hbs hG.lt)
        have HHs := Lib.hid (hH.under hBs hH.lt)
        have HCs := Lib.hid (HC3.out.below hBs)
        have HKs := Lib.hid (HK3.out.below hBs)
        obtain ⟨o, ho⟩ : ∃ o, o = Lk.opens s c id := ⟨_, rfl⟩
        have HO := Lib.hid ho
        clear ho hG
        refine wp_region_held_drew (S := Held ws) (by kernel_rfl) (by rw [hws]; exact Held.refl _) (fun hHeld => ?_)
        rw [← hws] at hHeld ⊢
        clear hws hbs
        refine take_at 0 25 rfl rfl (by kernel_rfl) (by kernel_rfl) (by kernel_rfl) (fun _ _ _ h => h) hHeld (yieldsIf_load_agg (by rfl) 75 (.tmp 7) rfl _ _ (by rfl) (fun wq hSw => (HGs.out.under hSw HGs.out.lt).load_agg (P := Tryz.prog) (t := 75) Tryz.underlying75 rfl (spRec.size_eq size_spend HSC.out.2.2.1))) rfl ?_
        simp only [List.set_cons_zero, List.set_cons_succ]
        refine take_at (v := ?_) 1 26 rfl rfl (by kernel_rfl) (by kernel_rfl) (by kernel_rfl) (fun _ _ _ h => h) hHeld (Or.inl ⟨by rfl, ?_⟩) rfl ?_
        rotate_left
        · intro wq hSw
          go_simp
          try with_reducible rfl
        simp only [List.set_cons_zero, List.set_cons_succ]
        refine take_at (v := ?_) 2 27 rfl rfl (by kernel_rfl) (by kernel_rfl) (by kernel_rfl) (fun _ _ _ h => h) hHeld (Or.inl ⟨by rfl, ?_⟩) rfl ?_
        rotate_left
        · intro wq hSw
          go_simp
          try with_reducible rfl
        simp only [List.set_cons_zero, List.set_cons_succ]
        refine take_at (v := ?_) 3 28 rfl rfl (by kernel_rfl) (by kernel_rfl) (by kernel_rfl) (fun _ _ _ h => h) hHeld (Or.inl ⟨by rfl, ?_⟩) rfl ?_
        rotate_left
        · intro wq hSw
          go_simp
          try with_reducible rfl
        simp only [List.set_cons_zero, List.set_cons_succ]
        refine take_at 4 29 rfl rfl (by kernel_rfl) (by kernel_rfl) (by kernel_rfl) (fun _ _ _ h => h) hHeld (yieldsIf_load_agg (by rfl) 35 (.tmp 28) rfl _ _ (by rfl) (fun wq hSw => coins_at (HCs.out.below hSw) HSC.out.2.1)) rfl ?_
        simp only [List.set_cons_zero, List.set_cons_succ]
        refine take_at 5 30 rfl rfl (by kernel_rfl) (by kernel_rfl) (by kernel_rfl) (fun _ _ _ h => h) hHeld (yieldsIf_load_agg (by rfl) 30 (.tmp 5) rfl _ _ (by rfl) (fun wq hSw => (HHs.out.under hSw HHs.out.lt).load_agg (P := Tryz.prog) (t := 30) Tryz.underlying30 rfl (size_hash' HID.out.2))) rfl ?_
        simp only [List.set_cons_zero, List.set_cons_succ]
        refine wpAnyH_ready (rs := [6]) (by kernel_rfl) (by simp) ?_
        refine AllReadyH.cons rfl (fun K hK => ?_) AllReadyH.nil
        go_simp
        go_at_call 65; refine (popens_any s c id ws HSC.out.2.2.1 HSC.out.2.2.2 HID.out.2 HKs.out).mono ?_; rw [← HO.out]; rintro e k1 ⟨rfl, hk1⟩
        refine hK.out _ _ (Held.of hk1) (fun _ => ?_)
        clear hK K
        try simp only [Act.put, List.setIfInBounds_toArray, List.set_cons_zero, List.set_cons_succ]
        refine held_grow (w1 := k1) (Held.of hk1) ?_
        clear hHeld
        have hHeld : Held k1 k1 := Held.refl _
        refine take_at (v := ?_) 7 32 rfl rfl (by kernel_rfl) (by kernel_rfl) (by kernel_rfl) (fun _ _ _ h => h) hHeld (Or.inl ⟨by rfl, ?_⟩) rfl ?_
        rotate_left
        · intro wq hSw
          go_simp
          try with_reducible rfl
        simp only [List.set_cons_zero, List.set_cons_succ]
        refine wpAnyH_done (by kernel_rfl) ?_ _
        cases o
        · have HE := Lib.hid (show z = 10 by
            rw [HZ.out, Lk.check, if_pos (by rw [HN.out.1, HN.out.2]), if_neg]
            intro h
            have h2 := h i s c HSC.out.1 HSC.out.2.1
            rw [HID.out.1, ← HO.out] at h2
            cases h2)
          go_wp2
          go_ret
          exact ⟨by rw [HE.out]; rfl, hw13.trans ((hBs.trans (hk1.mono hBs.size)).mono hw13.size)⟩
        · have HB2 := Lib.hid (show ∀ (j : Nat) (s : Tx.Sp) (c : Tx.Co), j < i + 1 → t.sp[j]? = some s → cl[j]? = some c → Lk.opens s c (Tx.idOf false t) = true from fun j u v hj hu hv => by
            rcases Nat.lt_or_ge j i with h | h
            · exact HB.out j u v h hu hv
            · have e2 : j = i := by omega
              subst e2
              rw [HSC.out.1] at hu
              rw [HSC.out.2.1] at hv
              injection hu with hu
              injection hv with hv
              subst hu
              subst hv
              rw [HID.out.1]
              exact HO.out.symm)
          go_wp2
          go_roundw
          case rel => exact ⟨i + 1, by omega, by go_num, HB2, hBs.trans (hk1.mono hBs.size)⟩
          case measure => (simp [intOf]; try omega)
      · have hii : ¬ (i : Int) < (cn : Int) := by omega
        have HE := Lib.hid (show z = 0 by
          rw [HZ.out, Lk.check, if_pos (by rw [HN.out.1, HN.out.2]), if_pos]
          exact fun j s c hs hc => HB.out j s c (by have h9 : j < t.sp.length := (List.getElem?_eq_some_iff.1 hs).1; rw [HN.out.1] at h9; omega) hs hc)
        go_wp2
        go_ret
        exact ⟨by rw [HE.out]; rfl, hw13.trans (hb.mono hw13.size)⟩
  · have HE := Lib.hid (show z = 1 by rw [HZ.out, Lk.check, if_neg (by rw [HN.out.1, HN.out.2]; exact hne)])
    have hnn : ((cn : Int) != (n : Int)) = true := by simp; omega
    go_enter Tryz.func35, Tryz.ntmps35
    go_upto_region 1 with fail
    rw [← HW.out, ← HG.out]
    go_wp2
    go_ret
    exact ⟨by rw [HE.out]; rfl, hb1⟩
end Go.Proofs.YtagjolbpmhbifaaGreatDoor
