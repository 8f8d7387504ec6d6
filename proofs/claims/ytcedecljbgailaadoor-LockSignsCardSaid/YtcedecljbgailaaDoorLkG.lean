/- the reference's Sign (mklkg.py) -/
import Derived.Test.YtcedecljbgailaaDoorLkC
import Derived.Test.YtcedecljbgailaaDoorLz
namespace Go.Proofs.YtcedecljbgailaaDoor
open Go Go.RowKit Go.ChangeShapes Go.WideShapes
set_option maxRecDepth 100000 in
theorem built_sp32 (d0 d1 d2 d3 d4 d5 d6 d7 d8 d9 d10 d11 d12 d13 d14 d15 d16 d17 d18 d19 d20 d21 d22 d23 d24 d25 d26 d27 d28 d29 d30 d31 : BitVec 8) (n : Int) (key : ByteArray) (sl : BitVec 64) : Tryd.prog.built 28 [(0, .agg (ptCells [d0, d1, d2, d3, d4, d5, d6, d7, d8, d9, d10, d11, d12, d13, d14, d15, d16, d17, d18, d19, d20, d21, d22, d23, d24, d25, d26, d27, d28, d29, d30, d31] n).toArray), (1, .string key), (2, .int .u64 (nb64 sl))] = some (blist [d0, d1, d2, d3, d4, d5, d6, d7, d8, d9, d10, d11, d12, d13, d14, d15, d16, d17, d18, d19, d20, d21, d22, d23, d24, d25, d26, d27, d28, d29, d30, d31] ++ ([.int .i64 n, .string key, .int .u64 (nb64 sl)] : List Value)).toArray := by kernel_rfl
theorem built_sp : ∀ (h : List (BitVec 8)), h.length = 32 → ∀ (n : Int) (key : List (BitVec 8)) (sl : BitVec 64), Tryd.prog.built 28 [(0, .agg (ptCells h n).toArray), (1, .string (strB key)), (2, .int .u64 (nb64 sl))] = some (spCells ⟨h, n, key, sl⟩).toArray
  | [d0, d1, d2, d3, d4, d5, d6, d7, d8, d9, d10, d11, d12, d13, d14, d15, d16, d17, d18, d19, d20, d21, d22, d23, d24, d25, d26, d27, d28, d29, d30, d31], _, n, key, sl => built_sp32 d0 d1 d2 d3 d4 d5 d6 d7 d8 d9 d10 d11 d12 d13 d14 d15 d16 d17 d18 d19 d20 d21 d22 d23 d24 d25 d26 d27 d28 d29 d30 d31 n (strB key) sl
theorem yieldsIf_build_sp {ops : Array Oper} {S : World → Prop} {op : Oper} {a : Act} (hw : Region.wanted op (yielded ops a.tmps) = true) (x y z : Operand) (ho : op.op = .build 28 #[(0, x), (1, y), (2, z)]) (h : List (BitVec 8)) (n : Int) (key : List (BitVec 8)) (sl : BitVec 64)
    (hx : a.eval x = .agg (ptCells h n).toArray) (hy : a.eval y = .string (strB key)) (hz : a.eval z = .int .u64 (nb64 sl)) (hl : h.length = 32) {cs : Array Value} (hcs : cs = (spCells ⟨h, n, key, sl⟩).toArray) : YieldsIf Tryd.prog ops S op (.agg cs) a :=
  .inl ⟨hw, fun w _ => by
    have hr := run_build (P := Tryd.prog) w 28 #[(0, .agg (ptCells h n).toArray), (1, .string (strB key)), (2, .int .u64 (nb64 sl))] _ (built_sp h hl n key sl)
    subst hcs
    unfold execOp
    simp only [ho, List.map_toArray, List.map_cons, List.map_nil, hx, hy, hz, Sem.run_bind, Sem.run_pure, Result.andThen_ok, hr]⟩
theorem lk_step_build_row {P : Program} {w : World} {ops : Array Oper} {o : Oper} {a : Act} {K : Act → World → Prop} {Q : Exit → Act → World → Prop} {E : Prop} (hwt : Region.wanted o (yielded ops a.tmps) = true) (x : Operand) (t : TypeId) (ho : o.op = .buildSlice t 1 #[(0, x)])
    (T : TypeId) {z : Array Value} {k by_ : Nat} (ht : P.underlying t = some (.slice T)) (hi : (P.info? T).map (fun i => (i.zero, i.size, i.bytes)) = some (some (.agg z), k, by_)) (hk : 0 < k) (hk2 : k ≤ 16777216) (cs : Array Value) (hc : cs.size = k) (hx : a.eval x = .agg cs)
    (h : K (a.put o.dst (.slice (some ⟨w.heap.size, 0, none⟩) 1 1)) (w.alloc (.cells cs T))) : if Region.wanted o (yielded ops a.tmps) = true then Oper.wp P o a w K Q else E := by
  rw [if_pos hwt]
  have hr := run_build_row (P := P) ht hi hk hk2 cs hc w
  unfold Oper.wp execOp
  simp only [ho, List.map_toArray, List.map_cons, List.map_nil, hx, Sem.run_bind, Sem.run_pure, Result.andThen_ok, hr]
  exact h
theorem Recs.block_lt {α : Type} {R : Rec α} {w : World} {a : Option Addr} {n : Nat} {L : List α} (h : Recs R w a n L) (hn : 0 < n) (x : Addr) (hx : a = some x) : x.block < w.heap.size := by
  subst hx
  obtain ⟨t, ht⟩ := h.get hn
  have hp : 0 < (R.cells t).length := by rw [R.len t (h.okay ht)]; exact R.pos
  have hc := h.field (R := R) (j := 0) ht (List.getElem?_eq_getElem hp)
  have h1 := isSome_lt (w := w) (p := x.add (0 * R.k + 0)) (by rw [hc]; rfl)
  rwa [block_add] at h1
theorem lk_recs_one {α : Type} {R : Rec α} {T : TypeId} {w : World} {x : α} (hx : R.ok x) {cs : Array Value} (hcs : cs = (R.cells x).toArray) : Recs R (w.alloc (.cells cs T)) (some ⟨w.heap.size, 0, none⟩) 1 [x] :=
  recs_fresh (R := R) (L := [x]) (fun t ht => by rw [List.mem_singleton.1 ht]; exact hx) (Has.fresh _ _ _) (by show 1 ≤ maxLen; unfold maxLen; omega) (fun j u hj => by
    rw [hcs, List.getElem?_toArray]
    simpa [Rec.row] using hj)
namespace Lk
def signSp (id : List (BitVec 8)) (s : Tx.Sp) (key : List (BitVec 8)) : Tx.Sp := ⟨s.h, s.n, key, sealOf key id⟩
def signed (t : Tx.T) (keys : List (List (BitVec 8))) : List Tx.Sp := (t.sp.zip keys).map (fun p => signSp (Tx.idOf false t) p.1 p.2)
def sign (t : Tx.T) (keys : List (List (BitVec 8))) : Tx.T := ⟨signed t keys, t.co, t.firm⟩
theorem signed_len (t : Tx.T) (keys : List (List (BitVec 8))) (h : keys.length = t.sp.length) : (signed t keys).length = t.sp.length := by
  unfold signed
  rw [List.length_map, List.length_zip, h, Nat.min_self]
theorem signed_at {t : Tx.T} {keys : List (List (BitVec 8))} {i : Nat} {s : Tx.Sp} {key : List (BitVec 8)} (hs : t.sp[i]? = some s) (hk : keys[i]? = some key) : (signed t keys)[i]? = some (signSp (Tx.idOf false t) s key) := by
  unfold signed
  rw [List.getElem?_map, List.zip_eq_zipWith, List.getElem?_zipWith, hs, hk]
  rfl
theorem signed_take {t : Tx.T} {keys : List (List (BitVec 8))} {i : Nat} {s : Tx.Sp} {key : List (BitVec 8)} (hs : t.sp[i]? = some s) (hk : keys[i]? = some key) : (signed t keys).take (i + 1) = (signed t keys).take i ++ [signSp (Tx.idOf false t) s key] := by
  obtain ⟨h2, h3⟩ := List.getElem?_eq_some_iff.1 (signed_at hs hk)
  rw [List.take_succ_eq_append_getElem h2, h3]
end Lk
def SignPost (n : Nat) (b : Option Addr) (m r : Nat) (t : Tx.T) (keys : List (List (BitVec 8))) (w0 : World) (e : Ending) (w' : World) : Prop :=
  ∃ (a : Option Addr) (q : Nat), e = .returned (txv a n q b m r t.firm) ∧ OwnR spRec 28 w0.heap.size w' (.slice a n q) (Lk.signed t keys) ∧ Below w0.heap.size w0 w'
set_option maxRecDepth 100000 in
set_option maxHeartbeats 16000000 in
theorem rsign_any (a : Option Addr) (n q : Nat) (b : Option Addr) (m r : Nat) (t : Tx.T) (ca : Option Addr) (cq : Nat) (keys : List (List (BitVec 8))) (w : World) (ht : TxAt w a n q b m r t) (hs : Tx.Small t) (hc : Recs strRec w ca n keys) (hk : ∀ k, k ∈ keys → k.length ≤ 10000) (hT : Tab32 w 1 Dg.kL) :
    Calls Tryd.prog 19 #[txv a n q b m r t.firm, .slice ca n cq] w (SignPost n b m r t keys w) := by
  have HPL := Lib.hid (And.intro (fun (h0 : 0 < n) u hu => ht.sp.block_lt h0 u hu) (fun (h0 : 0 < n) u hu => hc.block_lt h0 u hu))
  obtain ⟨W1, hW1⟩ : ∃ x, x = (w.alloc (.cells #[.slice a n q, .slice b m r, .bool t.firm] 38)).alloc (.cells zTx 38) := ⟨_, rfl⟩
  have hb1 : Below w.heap.size w W1 := by
    rw [hW1]
    exact ((Below.refl _ w).alloc (Nat.le_refl _) _).alloc (by simp) _
  have hX : Has W1 w.heap.size 38 #[.slice a n q, .slice b m r, .bool t.firm] := by rw [hW1]; exact (Has.fresh w _ _).past _
  have hR : Has W1 (w.heap.size + 1) 38 zTx := by rw [hW1]; exact Has.fresh_at _ _ _ (by simp)
  have lX := hX.load_agg (P := Tryd.prog) (t := 38) Tryd.underlying38 rfl (by kernel_rfl)
  have HW := Lib.hid hW1
  have HT := Lib.hid (ht.below hb1)
  have HC := Lib.hid (hc.below hb1)
  have HK := Lib.hid (hT.below hb1)
  have HS := Lib.hid hs
  have hnl : t.sp.length = n := ht.sp.1
  have hkl : keys.length = n := hc.1
  have hnmx : n ≤ 9223372036854775807 := ht.sp.2.1
  have hn30 : n ≤ 30 := by rw [← hnl]; exact hs.1
  have HN := Lib.hid (show t.sp.length = n ∧ keys.length = n ∧ n ≤ 30 ∧ (∀ k, k ∈ keys → k.length ≤ 10000) from ⟨hnl, hkl, hn30, hk⟩)
  obtain ⟨id, hid⟩ : ∃ d, d = Tx.idOf false t := ⟨_, rfl⟩
  have HID := Lib.hid (show Tx.idOf false t = id ∧ id.length = 32 from ⟨hid.symm, by rw [hid]; exact Tx.idOf_len _ _⟩)
  obtain ⟨LL, hLL⟩ : ∃ x, x = Lk.signed t keys := ⟨_, rfl⟩
  have HLL := Lib.hid hLL
  have HLN := Lib.hid (show LL.length = n by rw [hLL, Lk.signed_len t keys (by rw [hkl, hnl]), hnl])
  obtain ⟨g1, hg1⟩ : ∃ g, g = w.heap.size := ⟨_, rfl⟩
  have HG := Lib.hid hg1
  rw [← hg1] at hX hR lX
  clear hW1 ht hc hT hs hnl hkl hg1 hid hLL hk
  go_enter Tryd.func19, Tryd.ntmps19
  go_upto_region 1 with fail
  rw [← HW.out, ← HG.out]
  go_upto_region 2 with (first
    | (refine wpList_store_mid rfl 23 (.tmp 5) (.tmp 9) rfl w2.heap.size 0 (blist id).toArray rfl rfl (there_new w2 _ HID.out.2) (size_hash' HID.out.2) (one_hash _) ?_)
    | (go_at_call 29; refine (rid_any a n q b m r t W1 HT.out HS.out HK.out).mono ?_; rw [HID.out.1]; rintro e w2 ⟨rfl, hb2⟩)
    | (refine wpList_load_run rfl 38 (.tmp 2) rfl _ _ rfl lX ?_))
  clear lX
  obtain ⟨w3, hw3⟩ : ∃ x, x = (w2.alloc (.cells z32 23)).setCells w2.heap.size 0 (blist id) := ⟨_, rfl⟩
  rw [← hw3]
  obtain ⟨hH, hb3⟩ := hash_new HID.out.2 hw3
  obtain ⟨g5, hg5⟩ : ∃ g, g = w2.heap.size := ⟨_, rfl⟩
  have hlt5 : w2.heap.size < w3.heap.size := hH.lt
  rw [← hg5] at hH ⊢
  have hb13 : Below W1.heap.size W1 w3 := hb2.trans (hb3.mono hb2.size)
  obtain ⟨B, hB⟩ : ∃ B, B = w3.heap.size := ⟨_, rfl⟩
  have HB := Lib.hid (show g1 = w.heap.size ∧ g1 + 1 < W1.heap.size ∧ W1.heap.size ≤ g5 ∧ g5 < B ∧ w3.heap.size = B from ⟨HG.out, hR.lt, by have := hb2.size; omega, by omega, hB.symm⟩)
  have hX3 := hX.under hb13 hX.lt
  have hR3 := hR.under hb13 hR.lt
  have HT3 := Lib.hid (HT.out.below hb13)
  have HC3 := Lib.hid (HC.out.below hb13)
  have HK3 := Lib.hid (HK.out.below hb13)
  have hw13 := hb1.trans (hb13.mono hb1.size)
  clear hw3 hg5 hB hlt5 hX hR hb2 hb3 hb13
  go_wp2
  go_loopw [6, 7] (fun lv iv wr => ∃ (i : Nat) (oa : Option Addr) (oq : Nat), i ≤ n ∧ iv = .int .i64 i ∧ lv = .slice oa i oq ∧ OwnR spRec 28 B wr (.slice oa i oq) (LL.take i) ∧ Below B w3 wr) (fun _ iv _ => n - (intOf iv).toNat)
  case atStart => exact ⟨0, none, 0, Nat.zero_le _, rfl, rfl, by rw [List.take_zero]; exact OwnR.nil _ _ _ _, Below.refl _ _⟩
  case round =>
    obtain ⟨i, oa, oq, hi, rfl, rfl, ho, hbr⟩ := hrel
    have hB3 : Below w3.heap.size w3 wr := by rw [HB.out.2.2.2.2]; exact hbr
    have c0 : wr.cell? ⟨g1, 0, none⟩ = some (.slice a n q) := (hX3.under hB3 hX3.lt).cell_at rfl
    by_cases hlt : i < n
    · have hii : (i : Int) < (n : Int) := by omega
      have hi0 : (0 : Int) ≤ (i : Int) := by omega
      obtain ⟨s, hs⟩ := HT3.out.sp.get hlt
      obtain ⟨key, hkey⟩ := HC3.out.get hlt
      obtain ⟨x, hax, _⟩ := HT3.out.sp.2.2.2 i s hs
      obtain ⟨y, hay, _⟩ := HC3.out.2.2.2 i key hkey
      subst hax
      subst hay
      have HOK := Lib.hid (show t.sp[i]? = some s ∧ keys[i]? = some key ∧ Tx.SpOk s ∧ key.length ≤ 10000 from ⟨hs, hkey, HT3.out.sp.okay hs, HN.out.2.2.2 key (List.mem_of_getElem? hkey)⟩)
      clear hs hkey
      obtain ⟨X, hX⟩ : ∃ X : Tx.Sp, X = Lk.signSp id s key := ⟨_, rfl⟩
      obtain ⟨sl, hsl⟩ : ∃ v, v = Lk.sealOf key id := ⟨_, rfl⟩
      obtain ⟨cs, hcs⟩ : ∃ cs : Array Value, cs = (spCells X).toArray := ⟨_, rfl⟩
      have hokX : spRec.ok X := by
        rw [hX]
        exact ⟨HOK.out.2.2.1.1, HOK.out.2.2.1.2.1, by show key.length ≤ maxLen; have := HOK.out.2.2.2; unfold maxLen; omega⟩
      have HX := Lib.hid (show spRec.ok X ∧ cs = (spRec.cells X).toArray ∧ cs.size = 35 ∧ cs = (spCells ⟨s.h, s.n, key, sl⟩).toArray ∧ Lk.sealOf key id = sl from ⟨hokX, hcs, by rw [hcs, List.size_toArray]; exact spRec.len X hokX, by rw [hcs, hX, hsl]; rfl, hsl.symm⟩)
      have HTK := Lib.hid (show LL.take (i + 1) = LL.take i ++ [X] ∧ (LL.take i).length = i from ⟨by rw [HLL.out, Lk.signed_take HOK.out.1 HOK.out.2.1, HID.out.1, hX], by rw [List.length_take, HLN.out]; omega⟩)
      clear hX hsl hcs hokX
      go_upto_region 6 with fail
      clear c0
      obtain ⟨ws, hws⟩ : ∃ x, x = wr.drew := ⟨_, rfl⟩
      have hbs : Below wr.heap.size wr ws := by rw [hws]; exact (Below.refl _ _).drew
      have hBs := hB3.trans (hbs.mono hB3.size)
      have HXs := Lib.hid (hX3.under hBs hX3.lt)
      have HHs := Lib.hid (hH.under hBs hH.lt)
      have HTs := Lib.hid (HT3.out.below hBs)
      have HCs := Lib.hid (HC3.out.below hBs)
      have HKs := Lib.hid (HK3.out.below hBs)
      have HO := Lib.hid (ho.below hbs)
      have HBr := Lib.hid (show B ≤ ws.heap.size ∧ Below B w3 ws from ⟨by have := hBs.size; have := HB.out.2.2.2.2; omega, hbr.trans (hbs.mono (by have := hbr.size; have := HB.out.2.2.2.2; omega))⟩)
      clear ho hbs hbr
      refine wp_region_held_drew (S := HeldM (fun j => B ≤ j) ws) (by kernel_rfl) (by rw [hws]; exact HeldM.refl _ _) (fun hHeld => ?_)
      rw [← hws] at hHeld ⊢
      clear hws
      refine take_at (v := ?_) 0 17 rfl rfl (by kernel_rfl) (by kernel_rfl) (by kernel_rfl) (fun _ _ _ h => h) hHeld (Or.inl ⟨by rfl, ?_⟩) rfl ?_
      rotate_left
      · intro wq hSw
        go_simp
        try with_reducible rfl
      simp only [List.set_cons_zero, List.set_cons_succ]
      refine take_at (v := ?_) 1 18 rfl rfl (by kernel_rfl) (by kernel_rfl) (by kernel_rfl) (fun _ _ _ h => h) hHeld (Or.inl ⟨by rfl, ?_⟩) rfl ?_
      rotate_left
      · intro wq hSw
        go_simp
        try with_reducible rfl
      simp only [List.set_cons_zero, List.set_cons_succ]
      refine take_at (v := ?_) 2 19 rfl rfl (by kernel_rfl) (by kernel_rfl) (by kernel_rfl) (fun _ _ _ h => h) hHeld (Or.inl ⟨by rfl, ?_⟩) rfl ?_
      rotate_left
      · intro wq hSw
        have hst := (HXs.out.moved hSw.out (fun e => by have e2 : B ≤ g1 := e; have := HB.out; omega)).cell_at (i := 0) rfl
        go_simp
        try with_reducible rfl
      simp only [List.set_cons_zero, List.set_cons_succ]
      refine take_at (v := ?_) 3 20 rfl rfl (by kernel_rfl) (by kernel_rfl) (by kernel_rfl) (fun _ _ _ h => h) hHeld (Or.inl ⟨by rfl, ?_⟩) rfl ?_
      rotate_left
      · intro wq hSw
        go_simp
        try with_reducible rfl
      simp only [List.set_cons_zero, List.set_cons_succ]
      refine take_at (v := ?_) 4 21 rfl rfl (by kernel_rfl) (by kernel_rfl) (by kernel_rfl) (fun _ _ _ h => h) hHeld (Or.inl ⟨by rfl, ?_⟩) rfl ?_
      rotate_left
      · intro wq hSw
        go_simp
        try with_reducible rfl
      simp only [List.set_cons_zero, List.set_cons_succ]
      refine take_at (v := ?_) 5 22 rfl rfl (by kernel_rfl) (by kernel_rfl) (by kernel_rfl) (fun _ _ _ h => h) hHeld (Or.inl ⟨by rfl, ?_⟩) rfl ?_
      rotate_left
      · intro wq hSw
        go_simp
        try with_reducible rfl
      simp only [List.set_cons_zero, List.set_cons_succ]
      refine take_at 6 23 rfl rfl (by kernel_rfl) (by kernel_rfl) (by kernel_rfl) (fun _ _ _ h => h) hHeld (yieldsIf_load_agg (by rfl) 25 (.tmp 22) rfl _ _ (by rfl) (fun wq hSw => point_at (HTs.out.sp.moved hSw.out (fun h0 u hu e => by have e2 : B ≤ u.block := e; have := HPL.out.1 h0 u hu; have := HB.out; omega)) HOK.out.1)) rfl ?_
      simp only [List.set_cons_zero, List.set_cons_succ]
      refine take_at (v := ?_) 7 24 rfl rfl (by kernel_rfl) (by kernel_rfl) (by kernel_rfl) (fun _ _ _ h => h) hHeld (Or.inl ⟨by rfl, ?_⟩) rfl ?_
      rotate_left
      · intro wq hSw
        go_simp
        try with_reducible rfl
      simp only [List.set_cons_zero, List.set_cons_succ]
      refine take_at (v := ?_) 8 25 rfl rfl (by kernel_rfl) (by kernel_rfl) (by kernel_rfl) (fun _ _ _ h => h) hHeld (Or.inl ⟨by rfl, ?_⟩) rfl ?_
      rotate_left
      · intro wq hSw
        go_simp
        try with_reducible rfl
      simp only [List.set_cons_zero, List.set_cons_succ]
      refine take_at (v := ?_) 9 26 rfl rfl (by kernel_rfl) (by kernel_rfl) (by kernel_rfl) (fun _ _ _ h => h) hHeld (Or.inl ⟨by rfl, ?_⟩) rfl ?_
      rotate_left
      · intro wq hSw
        go_simp
        try with_reducible rfl
      simp only [List.set_cons_zero, List.set_cons_succ]
      refine take_at (v := ?_) 10 27 rfl rfl (by kernel_rfl) (by kernel_rfl) (by kernel_rfl) (fun _ _ _ h => h) hHeld (Or.inl ⟨by rfl, ?_⟩) rfl ?_
      rotate_left
      · intro wq hSw
        have hst := strs_at (HCs.out.moved hSw.out (fun h0 u hu e => by have e2 : B ≤ u.block := e; have := HPL.out.2 h0 u hu; have := HB.out; omega)) HOK.out.2.1
        go_simp
        try with_reducible rfl
      simp only [List.set_cons_zero, List.set_cons_succ]
      refine take_at (v := ?_) 11 28 rfl rfl (by kernel_rfl) (by kernel_rfl) (by kernel_rfl) (fun _ _ _ h => h) hHeld (Or.inl ⟨by rfl, ?_⟩) rfl ?_
      rotate_left
      · intro wq hSw
        go_simp
        try with_reducible rfl
      simp only [List.set_cons_zero, List.set_cons_succ]
      refine take_at (v := ?_) 12 29 rfl rfl (by kernel_rfl) (by kernel_rfl) (by kernel_rfl) (fun _ _ _ h => h) hHeld (Or.inl ⟨by rfl, ?_⟩) rfl ?_
      rotate_left
      · intro wq hSw
        go_simp
        try with_reducible rfl
      simp only [List.set_cons_zero, List.set_cons_succ]
      refine take_at (v := ?_) 13 30 rfl rfl (by kernel_rfl) (by kernel_rfl) (by kernel_rfl) (fun _ _ _ h => h) hHeld (Or.inl ⟨by rfl, ?_⟩) rfl ?_
      rotate_left
      · intro wq hSw
        go_simp
        try with_reducible rfl
      simp only [List.set_cons_zero, List.set_cons_succ]
      refine take_at (v := ?_) 14 31 rfl rfl (by kernel_rfl) (by kernel_rfl) (by kernel_rfl) (fun _ _ _ h => h) hHeld (Or.inl ⟨by rfl, ?_⟩) rfl ?_
      rotate_left
      · intro wq hSw
        have hst := strs_at (HCs.out.moved hSw.out (fun h0 u hu e => by have e2 : B ≤ u.block := e; have := HPL.out.2 h0 u hu; have := HB.out; omega)) HOK.out.2.1
        go_simp
        try with_reducible rfl
      simp only [List.set_cons_zero, List.set_cons_succ]
      refine take_at 15 32 rfl rfl (by kernel_rfl) (by kernel_rfl) (by kernel_rfl) (fun _ _ _ h => h) hHeld (yieldsIf_load_agg (by rfl) 23 (.tmp 5) rfl _ _ (by rfl) (fun wq hSw => (HHs.out.moved hSw.out (fun e => by have e2 : B ≤ g5 := e; have := HB.out; omega)).load_agg (P := Tryd.prog) (t := 23) Tryd.underlying23 rfl (size_hash' HID.out.2))) rfl ?_
      simp only [List.set_cons_zero, List.set_cons_succ]
      refine wpAnyH_ready (rs := [16]) (by kernel_rfl) (by simp) ?_
      refine AllReadyH.cons rfl (fun K hK => ?_) AllReadyH.nil
      go_simp
      go_at_call 10; refine (rseal_any key id ws HOK.out.2.2.2 HID.out.2 HKs.out).mono ?_; rw [HX.out.2.2.2.2]; rintro e k1 ⟨rfl, hk1⟩
      refine hK.out _ _ (HeldM.of (Moved.of_below hk1)) (fun _ => ?_)
      clear hK K
      try simp only [Act.put, List.setIfInBounds_toArray, List.set_cons_zero, List.set_cons_succ]
      refine heldM_grow (w1 := k1) (Moved.of_below hk1) ?_
      clear hHeld
      have hHeld : HeldM (fun j => B ≤ j) k1 k1 := HeldM.refl _ _
      refine take_at (v := .agg cs) 17 34 rfl rfl (by kernel_rfl) (by kernel_rfl) (by kernel_rfl) (fun _ _ _ h => h) hHeld (yieldsIf_build_sp (by rfl) (.tmp 23) (.tmp 27) (.tmp 33) rfl s.h s.n key sl (by rfl) (by rfl) (by rfl) HOK.out.2.2.1.1 HX.out.2.2.2.1) rfl ?_
      simp only [List.set_cons_zero, List.set_cons_succ]
      refine wpAnyH_ready (rs := [18]) (by kernel_rfl) (by simp) ?_
      refine AllReadyH.cons rfl (fun K hK => ?_) AllReadyH.nil
      refine lk_step_build_row (by rfl) (.tmp 34) 35 rfl 28 Tryd.underlying35 info_spend (by decide) (by decide) cs HX.out.2.2.1 (by first | rfl | simp [Act.eval]) ?_
      obtain ⟨k2, hk2⟩ : ∃ x, x = k1.alloc (.cells cs 28) := ⟨_, rfl⟩
      rw [← hk2]
      have hbk2 : Below k1.heap.size k1 k2 := by rw [hk2]; exact (Below.refl _ _).alloc (Nat.le_refl _) _
      have hX2 : Recs spRec k2 (some ⟨k1.heap.size, 0, none⟩) 1 [X] := by rw [hk2]; exact lk_recs_one HX.out.1 HX.out.2.1
      refine hK.out _ _ (HeldM.of (Moved.of_below hbk2)) (fun _ => ?_)
      clear hK K
      try simp only [Act.put]
      try simp only [List.setIfInBounds_toArray]
      try simp only [List.set_cons_zero, List.set_cons_succ]
      refine heldM_grow (w1 := k2) (Moved.of_below hbk2) ?_
      clear hHeld
      have hHeld : HeldM (fun j => B ≤ j) k2 k2 := HeldM.refl _ _
      obtain ⟨g9, hg9⟩ : ∃ g, g = k1.heap.size := ⟨_, rfl⟩
      rw [← hg9] at hX2 ⊢
      clear hk2 hg9
      have hk02 := hk1.trans (hbk2.mono hk1.size)
      have ho2 := HO.out.below hk02
      have hBk2 : B ≤ k2.heap.size := Nat.le_trans HBr.out.1 hk02.size
      skip
      skip
      refine wpAnyH_ready (rs := [19]) (by kernel_rfl) (by simp) ?_
      refine AllReadyH.cons rfl (fun K hK => ?_) AllReadyH.nil
      refine step_append_recs (R := spRec) (by rfl) (.tmp 17) (.tmp 35) 35 rfl 28 Tryd.underlying35 info_spend rfl (by decide) B _ (LL.take i) (by first | rfl | simp [Act.eval]) ho2 (some ⟨g9, 0, none⟩) 1 1 [X] (by first | rfl | simp [Act.eval]) hX2 (fun e => by cases e) (by rw [HTK.out.2]; have := HN.out.2.2.1; omega) hBk2 ?_
      intro va k3 ho3 hg3 hl3
      obtain ⟨oa', oq', rfl, _⟩ := ho3.shape (K := i + 1) (by rw [List.length_append, HTK.out.2]; rfl)
      have hm3 : Moved (fun j => B ≤ j) k2 k3 := Moved.of_grown hg3 (fun j e => ho2.lt j e)
      refine hK.out _ _ (HeldM.of hm3) (fun _ => ?_)
      clear hK K
      try simp only [Act.put]
      try simp only [List.setIfInBounds_toArray]
      try simp only [List.set_cons_zero, List.set_cons_succ]
      refine take_at (v := ?_) 20 6 rfl rfl (by kernel_rfl) (by kernel_rfl) (by kernel_rfl) (fun _ _ _ h => h) (HeldM.of hm3) (Or.inl ⟨by rfl, ?_⟩) rfl ?_
      rotate_left
      · intro wq hSw
        go_simp
        try with_reducible rfl
      try simp only [List.set_cons_zero, List.set_cons_succ]
      refine wpAnyH_done (by kernel_rfl) ?_ _
      rw [← HTK.out.1] at ho3
      have hb4 : Below B w3 k3 := (HBr.out.2.trans (hk02.mono HBr.out.1)).trans (hm3.below (fun _ e => e) hBk2)
      go_wp2
      go_roundw
      case rel => exact ⟨i + 1, oa', oq', by omega, by go_num, rfl, ho3, hb4⟩
      case measure => (simp [intOf]; try omega)
    · have hii : ¬ (i : Int) < (n : Int) := by omega
      obtain rfl : i = n := by omega
      have htk : LL.take i = LL := List.take_of_length_le (by rw [HLN.out]; exact Nat.le_refl _)
      rw [htk] at ho
      clear htk
      have hXr := hX3.under hB3 hX3.lt
      have hRr := hR3.under hB3 hR3.lt
      have lg := hXr.loose 0
      go_upto_region 8 with fail
      clear c0 lg
      obtain ⟨w5, hw5⟩ : ∃ x, x = wr.setCell ⟨g1, 0, none⟩ (.slice oa i oq) := ⟨_, rfl⟩
      rw [← hw5]
      have hm5 : Moved (fun j => j = g1) wr w5 := by rw [hw5]; exact Moved.put (F := fun j => j = g1) (Moved.refl _ _) (.inl rfl) _ _
      have hX5 : Has w5 g1 38 #[.slice oa i oq, .slice b m r, .bool t.firm] := by rw [hw5]; exact hXr.put 0 (.slice oa i oq)
      have hR5 := hRr.moved hm5 (fun e => by have e2 : g1 + 1 = g1 := e; omega)
      have ho5 := ho.moved hm5 (fun j hj e => by have e2 : j = g1 := e; have := ho.lt j hj; have := HB.out; omega)
      have hT5 : Below w.heap.size w w5 := by
        rw [hw5]
        exact (hw13.trans (hB3.mono hw13.size)).setCell (p := ⟨g1, 0, none⟩) (by have := HB.out; show w.heap.size ≤ g1; omega) _
      have l5 := hX5.load_agg (P := Tryd.prog) (t := 38) Tryd.underlying38 rfl (by kernel_rfl)
      clear hw5
      go_wp2_with (first
        | (refine wpList_store_mid rfl 38 (.tmp 4) (.tmp 39) rfl (g1 + 1) 0 #[.slice oa i oq, .slice b m r, .bool t.firm] rfl rfl (hR5.there 0 3 (Nat.le_refl _)) (by kernel_rfl) (vRec.all_one ⟨oa, i, oq, b, m, r, ⟨[], [], t.firm⟩⟩) ?_)
        | (refine wpList_load_run rfl 38 (.tmp 2) rfl _ _ rfl l5 ?_))
      obtain ⟨w6, hw6⟩ : ∃ x, x = w5.setCells (g1 + 1) 0 [.slice oa i oq, .slice b m r, .bool t.firm] := ⟨_, rfl⟩
      rw [← hw6]
      have hR6 : Has w6 (g1 + 1) 38 #[.slice oa i oq, .slice b m r, .bool t.firm] := by rw [hw6]; exact hR5.whole_cs (cs2 := #[.slice oa i oq, .slice b m r, .bool t.firm]) rfl
      have hM6 : Moved (fun j => j = g1 + 1) w5 w6 := by rw [hw6]; exact Moved.putAll (F := fun j => j = g1 + 1) (.inl rfl) _ 0 (Moved.refl _ _)
      have ho6 := ho5.moved hM6 (fun j hj e => by have e2 : j = g1 + 1 := e; have := ho5.lt j hj; have := HB.out; omega)
      refine bodyPost_ret (results_one_cell rfl _ _ (g1 + 1) rfl _ (hR6.load_var Tryd.underlying38 rfl (by kernel_rfl))) rfl ⟨oa, oq, rfl, ?_, ?_⟩
      · rw [← HLL.out]
        exact ho6.low (by have := HB.out; omega)
      · rw [hw6]
        exact below_setAll (by have := HB.out; omega) _ 0 hT5
end Go.Proofs.YtcedecljbgailaaDoor
