/- the reference's put (mktxt.py) · the reference's Bytes, Base, Weight · package tx: Bytes, Base, Weight (mktxb.py) · package tx: Same, Copy; what the premise asks (mktxd.py) · TxReads: the law, its walk (mktxlr.py) -/
import Derived.Test.YtpbijcchdjppmaaTxK
import Derived.Test.YtpbijcchdjppmaaPkT
import Derived.Test.YtpbijcchdjppmaaHe
import Derived.Test.YtpbijcchdjppmaaSm
import Derived.Test.YtpbijcchdjppmaaTxA
import Derived.Test.YtpbijcchdjppmaaPkL
import Derived.Test.YtpbijcchdjppmaaTxN
import Derived.Test.YtpbijcchdjppmaaTxRd
/-! the reference's put (mktxt.py) -/
namespace Go.Proofs.Ytpbijcchdjppmaa
open Go Go.RowKit Go.ChangeShapes Go.WideShapes
theorem Tx.take_snoc {α : Type} {l : List α} {i : Nat} {x : α} (h : l[i]? = some x) : l.take (i + 1) = l.take i ++ [x] := by
  obtain ⟨h2, h3⟩ := List.getElem?_eq_some_iff.1 h
  rw [List.take_succ_eq_append_getElem h2, h3]
theorem bytes_lit (w : World) (y : BitVec 8) : Bytes8 (w.alloc (.cells #[.int .u8 (nb8 y)] 5)) (some ⟨w.heap.size, 0, none⟩) 1 [y] := by
  refine ⟨rfl, by unfold maxLen; omega, fun i hi => ⟨_, rfl, ?_⟩⟩
  obtain rfl : i = 0 := by omega
  exact (Has.fresh w _ _).cell_at rfl
end Go.Proofs.Ytpbijcchdjppmaa

/-! the reference's Bytes, Base, Weight -/
namespace Go.Proofs.Ytpbijcchdjppmaa
open Go Go.RowKit Go.ChangeShapes Go.WideShapes
theorem Tx.encSp_len (all : Bool) (s : Tx.Sp) (h : s.h.length = 32) (hk : s.key.length ≤ 5000) : (Tx.encSp all s).length ≤ 5060 := by
  unfold Tx.encSp
  cases all
  · simp [Pk.le_len, h]
  · have := Pk.count_le (s.key.length : Int)
    simp [Pk.le_len, h, Pk.text]
    omega
theorem Tx.flat_len {α : Type} (f : α → List (BitVec 8)) (k : Nat) : ∀ l : List α, (∀ x, x ∈ l → (f x).length ≤ k) → (l.flatMap f).length ≤ k * l.length
  | [], _ => by simp
  | x :: l, h => by
    have ih := Tx.flat_len f k l (fun y hy => h y (List.mem_cons_of_mem _ hy))
    have h1 := h x List.mem_cons_self
    rw [List.flatMap_cons, List.length_append, List.length_cons, Nat.mul_add, Nat.mul_one]
    omega
theorem Tx.enc_len (all : Bool) (t : Tx.T) (hs : Tx.Small t) (hh : ∀ s, s ∈ t.sp → s.h.length = 32) : (Tx.enc all t).length ≤ 200000 := by
  have h1 := Tx.flat_len (Tx.encSp all) 5060 t.sp (fun s hx => Tx.encSp_len all s (hh s hx) (hs.2.2 s hx))
  have h2 := Tx.flat_len Tx.encCo 16 t.co (fun c _ => by simp [Tx.encCo, Pk.le_len])
  have h3 := Pk.count_le (t.sp.length : Int)
  have h4 := Pk.count_le (t.co.length : Int)
  have h5 := hs.1
  have h6 := hs.2.1
  unfold Tx.enc
  simp only [List.length_append, List.length_cons, List.length_nil]
  have h7 : 5060 * t.sp.length ≤ 5060 * 30 := Nat.mul_le_mul_left _ h5
  have h8 : 16 * t.co.length ≤ 16 * 30 := Nat.mul_le_mul_left _ h6
  omega
end Go.Proofs.Ytpbijcchdjppmaa

/-! package tx: Bytes, Base, Weight (mktxb.py) -/
namespace Go.Proofs.Ytpbijcchdjppmaa
open Go Go.RowKit Go.ChangeShapes Go.WideShapes
theorem out_below {B N g : Nat} {v : Value} {l : List (BitVec 8)} {w0 w1 : World} (hS : OutS B w0 g v l) (hm : Moved (outF g v) w0 w1) (hg : N ≤ g) (hB : N ≤ B) (hN : N ≤ w0.heap.size) : Below N w0 w1 :=
  hm.below (fun k hk => hk.elim (fun e => e ▸ hg) (fun e => Nat.le_trans hB (hS.2.lt k e))) hN
theorem OutS.below {B g : Nat} {v : Value} {l : List (BitVec 8)} {w0 w1 : World} (h : OutS B w0 g v l) (hb : Below w0.heap.size w0 w1) : OutS B w1 g v l := ⟨h.1.under hb h.1.lt, h.2.below hb⟩
theorem OutS.not {B g k : Nat} {v : Value} {l : List (BitVec 8)} {w : World} {T : TypeId} {cs : Array Value} (h : OutS B w g v l) (hh : Has w k T cs) (ht : (5 == T) = false) (hk : k ≠ g) : ¬ outF g v k :=
  fun e => e.elim hk (fun e => h.2.apart hh ht k e rfl)
set_option maxRecDepth 100000 in
set_option maxHeartbeats 16000000 in
theorem bytes1_any (B g : Nat) (v : Value) (l : List (BitVec 8)) (s : Tx.Sp) (hok : Tx.SpOk s) (hk : s.key.length ≤ 5000) (hl : l.length ≤ 800000) (w : World) (h : OutS B w g v l) (hBB : B ≤ w.heap.size) :
    Calls Try.prog 48 #[.pointer (some ⟨g, 0, none⟩), .agg (spCells s).toArray] w (OutPost B g v (l ++ (Pk.text s.key ++ Pk.le s.sl 8)) w) := by
  obtain ⟨W1, hW1⟩ : ∃ x, x = w.alloc (.cells (spCells s).toArray 54) := ⟨_, rfl⟩
  have hBw : Below w.heap.size w W1 := by rw [hW1]; exact (Below.refl _ w).alloc (Nat.le_refl _) _
  have hX : Has W1 w.heap.size 54 (spCells s).toArray := by rw [hW1]; exact Has.fresh w _ _
  have HW := Lib.hid hW1
  clear hW1
  have c33 := hX.spKey hok.1
  have HS := Lib.hid (h.below hBw)
  have HXX := Lib.hid (And.intro hX (And.intro hok.1 (show ¬ outF g v w.heap.size from fun e => e.elim (fun e => by have := h.1.lt; omega) (fun e => by have := (h.2.lt_size _ e).2; omega))))
  have HL := Lib.hid (show l.length ≤ 800000 ∧ (l ++ Pk.text s.key).length ≤ 900000 by
    refine ⟨hl, ?_⟩
    have := Pk.count_le (s.key.length : Int)
    rw [List.length_append, Pk.text, List.length_append]
    omega)
  have HK := Lib.hid (show s.key.length ≤ 1000000 by omega)
  have hB1 : B ≤ W1.heap.size := Nat.le_trans hBB hBw.size
  have HM := Lib.hid (show Moved (outF g v) w W1 from Moved.of_below hBw)
  clear h hX hl hk hok
  go_enter Try.func48, Try.ntmps48
  go_upto_region 1 with fail
  rw [← HW.out]
  go_upto_region 2 with (go_at_call 49; refine (outText_any B g v l s.key (by have := HL.out.1; omega) HK.out W1 HS.out hB1).mono ?_; rintro e w2 ⟨⟨u2, rfl⟩, v2, ho2, hm2, hl2⟩)
  have c34 := (HXX.out.1.moved hm2 HXX.out.2.2).spSeal HXX.out.2.1
  clear c33
  go_wp2_with (go_at_call 50; refine (outNum_any B g v2 (l ++ Pk.text s.key) s.sl 8 (by have := HL.out.2; omega) w2 ho2 (by have := hm2.size; omega)).mono ?_; rintro e w3 ⟨⟨u3, rfl⟩, v3, ho3, hm3, hl3⟩)
  refine bodyPost_ret (results_none rfl _ _ _) rfl ?_
  have h4 : OutS B w3 g v3 (l ++ (Pk.text s.key ++ Pk.le s.sl 8)) := by rw [← List.append_assoc]; exact ho3
  exact OutPost.then HM.out (Lies.refl _ _) (OutPost.then hm2 hl2 ⟨⟨_, rfl⟩, v3, h4, hm3, hl3⟩)
set_option maxRecDepth 100000 in
set_option maxHeartbeats 16000000 in
theorem base1_any (B g : Nat) (v : Value) (l : List (BitVec 8)) (s : Tx.Sp) (w : World) (h : OutS B w g v l) :
    Calls Try.prog 53 #[.pointer (some ⟨g, 0, none⟩), .agg (spCells s).toArray] w (OutPost B g v (l ++ []) w) := by
  obtain ⟨W1, hW1⟩ : ∃ x, x = w.alloc (.cells (spCells s).toArray 54) := ⟨_, rfl⟩
  have hBw : Below w.heap.size w W1 := by rw [hW1]; exact (Below.refl _ w).alloc (Nat.le_refl _) _
  have hX : Has W1 w.heap.size 54 (spCells s).toArray := by rw [hW1]; exact Has.fresh w _ _
  have HW := Lib.hid hW1
  clear hW1
  have HS := Lib.hid (h.below hBw)
  clear h hX
  go_enter Try.func53, Try.ntmps53
  go_wp2
  rw [← HW.out]
  refine bodyPost_ret (results_none rfl _ _ _) rfl ?_
  rw [List.append_nil]
  exact ⟨⟨_, rfl⟩, v, HS.out, Moved.of_below hBw, Lies.refl _ _⟩
set_option maxRecDepth 100000 in
set_option maxHeartbeats 16000000 in
theorem enc_true (a : Option Addr) (n q : Nat) (b : Option Addr) (m r : Nat) (t : Tx.T) (f : Bool) (hf : f = t.firm) (w : World) (ht : TxAt w a n q b m r t) (hs : Tx.Small t) :
    Calls Try.prog 47 #[txv a n q b m r f, .func (.func 48) #[] #[]] w (BytesPost8 5 w.heap.size (Tx.enc true t) w) := by
  obtain ⟨W1, hW1⟩ : ∃ x, x = w.alloc (.cells #[.slice a n q, .slice b m r, .bool f] 25) := ⟨_, rfl⟩
  have hBw : Below w.heap.size w W1 := by rw [hW1]; exact (Below.refl _ w).alloc (Nat.le_refl _) _
  have hX : Has W1 w.heap.size 25 #[.slice a n q, .slice b m r, .bool f] := by rw [hW1]; exact Has.fresh w _ _
  have HW := Lib.hid hW1
  clear hW1
  have HT := Lib.hid (ht.below hBw)
  have HF := Lib.hid hf
  have HSM := Lib.hid hs
  have hn30 : n ≤ 30 := by have e : t.sp.length = n := ht.sp.1; rw [← e]; exact hs.1
  have hm30 : m ≤ 30 := by have e : t.co.length = m := ht.co.1; rw [← e]; exact hs.2.1
  clear hf ht hs
  go_enter Try.func47, Try.ntmps47
  go_upto_region 1 with fail
  rw [← HW.out]
  obtain ⟨g1, hg1⟩ : ∃ g, g = w.heap.size := ⟨_, rfl⟩
  rw [← hg1] at hX ⊢
  have HG := Lib.hid hg1
  clear hg1
  go_upto_region 2 with fail
  obtain ⟨W2, hW2⟩ : ∃ x, x = W1.alloc (.cells #[.slice none 0 0] 108) := ⟨_, rfl⟩
  rw [← hW2]
  obtain ⟨g, hg⟩ : ∃ g, g = W1.heap.size := ⟨_, rfl⟩
  rw [← hg]
  have hb : Below W1.heap.size W1 W2 := by rw [hW2]; exact (Below.refl _ _).alloc (Nat.le_refl _) _
  have ho : OutS W2.heap.size W2 g (.slice none 0 0) [] := ⟨by rw [hg, hW2]; exact Has.fresh _ _ _, OwnB.nil _ _ _⟩
  have hNg : W1.heap.size ≤ g := by omega
  have hNB : W1.heap.size ≤ W2.heap.size := hb.size
  have hgB : g < W2.heap.size := ho.1.lt
  have hBr : W2.heap.size ≤ W2.heap.size := Nat.le_refl _
  clear hW2 hg
  have c10 : W2.cell? ⟨g1, 0, none⟩ = some (.slice a n q) := (hX.under hb hX.lt).cell_at rfl
  go_upto_region 3 with (go_at_call 68; refine (outCount_any W2.heap.size g (.slice none 0 0) [] n (by simp) W2 ho hBr).mono ?_; rintro e w2 ⟨⟨u_, rfl⟩, v2, ho2, hm2, hl2⟩)
  have hb2 := hb.trans (out_below ho hm2 hNg hNB hb.size)
  have hBs : W2.heap.size ≤ w2.heap.size := hm2.size
  rw [List.nil_append] at ho2
  clear c10 ho hb hm2 hl2 hBr
  have c10 : w2.cell? ⟨g1, 0, none⟩ = some (.slice a n q) := (hX.under hb2 hX.lt).cell_at rfl
  have hcl := Pk.count_le (n : Int)
  go_wp2
  clear c10
  go_loopw [18] (fun iv wr => ∃ (i : Nat) (v : Value), i ≤ n ∧ iv = .int .i64 i ∧ OutS W2.heap.size wr g v (Pk.count n ++ (t.sp.take i).flatMap (Tx.encSp true)) ∧ RowKit.Hid ((Pk.count n ++ (t.sp.take i).flatMap (Tx.encSp true)).length ≤ 9 + 5100 * i) ∧ Below W1.heap.size W1 wr ∧ W2.heap.size ≤ wr.heap.size) (fun iv _ => n - (intOf iv).toNat)
  case atStart => exact ⟨0, v2, Nat.zero_le _, rfl, by simpa using ho2, Lib.hid (by simpa using hcl), hb2, hBs⟩
  case round =>
    clear ho2 hb2 hcl hBs
    obtain ⟨i, v, hi, rfl, ho, HLN, hb, hBr⟩ := hrel
    have c11 : wr.cell? ⟨g1, 1, none⟩ = some (.slice b m r) := (hX.under hb hX.lt).cell_at rfl
    by_cases hlt : i < n
    · have hii : (i : Int) < (n : Int) := by omega
      have hi0 : (0 : Int) ≤ (i : Int) := by omega
      obtain ⟨s, hs⟩ := HT.out.sp.get hlt
      obtain ⟨x, hax, _⟩ := HT.out.sp.2.2.2 i s hs
      subst hax
      have hok := HT.out.sp.okay hs
      have hy := spends_at (HT.out.sp.below hb) hs
      have HOK := Lib.hid hok
      have HS := Lib.hid hs
      have HK5 := Lib.hid (HSM.out.2.2 s (List.mem_of_getElem? hs))
      clear hok hs c11
      go_upto_region 6 with (first
        | (refine wpList_store_mid rfl 54 (.tmp 7) (.tmp 21) rfl wr.heap.size 0 (spCells s).toArray rfl rfl (spRec.there _ _ rfl HOK.out) (spRec.size_eq size_spend HOK.out) (spRec.all_one s) ?_)
        | (refine wpList_load_run rfl 54 (.tmp 20) rfl _ _ rfl hy ?_))
      obtain ⟨w5, hw5⟩ : ∃ x, x = (wr.alloc (.cells zSp 54)).setCells wr.heap.size 0 (spCells s) := ⟨_, rfl⟩
      obtain ⟨hG, hb5⟩ := Rec.new (R := spRec) rfl HOK.out hw5
      rw [← hw5]
      clear hw5 hy
      obtain ⟨g7, hg7⟩ : ∃ g, g = wr.heap.size := ⟨_, rfl⟩
      have hgg : g7 ≠ g := by omega
      rw [← hg7] at hG ⊢
      clear hg7
      replace ho := ho.below hb5
      replace hb := hb.trans (hb5.mono hb.size)
      replace hBr := Nat.le_trans hBr hb5.size
      clear hb5
      obtain ⟨l0, hl0⟩ : ∃ l, l = Pk.count n ++ (t.sp.take i).flatMap (Tx.encSp true) := ⟨_, rfl⟩
      rw [← hl0] at ho HLN
      have HL0 := Lib.hid hl0
      clear hl0
      have hLb : l0.length ≤ 160000 := by have := HLN.out; omega
      have HLb := Lib.hid hLb
      clear hLb
      have lH := Has.spHash hG HOK.out.1
      go_upto_region 7 with (first
        | (go_at_call 69; refine (outHash_any W2.heap.size g v l0 s.h (by have := HLb.out; omega) HOK.out.1 _ ho hBr).mono ?_; rintro e w6 ⟨⟨u_, rfl⟩, v6, hon, hmn, hln⟩)
        | (refine wpList_load_run rfl 49 (.tmp 23) rfl _ _ rfl lH ?_))
      replace hG := hG.moved hmn (ho.not hG (by decide) hgg)
      have hbn := hb.trans (out_below ho hmn hNg hNB hb.size)
      replace hb := hbn
      replace ho := hon
      replace hBr := Nat.le_trans hBr hmn.size
      clear hbn hon hmn hln
      clear lH
      have c32 := Has.spN hG HOK.out.1
      have hw32 := int_to_u64 s.n
      go_upto_region 8 with (first
        | (go_at_call 50; refine (outNum_any W2.heap.size g v6 (l0 ++ s.h) (BitVec.ofInt 64 s.n) 4 (by have := HLb.out; have := HOK.out.1; rw [List.length_append]; omega) _ ho hBr).mono ?_; rintro e w7 ⟨⟨u_, rfl⟩, v7, hon, hmn, hln⟩))
      replace hG := hG.moved hmn (ho.not hG (by decide) hgg)
      have hbn := hb.trans (out_below ho hmn hNg hNB hb.size)
      replace hb := hbn
      replace ho := hon
      replace hBr := Nat.le_trans hBr hmn.size
      clear hbn hon hmn hln
      clear c32 hw32
      have lG := hG.load_agg (P := Try.prog) (t := 54) Try.underlying54 rfl (spRec.size_eq size_spend HOK.out)
      have HL7 := Lib.hid (show (l0 ++ s.h ++ Pk.num (BitVec.ofInt 64 s.n) 4).length ≤ 170000 by have := HLb.out; have := HOK.out.1; simp only [List.length_append, show (Pk.num (BitVec.ofInt 64 s.n) 4).length = 4 from rfl]; omega)
      go_upto_region 9 with (first
        | (go_at_call 48; refine (bytes1_any W2.heap.size g v7 (l0 ++ s.h ++ Pk.num (BitVec.ofInt 64 s.n) 4) s HOK.out HK5.out (by have := HL7.out; omega) _ ho hBr).mono ?_; rintro e w8 ⟨⟨u_, rfl⟩, v8, hon, hmn, hln⟩)
        | (refine wpList_load_run rfl 54 (.tmp 7) rfl _ _ rfl lG ?_))
      have hbn := hb.trans (out_below ho hmn hNg hNB hb.size)
      replace hb := hbn
      replace ho := hon
      replace hBr := Nat.le_trans hBr hmn.size
      clear hbn hon hmn hln
      clear lG hG
      have hE : Pk.count n ++ (t.sp.take (i + 1)).flatMap (Tx.encSp true) = l0 ++ s.h ++ Pk.num (BitVec.ofInt 64 s.n) 4 ++ (Pk.text s.key ++ Pk.le s.sl 8) := by
        rw [Tx.take_snoc HS.out, List.flatMap_append, ← List.append_assoc, ← HL0.out, List.flatMap_singleton]
        simp [Tx.encSp, Pk.num, Pk.okSize]
      have HLN2 := Lib.hid (show (Pk.count n ++ (t.sp.take (i + 1)).flatMap (Tx.encSp true)).length ≤ 9 + 5100 * (i + 1) by
        rw [Tx.take_snoc HS.out, List.flatMap_append, ← List.append_assoc, ← HL0.out, List.flatMap_singleton, List.length_append]
        have e1 := HLN.out
        have e2 := Tx.encSp_len true s HOK.out.1 HK5.out
        omega)
      rw [← hE] at ho
      clear hE HLN
      go_wp2
      go_roundw
      case rel => exact ⟨i + 1, v8, by omega, by go_num, ho, HLN2, hb, hBr⟩
      case measure => (simp [intOf]; try omega)
    · have hii : ¬ (i : Int) < (n : Int) := by omega
      have hin : i = n := by omega
      have htk : t.sp.take i = t.sp := List.take_of_length_le (by have e : t.sp.length = n := HT.out.sp.1; omega)
      rw [htk] at ho HLN
      clear htk hin
      obtain ⟨l0, hl0⟩ : ∃ l, l = Pk.count n ++ t.sp.flatMap (Tx.encSp true) := ⟨_, rfl⟩
      rw [← hl0] at ho HLN
      have HL0 := Lib.hid hl0
      clear hl0
      go_upto_region 11 with (first
        | (go_at_call 68; refine (outCount_any W2.heap.size g v l0 m (by have := HLN.out; omega) _ ho hBr).mono ?_; rintro e w3 ⟨⟨u_, rfl⟩, v3, hon, hmn, hln⟩))
      have hbn := hb.trans (out_below ho hmn hNg hNB hb.size)
      replace hb := hbn
      replace ho := hon
      replace hBr := Nat.le_trans hBr hmn.size
      clear hbn hon hmn hln
      clear c11
      have HLC := Lib.hid (show (l0 ++ Pk.count m).length ≤ 160000 by rw [List.length_append]; have := HLN.out; have := Pk.count_le (m : Int); omega)
      obtain ⟨l1, hl1⟩ : ∃ l, l = l0 ++ Pk.count m := ⟨_, rfl⟩
      rw [← hl1] at ho HLC
      have HL1 := Lib.hid hl1
      clear hl1 HLN
      have c11 : w3.cell? ⟨g1, 1, none⟩ = some (.slice b m r) := (hX.under hb hX.lt).cell_at rfl
      go_wp2
      clear c11
      go_loopw [42] (fun iv wr => ∃ (j : Nat) (v : Value), j ≤ m ∧ iv = .int .i64 j ∧ OutS W2.heap.size wr g v (l1 ++ (t.co.take j).flatMap Tx.encCo) ∧ RowKit.Hid ((l1 ++ (t.co.take j).flatMap Tx.encCo).length ≤ 160000 + 16 * j) ∧ Below W1.heap.size W1 wr ∧ W2.heap.size ≤ wr.heap.size) (fun iv _ => m - (intOf iv).toNat)
      case atStart => exact ⟨0, v3, Nat.zero_le _, rfl, by simpa using ho, Lib.hid (by simpa using HLC.out), hb, hBr⟩
      case round =>
        clear ho hb hBr
        obtain ⟨j, v, hj, rfl, ho, HLN, hb, hBr⟩ := hrel
        by_cases hlj : j < m
        · have hji : (j : Int) < (m : Int) := by omega
          have hj0 : (0 : Int) ≤ (j : Int) := by omega
          obtain ⟨c, hc⟩ := HT.out.co.get hlj
          obtain ⟨x, hax, _⟩ := HT.out.co.2.2.2 j c hc
          subst hax
          have hy := coins_at (HT.out.co.below hb) hc
          have HOK := Lib.hid (HT.out.co.okay hc)
          have HC := Lib.hid hc
          clear hc
          go_upto_region 14 with (first
            | (refine wpList_store_mid rfl 56 (.tmp 9) (.tmp 45) rfl wr.heap.size 0 (coCells c).toArray rfl rfl (coRec.there _ _ rfl HOK.out) (coRec.size_eq size_coin HOK.out) (coRec.all_one c) ?_)
            | (refine wpList_load_run rfl 56 (.tmp 44) rfl _ _ rfl hy ?_))
          obtain ⟨w5, hw5⟩ : ∃ x, x = (wr.alloc (.cells zCo 56)).setCells wr.heap.size 0 (coCells c) := ⟨_, rfl⟩
          obtain ⟨hG, hb5⟩ := Rec.new (R := coRec) rfl HOK.out hw5
          rw [← hw5]
          clear hw5 hy
          obtain ⟨g7, hg7⟩ : ∃ g, g = wr.heap.size := ⟨_, rfl⟩
          have hgg : g7 ≠ g := by omega
          rw [← hg7] at hG ⊢
          clear hg7
          replace ho := ho.below hb5
          replace hb := hb.trans (hb5.mono hb.size)
          replace hBr := Nat.le_trans hBr hb5.size
          clear hb5
          obtain ⟨l2, hl2⟩ : ∃ l, l = l1 ++ (t.co.take j).flatMap Tx.encCo := ⟨_, rfl⟩
          rw [← hl2] at ho HLN
          have HL2 := Lib.hid hl2
          clear hl2
          have d0 : w5.cell? ⟨g7, 0, none⟩ = some (.int .i64 c.v) := hG.cell_at rfl
          have hwv := int_to_u64 c.v
          go_upto_region 15 with (first
            | (go_at_call 50; refine (outNum_any W2.heap.size g v l2 (BitVec.ofInt 64 c.v) 8 (by have := HLN.out; omega) _ ho hBr).mono ?_; rintro e w6 ⟨⟨u_, rfl⟩, v6, hon, hmn, hln⟩))
          replace hG := hG.moved hmn (ho.not hG (by decide) hgg)
          have hbn := hb.trans (out_below ho hmn hNg hNB hb.size)
          replace hb := hbn
          replace ho := hon
          replace hBr := Nat.le_trans hBr hmn.size
          clear hbn hon hmn hln
          clear d0 hwv
          have d1 : w6.cell? ⟨g7, 1, none⟩ = some (.int .u64 (nb64 c.lock)) := hG.cell_at rfl
          go_upto_region 16 with (first
            | (go_at_call 50; refine (outNum_any W2.heap.size g v6 (l2 ++ Pk.num (BitVec.ofInt 64 c.v) 8) c.lock 8 (by have := HLN.out; rw [List.length_append, show (Pk.num (BitVec.ofInt 64 c.v) 8).length = 8 from rfl]; omega) _ ho hBr).mono ?_; rintro e w7 ⟨⟨u_, rfl⟩, v7, hon, hmn, hln⟩))
          have hbn := hb.trans (out_below ho hmn hNg hNB hb.size)
          replace hb := hbn
          replace ho := hon
          replace hBr := Nat.le_trans hBr hmn.size
          clear hbn hon hmn hln
          clear d1 hG
          have hE : l1 ++ (t.co.take (j + 1)).flatMap Tx.encCo = l2 ++ Pk.num (BitVec.ofInt 64 c.v) 8 ++ Pk.num c.lock 8 := by
            rw [Tx.take_snoc HC.out, List.flatMap_append, ← List.append_assoc, ← HL2.out, List.flatMap_singleton]
            simp [Tx.encCo, Pk.num, Pk.okSize]
          have HLN2 := Lib.hid (show (l1 ++ (t.co.take (j + 1)).flatMap Tx.encCo).length ≤ 160000 + 16 * (j + 1) by
            rw [hE]
            have e1 := HLN.out
            simp only [List.length_append, show (Pk.num (BitVec.ofInt 64 c.v) 8).length = 8 from rfl, show (Pk.num c.lock 8).length = 8 from rfl]
            omega)
          rw [← hE] at ho
          clear hE HLN
          go_wp2
          go_roundw
          case rel => exact ⟨j + 1, v7, by omega, by go_num, ho, HLN2, hb, hBr⟩
          case measure => (simp [intOf]; try omega)
        · have hji : ¬ (j : Int) < (m : Int) := by omega
          have htk : t.co.take j = t.co := List.take_of_length_le (by have e : t.co.length = m := HT.out.co.1; omega)
          rw [htk] at ho HLN
          clear htk
          have c12 : wr.cell? ⟨g1, 2, none⟩ = some (.bool f) := (hX.under hb hX.lt).cell_at rfl
          obtain ⟨l3, hl3⟩ : ∃ l, l = l1 ++ t.co.flatMap Tx.encCo := ⟨_, rfl⟩
          rw [← hl3] at ho HLN
          have hL : ∀ y, l3 ++ [y] = Pk.count t.sp.length ++ t.sp.flatMap (Tx.encSp true) ++ Pk.count t.co.length ++ t.co.flatMap Tx.encCo ++ [y] := fun y => by
            rw [hl3, HL1.out, HL0.out, show t.sp.length = n from HT.out.sp.1, show t.co.length = m from HT.out.co.1]
          have HL := Lib.hid hL
          clear hl3 hL
          have hlo : w.heap.size ≤ W1.heap.size := hBw.size
          cases f
          · have HE := Lib.hid (show l3 ++ [0#8] = Tx.enc true t by rw [HL.out, Tx.enc, ← HF.out]; rfl)
            go_wp2_with (first
              | (go_at_call 70; refine (outBytes_any W2.heap.size g v4 (l3 ++ [0#8]) (by rw [List.length_append]; have := HLN.out; show _ + 1 ≤ _; omega) w4 ho4).mono ?_; rintro e w5 ⟨v5, rfl, ho5, hb5⟩)
              | (go_at_call 50; refine (show Calls Try.prog 50 #[.pointer (some ⟨g, 0, none⟩), .int .u64 0, .int .i64 1] wr (OutPost W2.heap.size g v (l3 ++ [0#8]) wr) from outNum_any W2.heap.size g v l3 0#64 1 (by have := HLN.out; omega) wr ho hBr).mono ?_; rintro e w4 ⟨⟨u_, rfl⟩, v4, ho4, hm4, hl4⟩; have hb4 := hb.trans (out_below ho hm4 hNg hNB hb.size)))
            rw [HE.out] at ho5
            go_ret
            exact ⟨v5, rfl, ho5.low (Nat.le_trans hlo hb4.size), hBw.trans ((hb4.trans (hb5.mono hb4.size)).mono hBw.size)⟩
          · have HE := Lib.hid (show l3 ++ [1#8] = Tx.enc true t by rw [HL.out, Tx.enc, ← HF.out]; rfl)
            go_wp2_with (first
              | (go_at_call 70; refine (outBytes_any W2.heap.size g v4 (l3 ++ [1#8]) (by rw [List.length_append]; have := HLN.out; show _ + 1 ≤ _; omega) w4 ho4).mono ?_; rintro e w5 ⟨v5, rfl, ho5, hb5⟩)
              | (go_at_call 50; refine (show Calls Try.prog 50 #[.pointer (some ⟨g, 0, none⟩), .int .u64 1, .int .i64 1] wr (OutPost W2.heap.size g v (l3 ++ [1#8]) wr) from outNum_any W2.heap.size g v l3 1#64 1 (by have := HLN.out; omega) wr ho hBr).mono ?_; rintro e w4 ⟨⟨u_, rfl⟩, v4, ho4, hm4, hl4⟩; have hb4 := hb.trans (out_below ho hm4 hNg hNB hb.size)))
            rw [HE.out] at ho5
            go_ret
            exact ⟨v5, rfl, ho5.low (Nat.le_trans hlo hb4.size), hBw.trans ((hb4.trans (hb5.mono hb4.size)).mono hBw.size)⟩
set_option maxRecDepth 100000 in
set_option maxHeartbeats 16000000 in
theorem enc_false (a : Option Addr) (n q : Nat) (b : Option Addr) (m r : Nat) (t : Tx.T) (f : Bool) (hf : f = t.firm) (w : World) (ht : TxAt w a n q b m r t) (hs : Tx.Small t) :
    Calls Try.prog 47 #[txv a n q b m r f, .func (.func 53) #[] #[]] w (BytesPost8 5 w.heap.size (Tx.enc false t) w) := by
  obtain ⟨W1, hW1⟩ : ∃ x, x = w.alloc (.cells #[.slice a n q, .slice b m r, .bool f] 25) := ⟨_, rfl⟩
  have hBw : Below w.heap.size w W1 := by rw [hW1]; exact (Below.refl _ w).alloc (Nat.le_refl _) _
  have hX : Has W1 w.heap.size 25 #[.slice a n q, .slice b m r, .bool f] := by rw [hW1]; exact Has.fresh w _ _
  have HW := Lib.hid hW1
  clear hW1
  have HT := Lib.hid (ht.below hBw)
  have HF := Lib.hid hf
  have HSM := Lib.hid hs
  have hn30 : n ≤ 30 := by have e : t.sp.length = n := ht.sp.1; rw [← e]; exact hs.1
  have hm30 : m ≤ 30 := by have e : t.co.length = m := ht.co.1; rw [← e]; exact hs.2.1
  clear hf ht hs
  go_enter Try.func47, Try.ntmps47
  go_upto_region 1 with fail
  rw [← HW.out]
  obtain ⟨g1, hg1⟩ : ∃ g, g = w.heap.size := ⟨_, rfl⟩
  rw [← hg1] at hX ⊢
  have HG := Lib.hid hg1
  clear hg1
  go_upto_region 2 with fail
  obtain ⟨W2, hW2⟩ : ∃ x, x = W1.alloc (.cells #[.slice none 0 0] 108) := ⟨_, rfl⟩
  rw [← hW2]
  obtain ⟨g, hg⟩ : ∃ g, g = W1.heap.size := ⟨_, rfl⟩
  rw [← hg]
  have hb : Below W1.heap.size W1 W2 := by rw [hW2]; exact (Below.refl _ _).alloc (Nat.le_refl _) _
  have ho : OutS W2.heap.size W2 g (.slice none 0 0) [] := ⟨by rw [hg, hW2]; exact Has.fresh _ _ _, OwnB.nil _ _ _⟩
  have hNg : W1.heap.size ≤ g := by omega
  have hNB : W1.heap.size ≤ W2.heap.size := hb.size
  have hgB : g < W2.heap.size := ho.1.lt
  have hBr : W2.heap.size ≤ W2.heap.size := Nat.le_refl _
  clear hW2 hg
  have c10 : W2.cell? ⟨g1, 0, none⟩ = some (.slice a n q) := (hX.under hb hX.lt).cell_at rfl
  go_upto_region 3 with (go_at_call 68; refine (outCount_any W2.heap.size g (.slice none 0 0) [] n (by simp) W2 ho hBr).mono ?_; rintro e w2 ⟨⟨u_, rfl⟩, v2, ho2, hm2, hl2⟩)
  have hb2 := hb.trans (out_below ho hm2 hNg hNB hb.size)
  have hBs : W2.heap.size ≤ w2.heap.size := hm2.size
  rw [List.nil_append] at ho2
  clear c10 ho hb hm2 hl2 hBr
  have c10 : w2.cell? ⟨g1, 0, none⟩ = some (.slice a n q) := (hX.under hb2 hX.lt).cell_at rfl
  have hcl := Pk.count_le (n : Int)
  go_wp2
  clear c10
  go_loopw [18] (fun iv wr => ∃ (i : Nat) (v : Value), i ≤ n ∧ iv = .int .i64 i ∧ OutS W2.heap.size wr g v (Pk.count n ++ (t.sp.take i).flatMap (Tx.encSp false)) ∧ RowKit.Hid ((Pk.count n ++ (t.sp.take i).flatMap (Tx.encSp false)).length ≤ 9 + 5100 * i) ∧ Below W1.heap.size W1 wr ∧ W2.heap.size ≤ wr.heap.size) (fun iv _ => n - (intOf iv).toNat)
  case atStart => exact ⟨0, v2, Nat.zero_le _, rfl, by simpa using ho2, Lib.hid (by simpa using hcl), hb2, hBs⟩
  case round =>
    clear ho2 hb2 hcl hBs
    obtain ⟨i, v, hi, rfl, ho, HLN, hb, hBr⟩ := hrel
    have c11 : wr.cell? ⟨g1, 1, none⟩ = some (.slice b m r) := (hX.under hb hX.lt).cell_at rfl
    by_cases hlt : i < n
    · have hii : (i : Int) < (n : Int) := by omega
      have hi0 : (0 : Int) ≤ (i : Int) := by omega
      obtain ⟨s, hs⟩ := HT.out.sp.get hlt
      obtain ⟨x, hax, _⟩ := HT.out.sp.2.2.2 i s hs
      subst hax
      have hok := HT.out.sp.okay hs
      have hy := spends_at (HT.out.sp.below hb) hs
      have HOK := Lib.hid hok
      have HS := Lib.hid hs
      have HK5 := Lib.hid (HSM.out.2.2 s (List.mem_of_getElem? hs))
      clear hok hs c11
      go_upto_region 6 with (first
        | (refine wpList_store_mid rfl 54 (.tmp 7) (.tmp 21) rfl wr.heap.size 0 (spCells s).toArray rfl rfl (spRec.there _ _ rfl HOK.out) (spRec.size_eq size_spend HOK.out) (spRec.all_one s) ?_)
        | (refine wpList_load_run rfl 54 (.tmp 20) rfl _ _ rfl hy ?_))
      obtain ⟨w5, hw5⟩ : ∃ x, x = (wr.alloc (.cells zSp 54)).setCells wr.heap.size 0 (spCells s) := ⟨_, rfl⟩
      obtain ⟨hG, hb5⟩ := Rec.new (R := spRec) rfl HOK.out hw5
      rw [← hw5]
      clear hw5 hy
      obtain ⟨g7, hg7⟩ : ∃ g, g = wr.heap.size := ⟨_, rfl⟩
      have hgg : g7 ≠ g := by omega
      rw [← hg7] at hG ⊢
      clear hg7
      replace ho := ho.below hb5
      replace hb := hb.trans (hb5.mono hb.size)
      replace hBr := Nat.le_trans hBr hb5.size
      clear hb5
      obtain ⟨l0, hl0⟩ : ∃ l, l = Pk.count n ++ (t.sp.take i).flatMap (Tx.encSp false) := ⟨_, rfl⟩
      rw [← hl0] at ho HLN
      have HL0 := Lib.hid hl0
      clear hl0
      have hLb : l0.length ≤ 160000 := by have := HLN.out; omega
      have HLb := Lib.hid hLb
      clear hLb
      have lH := Has.spHash hG HOK.out.1
      go_upto_region 7 with (first
        | (go_at_call 69; refine (outHash_any W2.heap.size g v l0 s.h (by have := HLb.out; omega) HOK.out.1 _ ho hBr).mono ?_; rintro e w6 ⟨⟨u_, rfl⟩, v6, hon, hmn, hln⟩)
        | (refine wpList_load_run rfl 49 (.tmp 23) rfl _ _ rfl lH ?_))
      replace hG := hG.moved hmn (ho.not hG (by decide) hgg)
      have hbn := hb.trans (out_below ho hmn hNg hNB hb.size)
      replace hb := hbn
      replace ho := hon
      replace hBr := Nat.le_trans hBr hmn.size
      clear hbn hon hmn hln
      clear lH
      have c32 := Has.spN hG HOK.out.1
      have hw32 := int_to_u64 s.n
      go_upto_region 8 with (first
        | (go_at_call 50; refine (outNum_any W2.heap.size g v6 (l0 ++ s.h) (BitVec.ofInt 64 s.n) 4 (by have := HLb.out; have := HOK.out.1; rw [List.length_append]; omega) _ ho hBr).mono ?_; rintro e w7 ⟨⟨u_, rfl⟩, v7, hon, hmn, hln⟩))
      replace hG := hG.moved hmn (ho.not hG (by decide) hgg)
      have hbn := hb.trans (out_below ho hmn hNg hNB hb.size)
      replace hb := hbn
      replace ho := hon
      replace hBr := Nat.le_trans hBr hmn.size
      clear hbn hon hmn hln
      clear c32 hw32
      have lG := hG.load_agg (P := Try.prog) (t := 54) Try.underlying54 rfl (spRec.size_eq size_spend HOK.out)
      have HL7 := Lib.hid (show (l0 ++ s.h ++ Pk.num (BitVec.ofInt 64 s.n) 4).length ≤ 170000 by have := HLb.out; have := HOK.out.1; simp only [List.length_append, show (Pk.num (BitVec.ofInt 64 s.n) 4).length = 4 from rfl]; omega)
      go_upto_region 9 with (first
        | (go_at_call 53; refine (base1_any W2.heap.size g v7 (l0 ++ s.h ++ Pk.num (BitVec.ofInt 64 s.n) 4) s _ ho).mono ?_; rintro e w8 ⟨⟨u_, rfl⟩, v8, hon, hmn, hln⟩)
        | (refine wpList_load_run rfl 54 (.tmp 7) rfl _ _ rfl lG ?_))
      have hbn := hb.trans (out_below ho hmn hNg hNB hb.size)
      replace hb := hbn
      replace ho := hon
      replace hBr := Nat.le_trans hBr hmn.size
      clear hbn hon hmn hln
      clear lG hG
      have hE : Pk.count n ++ (t.sp.take (i + 1)).flatMap (Tx.encSp false) = l0 ++ s.h ++ Pk.num (BitVec.ofInt 64 s.n) 4 ++ ([]) := by
        rw [Tx.take_snoc HS.out, List.flatMap_append, ← List.append_assoc, ← HL0.out, List.flatMap_singleton]
        simp [Tx.encSp, Pk.num, Pk.okSize]
      have HLN2 := Lib.hid (show (Pk.count n ++ (t.sp.take (i + 1)).flatMap (Tx.encSp false)).length ≤ 9 + 5100 * (i + 1) by
        rw [Tx.take_snoc HS.out, List.flatMap_append, ← List.append_assoc, ← HL0.out, List.flatMap_singleton, List.length_append]
        have e1 := HLN.out
        have e2 := Tx.encSp_len false s HOK.out.1 HK5.out
        omega)
      rw [← hE] at ho
      clear hE HLN
      go_wp2
      go_roundw
      case rel => exact ⟨i + 1, v8, by omega, by go_num, ho, HLN2, hb, hBr⟩
      case measure => (simp [intOf]; try omega)
    · have hii : ¬ (i : Int) < (n : Int) := by omega
      have hin : i = n := by omega
      have htk : t.sp.take i = t.sp := List.take_of_length_le (by have e : t.sp.length = n := HT.out.sp.1; omega)
      rw [htk] at ho HLN
      clear htk hin
      obtain ⟨l0, hl0⟩ : ∃ l, l = Pk.count n ++ t.sp.flatMap (Tx.encSp false) := ⟨_, rfl⟩
      rw [← hl0] at ho HLN
      have HL0 := Lib.hid hl0
      clear hl0
      go_upto_region 11 with (first
        | (go_at_call 68; refine (outCount_any W2.heap.size g v l0 m (by have := HLN.out; omega) _ ho hBr).mono ?_; rintro e w3 ⟨⟨u_, rfl⟩, v3, hon, hmn, hln⟩))
      have hbn := hb.trans (out_below ho hmn hNg hNB hb.size)
      replace hb := hbn
      replace ho := hon
      replace hBr := Nat.le_trans hBr hmn.size
      clear hbn hon hmn hln
      clear c11
      have HLC := Lib.hid (show (l0 ++ Pk.count m).length ≤ 160000 by rw [List.length_append]; have := HLN.out; have := Pk.count_le (m : Int); omega)
      obtain ⟨l1, hl1⟩ : ∃ l, l = l0 ++ Pk.count m := ⟨_, rfl⟩
      rw [← hl1] at ho HLC
      have HL1 := Lib.hid hl1
      clear hl1 HLN
      have c11 : w3.cell? ⟨g1, 1, none⟩ = some (.slice b m r) := (hX.under hb hX.lt).cell_at rfl
      go_wp2
      clear c11
      go_loopw [42] (fun iv wr => ∃ (j : Nat) (v : Value), j ≤ m ∧ iv = .int .i64 j ∧ OutS W2.heap.size wr g v (l1 ++ (t.co.take j).flatMap Tx.encCo) ∧ RowKit.Hid ((l1 ++ (t.co.take j).flatMap Tx.encCo).length ≤ 160000 + 16 * j) ∧ Below W1.heap.size W1 wr ∧ W2.heap.size ≤ wr.heap.size) (fun iv _ => m - (intOf iv).toNat)
      case atStart => exact ⟨0, v3, Nat.zero_le _, rfl, by simpa using ho, Lib.hid (by simpa using HLC.out), hb, hBr⟩
      case round =>
        clear ho hb hBr
        obtain ⟨j, v, hj, rfl, ho, HLN, hb, hBr⟩ := hrel
        by_cases hlj : j < m
        · have hji : (j : Int) < (m : Int) := by omega
          have hj0 : (0 : Int) ≤ (j : Int) := by omega
          obtain ⟨c, hc⟩ := HT.out.co.get hlj
          obtain ⟨x, hax, _⟩ := HT.out.co.2.2.2 j c hc
          subst hax
          have hy := coins_at (HT.out.co.below hb) hc
          have HOK := Lib.hid (HT.out.co.okay hc)
          have HC := Lib.hid hc
          clear hc
          go_upto_region 14 with (first
            | (refine wpList_store_mid rfl 56 (.tmp 9) (.tmp 45) rfl wr.heap.size 0 (coCells c).toArray rfl rfl (coRec.there _ _ rfl HOK.out) (coRec.size_eq size_coin HOK.out) (coRec.all_one c) ?_)
            | (refine wpList_load_run rfl 56 (.tmp 44) rfl _ _ rfl hy ?_))
          obtain ⟨w5, hw5⟩ : ∃ x, x = (wr.alloc (.cells zCo 56)).setCells wr.heap.size 0 (coCells c) := ⟨_, rfl⟩
          obtain ⟨hG, hb5⟩ := Rec.new (R := coRec) rfl HOK.out hw5
          rw [← hw5]
          clear hw5 hy
          obtain ⟨g7, hg7⟩ : ∃ g, g = wr.heap.size := ⟨_, rfl⟩
          have hgg : g7 ≠ g := by omega
          rw [← hg7] at hG ⊢
          clear hg7
          replace ho := ho.below hb5
          replace hb := hb.trans (hb5.mono hb.size)
          replace hBr := Nat.le_trans hBr hb5.size
          clear hb5
          obtain ⟨l2, hl2⟩ : ∃ l, l = l1 ++ (t.co.take j).flatMap Tx.encCo := ⟨_, rfl⟩
          rw [← hl2] at ho HLN
          have HL2 := Lib.hid hl2
          clear hl2
          have d0 : w5.cell? ⟨g7, 0, none⟩ = some (.int .i64 c.v) := hG.cell_at rfl
          have hwv := int_to_u64 c.v
          go_upto_region 15 with (first
            | (go_at_call 50; refine (outNum_any W2.heap.size g v l2 (BitVec.ofInt 64 c.v) 8 (by have := HLN.out; omega) _ ho hBr).mono ?_; rintro e w6 ⟨⟨u_, rfl⟩, v6, hon, hmn, hln⟩))
          replace hG := hG.moved hmn (ho.not hG (by decide) hgg)
          have hbn := hb.trans (out_below ho hmn hNg hNB hb.size)
          replace hb := hbn
          replace ho := hon
          replace hBr := Nat.le_trans hBr hmn.size
          clear hbn hon hmn hln
          clear d0 hwv
          have d1 : w6.cell? ⟨g7, 1, none⟩ = some (.int .u64 (nb64 c.lock)) := hG.cell_at rfl
          go_upto_region 16 with (first
            | (go_at_call 50; refine (outNum_any W2.heap.size g v6 (l2 ++ Pk.num (BitVec.ofInt 64 c.v) 8) c.lock 8 (by have := HLN.out; rw [List.length_append, show (Pk.num (BitVec.ofInt 64 c.v) 8).length = 8 from rfl]; omega) _ ho hBr).mono ?_; rintro e w7 ⟨⟨u_, rfl⟩, v7, hon, hmn, hln⟩))
          have hbn := hb.trans (out_below ho hmn hNg hNB hb.size)
          replace hb := hbn
          replace ho := hon
          replace hBr := Nat.le_trans hBr hmn.size
          clear hbn hon hmn hln
          clear d1 hG
          have hE : l1 ++ (t.co.take (j + 1)).flatMap Tx.encCo = l2 ++ Pk.num (BitVec.ofInt 64 c.v) 8 ++ Pk.num c.lock 8 := by
            rw [Tx.take_snoc HC.out, List.flatMap_append, ← List.append_assoc, ← HL2.out, List.flatMap_singleton]
            simp [Tx.encCo, Pk.num, Pk.okSize]
          have HLN2 := Lib.hid (show (l1 ++ (t.co.take (j + 1)).flatMap Tx.encCo).length ≤ 160000 + 16 * (j + 1) by
            rw [hE]
            have e1 := HLN.out
            simp only [List.length_append, show (Pk.num (BitVec.ofInt 64 c.v) 8).length = 8 from rfl, show (Pk.num c.lock 8).length = 8 from rfl]
            omega)
          rw [← hE] at ho
          clear hE HLN
          go_wp2
          go_roundw
          case rel => exact ⟨j + 1, v7, by omega, by go_num, ho, HLN2, hb, hBr⟩
          case measure => (simp [intOf]; try omega)
        · have hji : ¬ (j : Int) < (m : Int) := by omega
          have htk : t.co.take j = t.co := List.take_of_length_le (by have e : t.co.length = m := HT.out.co.1; omega)
          rw [htk] at ho HLN
          clear htk
          have c12 : wr.cell? ⟨g1, 2, none⟩ = some (.bool f) := (hX.under hb hX.lt).cell_at rfl
          obtain ⟨l3, hl3⟩ : ∃ l, l = l1 ++ t.co.flatMap Tx.encCo := ⟨_, rfl⟩
          rw [← hl3] at ho HLN
          have hL : ∀ y, l3 ++ [y] = Pk.count t.sp.length ++ t.sp.flatMap (Tx.encSp false) ++ Pk.count t.co.length ++ t.co.flatMap Tx.encCo ++ [y] := fun y => by
            rw [hl3, HL1.out, HL0.out, show t.sp.length = n from HT.out.sp.1, show t.co.length = m from HT.out.co.1]
          have HL := Lib.hid hL
          clear hl3 hL
          have hlo : w.heap.size ≤ W1.heap.size := hBw.size
          cases f
          · have HE := Lib.hid (show l3 ++ [0#8] = Tx.enc false t by rw [HL.out, Tx.enc, ← HF.out]; rfl)
            go_wp2_with (first
              | (go_at_call 70; refine (outBytes_any W2.heap.size g v4 (l3 ++ [0#8]) (by rw [List.length_append]; have := HLN.out; show _ + 1 ≤ _; omega) w4 ho4).mono ?_; rintro e w5 ⟨v5, rfl, ho5, hb5⟩)
              | (go_at_call 50; refine (show Calls Try.prog 50 #[.pointer (some ⟨g, 0, none⟩), .int .u64 0, .int .i64 1] wr (OutPost W2.heap.size g v (l3 ++ [0#8]) wr) from outNum_any W2.heap.size g v l3 0#64 1 (by have := HLN.out; omega) wr ho hBr).mono ?_; rintro e w4 ⟨⟨u_, rfl⟩, v4, ho4, hm4, hl4⟩; have hb4 := hb.trans (out_below ho hm4 hNg hNB hb.size)))
            rw [HE.out] at ho5
            go_ret
            exact ⟨v5, rfl, ho5.low (Nat.le_trans hlo hb4.size), hBw.trans ((hb4.trans (hb5.mono hb4.size)).mono hBw.size)⟩
          · have HE := Lib.hid (show l3 ++ [1#8] = Tx.enc false t by rw [HL.out, Tx.enc, ← HF.out]; rfl)
            go_wp2_with (first
              | (go_at_call 70; refine (outBytes_any W2.heap.size g v4 (l3 ++ [1#8]) (by rw [List.length_append]; have := HLN.out; show _ + 1 ≤ _; omega) w4 ho4).mono ?_; rintro e w5 ⟨v5, rfl, ho5, hb5⟩)
              | (go_at_call 50; refine (show Calls Try.prog 50 #[.pointer (some ⟨g, 0, none⟩), .int .u64 1, .int .i64 1] wr (OutPost W2.heap.size g v (l3 ++ [1#8]) wr) from outNum_any W2.heap.size g v l3 1#64 1 (by have := HLN.out; omega) wr ho hBr).mono ?_; rintro e w4 ⟨⟨u_, rfl⟩, v4, ho4, hm4, hl4⟩; have hb4 := hb.trans (out_below ho hm4 hNg hNB hb.size)))
            rw [HE.out] at ho5
            go_ret
            exact ⟨v5, rfl, ho5.low (Nat.le_trans hlo hb4.size), hBw.trans ((hb4.trans (hb5.mono hb4.size)).mono hBw.size)⟩
set_option maxRecDepth 100000 in
set_option maxHeartbeats 16000000 in
theorem pbytes_any (a : Option Addr) (n q : Nat) (b : Option Addr) (m r : Nat) (t : Tx.T) (f : Bool) (hf : f = t.firm) (w : World) (ht : TxAt w a n q b m r t) (hs : Tx.Small t) :
    Calls Try.prog 18 #[txv a n q b m r f] w (BytesPost8 5 w.heap.size (Tx.enc true t) w) := by
  obtain ⟨W1, hW1⟩ : ∃ x, x = w.alloc (.cells #[.slice a n q, .slice b m r, .bool f] 25) := ⟨_, rfl⟩
  have hBw : Below w.heap.size w W1 := by rw [hW1]; exact (Below.refl _ w).alloc (Nat.le_refl _) _
  have hX : Has W1 w.heap.size 25 #[.slice a n q, .slice b m r, .bool f] := by rw [hW1]; exact Has.fresh w _ _
  have HW := Lib.hid hW1
  clear hW1
  have lX := hX.load_agg (P := Try.prog) (t := 25) Try.underlying25 rfl (by kernel_rfl)
  have HT := Lib.hid (ht.below hBw)
  have HS := Lib.hid hs
  have HF := Lib.hid hf
  clear ht hs hX hf
  go_enter Try.func18, Try.ntmps18
  go_upto_region 1 with fail
  rw [← HW.out]
  go_wp2_with (first
    | (go_at_call 47; refine (enc_true a n q b m r t f HF.out W1 HT.out HS.out).mono ?_; rintro e w2 ⟨v, rfl, ho, hb2⟩)
    | (refine wpList_load_run rfl 25 (.tmp 1) rfl _ _ rfl lX ?_))
  go_ret
  exact ⟨v, rfl, ho.low hBw.size, hBw.trans (hb2.mono hBw.size)⟩
set_option maxRecDepth 100000 in
set_option maxHeartbeats 16000000 in
theorem pbase_any (a : Option Addr) (n q : Nat) (b : Option Addr) (m r : Nat) (t : Tx.T) (f : Bool) (hf : f = t.firm) (w : World) (ht : TxAt w a n q b m r t) (hs : Tx.Small t) :
    Calls Try.prog 22 #[txv a n q b m r f] w (BytesPost8 5 w.heap.size (Tx.enc false t) w) := by
  obtain ⟨W1, hW1⟩ : ∃ x, x = w.alloc (.cells #[.slice a n q, .slice b m r, .bool f] 25) := ⟨_, rfl⟩
  have hBw : Below w.heap.size w W1 := by rw [hW1]; exact (Below.refl _ w).alloc (Nat.le_refl _) _
  have hX : Has W1 w.heap.size 25 #[.slice a n q, .slice b m r, .bool f] := by rw [hW1]; exact Has.fresh w _ _
  have HW := Lib.hid hW1
  clear hW1
  have lX := hX.load_agg (P := Try.prog) (t := 25) Try.underlying25 rfl (by kernel_rfl)
  have HT := Lib.hid (ht.below hBw)
  have HS := Lib.hid hs
  have HF := Lib.hid hf
  clear ht hs hX hf
  go_enter Try.func22, Try.ntmps22
  go_upto_region 1 with fail
  rw [← HW.out]
  go_wp2_with (first
    | (go_at_call 47; refine (enc_false a n q b m r t f HF.out W1 HT.out HS.out).mono ?_; rintro e w2 ⟨v, rfl, ho, hb2⟩)
    | (refine wpList_load_run rfl 25 (.tmp 1) rfl _ _ rfl lX ?_))
  go_ret
  exact ⟨v, rfl, ho.low hBw.size, hBw.trans (hb2.mono hBw.size)⟩
set_option maxRecDepth 100000 in
set_option maxHeartbeats 16000000 in
theorem pweight_any (a : Option Addr) (n q : Nat) (b : Option Addr) (m r : Nat) (t : Tx.T) (f : Bool) (hf : f = t.firm) (w : World) (ht : TxAt w a n q b m r t) (hs : Tx.Small t) :
    Calls Try.prog 21 #[txv a n q b m r f] w fun e w' => e = .returned (.int .i64 (Tx.weight t)) ∧ Below w.heap.size w w' := by
  obtain ⟨W1, hW1⟩ : ∃ x, x = w.alloc (.cells #[.slice a n q, .slice b m r, .bool f] 25) := ⟨_, rfl⟩
  have hBw : Below w.heap.size w W1 := by rw [hW1]; exact (Below.refl _ w).alloc (Nat.le_refl _) _
  have hX : Has W1 w.heap.size 25 #[.slice a n q, .slice b m r, .bool f] := by rw [hW1]; exact Has.fresh w _ _
  have HW := Lib.hid hW1
  clear hW1
  have hh : ∀ s, s ∈ t.sp → s.h.length = 32 := fun s hx => (ht.sp.2.2.1 s hx).1
  obtain ⟨k1, hk1⟩ : ∃ k, k = (Tx.enc false t).length := ⟨_, rfl⟩
  obtain ⟨k2, hk2⟩ : ∃ k, k = (Tx.enc true t).length := ⟨_, rfl⟩
  have e1 : k1 ≤ 200000 := by rw [hk1]; exact Tx.enc_len _ t hs hh
  have e2 : k2 ≤ 200000 := by rw [hk2]; exact Tx.enc_len _ t hs hh
  have HWR := Lib.hid (show IntKind.i64.wrap (3 * (k1 : Int)) = 3 * (k1 : Int) ∧ IntKind.i64.wrap (3 * (k1 : Int) + (k2 : Int)) = 3 * (k1 : Int) + (k2 : Int) from ⟨IntWalk.i64_in _ (by omega), IntWalk.i64_in _ (by omega)⟩)
  have HK := Lib.hid (show (Tx.enc false t).length = k1 ∧ (Tx.enc true t).length = k2 ∧ Tx.weight t = 3 * (k1 : Int) + (k2 : Int) from ⟨hk1.symm, hk2.symm, by rw [Tx.weight, ← hk1, ← hk2]⟩)
  have HX := Lib.hid hX
  have HT := Lib.hid (ht.below hBw)
  have HS := Lib.hid hs
  have HF := Lib.hid hf
  clear ht hs hX hk1 hk2 hh hf
  go_enter Try.func21, Try.ntmps21
  go_upto_region 1 with fail
  rw [← HW.out]
  obtain ⟨ws, hws⟩ : ∃ x, x = W1.drew := ⟨_, rfl⟩
  have hbs : Below W1.heap.size W1 ws := by rw [hws]; exact (Below.refl _ _).drew
  have HXs := Lib.hid (HX.out.under hbs HX.out.lt)
  have HTs := Lib.hid (HT.out.below hbs)
  have hBs := hBw.trans (hbs.mono hBw.size)
  refine wp_region_held_drew (S := Held ws) (by kernel_rfl) (by rw [hws]; exact Held.refl _) (fun hHeld => ?_)
  rw [← hws] at hHeld ⊢
  clear hws hbs
  refine take_at 0 3 rfl rfl (by kernel_rfl) (by kernel_rfl) (by kernel_rfl) (fun _ _ _ h => h) hHeld (yieldsIf_load_agg (by rfl) 25 (.tmp 1) rfl _ _ (by rfl) (fun wq hSw => (HXs.out.under hSw HXs.out.lt).load_agg (P := Try.prog) (t := 25) Try.underlying25 rfl (by kernel_rfl))) rfl ?_
  simp only [List.set_cons_zero, List.set_cons_succ]
  refine take_at 4 7 rfl rfl (by kernel_rfl) (by kernel_rfl) (by kernel_rfl) (fun _ _ _ h => h) hHeld (yieldsIf_load_agg (by rfl) 25 (.tmp 1) rfl _ _ (by rfl) (fun wq hSw => (HXs.out.under hSw HXs.out.lt).load_agg (P := Try.prog) (t := 25) Try.underlying25 rfl (by kernel_rfl))) rfl ?_
  simp only [List.set_cons_zero, List.set_cons_succ]
  refine wpAnyH_ready (rs := [1]) (by kernel_rfl) (by simp) ?_
  refine AllReadyH.cons rfl (fun K hK => ?_) AllReadyH.nil
  go_simp
  go_at_call 22; refine (pbase_any a n q b m r t f HF.out ws HTs.out HS.out).mono ?_; rintro e k1w ⟨v2, rfl, ho2, hk1⟩; obtain ⟨x2, c2, rfl, _, _, _⟩ := ho2.shape HK.out.1
  refine hK.out _ _ (Held.of hk1) (fun _ => ?_)
  clear hK K
  try simp only [Act.put, List.setIfInBounds_toArray, List.set_cons_zero, List.set_cons_succ]
  refine held_grow (w1 := k1w) (Held.of hk1) ?_
  clear hHeld
  have hHeld : Held k1w k1w := Held.refl _
  refine take_at (v := ?_) 2 5 rfl rfl (by kernel_rfl) (by kernel_rfl) (by kernel_rfl) (fun _ _ _ h => h) hHeld (Or.inl ⟨by rfl, ?_⟩) rfl ?_
  rotate_left
  · intro wq hSw
    go_simp
    try with_reducible rfl
  simp only [List.set_cons_zero, List.set_cons_succ]
  refine take_at (v := ?_) 3 6 rfl rfl (by kernel_rfl) (by kernel_rfl) (by kernel_rfl) (fun _ _ _ h => h) hHeld (Or.inl ⟨by rfl, ?_⟩) rfl ?_
  rotate_left
  · intro wq hSw
    go_simp
    try with_reducible rfl
  simp only [List.set_cons_zero, List.set_cons_succ]
  refine wpAnyH_ready (rs := [5]) (by kernel_rfl) (by simp) ?_
  refine AllReadyH.cons rfl (fun K hK => ?_) AllReadyH.nil
  go_simp
  go_at_call 18; refine (pbytes_any a n q b m r t f HF.out k1w (HTs.out.below hk1) HS.out).mono ?_; rintro e k2w ⟨v3, rfl, ho3, hk2⟩; obtain ⟨x3, c3, rfl, _, _, _⟩ := ho3.shape HK.out.2.1
  refine hK.out _ _ (Held.of hk2) (fun _ => ?_)
  clear hK K
  try simp only [Act.put, List.setIfInBounds_toArray, List.set_cons_zero, List.set_cons_succ]
  refine held_grow (w1 := k2w) (Held.of hk2) ?_
  clear hHeld
  have hHeld : Held k2w k2w := Held.refl _
  refine take_at (v := ?_) 6 9 rfl rfl (by kernel_rfl) (by kernel_rfl) (by kernel_rfl) (fun _ _ _ h => h) hHeld (Or.inl ⟨by rfl, ?_⟩) rfl ?_
  rotate_left
  · intro wq hSw
    go_simp
    try with_reducible rfl
  simp only [List.set_cons_zero, List.set_cons_succ]
  refine take_at (v := ?_) 7 10 rfl rfl (by kernel_rfl) (by kernel_rfl) (by kernel_rfl) (fun _ _ _ h => h) hHeld (Or.inl ⟨by rfl, ?_⟩) rfl ?_
  rotate_left
  · intro wq hSw
    go_simp
    try with_reducible rfl
  simp only [List.set_cons_zero, List.set_cons_succ]
  refine take_at (v := ?_) 8 2 rfl rfl (by kernel_rfl) (by kernel_rfl) (by kernel_rfl) (fun _ _ _ h => h) hHeld (Or.inl ⟨by rfl, ?_⟩) rfl ?_
  rotate_left
  · intro wq hSw
    go_simp
    try with_reducible rfl
  simp only [List.set_cons_zero, List.set_cons_succ]
  refine wpAnyH_done (by kernel_rfl) ?_ _
  go_wp2
  go_ret
  exact ⟨by rw [HK.out.2.2]; show Ending.returned (.int .i64 (IntKind.i64.wrap (IntKind.i64.wrap (3 * (k1 : Int)) + (k2 : Int)))) = _; rw [HWR.out.1, HWR.out.2], hBs.trans ((hk1.trans (hk2.mono hk1.size)).mono hBs.size)⟩
end Go.Proofs.Ytpbijcchdjppmaa

/-! package tx: Same, Copy; what the premise asks (mktxd.py) -/
namespace Go.Proofs.Ytpbijcchdjppmaa
open Go Go.RowKit Go.ChangeShapes Go.WideShapes
set_option maxRecDepth 100000 in
set_option maxHeartbeats 16000000 in
theorem eq_sp (a : Option Addr) (n q : Nat) (L : List Tx.Sp) (a' : Option Addr) (n' q' : Nat) (M : List Tx.Sp) (w : World) (h : Recs spRec w a n L) (h' : Recs spRec w a' n' M) :
    Calls Try.prog 27 #[.slice a n q, .slice a' n' q'] w fun e w' => e = .returned (.bool (decide (L = M))) ∧ Below w.heap.size w w' := by
  have hnmx : n ≤ 9223372036854775807 := h.2.1
  by_cases hn : n = n'
  · subst hn
    go_enter Try.func27, Try.ntmps27
    go_wp2
    go_loopw [13] (fun iv wr => ∃ i : Nat, i ≤ n ∧ iv = .int .i64 i ∧ RowKit.Hid (∀ j, j < i → L[j]? = M[j]?) ∧ Below w.heap.size w wr) (fun iv _ => n - (intOf iv).toNat)
    case atStart => exact ⟨0, Nat.zero_le _, rfl, Lib.hid (fun j hj => by omega), Below.refl _ _⟩
    case round =>
      obtain ⟨i, hi, rfl, HJ, hb⟩ := hrel
      by_cases hlt : i < n
      · have hii : (i : Int) < (n : Int) := by omega
        have hi0 : (0 : Int) ≤ (i : Int) := by omega
        obtain ⟨s, hs⟩ := h.get hlt
        obtain ⟨o, ho⟩ := h'.get hlt
        obtain ⟨x, hax, _⟩ := h.2.2.2 i s hs
        obtain ⟨y, hay, _⟩ := h'.2.2.2 i o ho
        subst hax
        subst hay
        have HS := Lib.hid hs
        have HO := Lib.hid ho
        have HOS := Lib.hid (And.intro (h.okay hs) (h'.okay ho))
        clear hs ho
        go_upto_region 6 with fail
        obtain ⟨ws, hws⟩ : ∃ x, x = wr.drew := ⟨_, rfl⟩
        have hbs : Below wr.heap.size wr ws := by rw [hws]; exact (Below.refl _ _).drew
        have lS := fun (wq : World) (hSw : Held ws wq) => spends_at (((h.below hb).below hbs).below hSw) HS.out
        have lO := fun (wq : World) (hSw : Held ws wq) => spends_at (((h'.below hb).below hbs).below hSw) HO.out
        have hbws := hb.trans (hbs.mono hb.size)
        refine wp_region_held_drew (S := Held ws) (by kernel_rfl) (by rw [hws]; exact Held.refl _) (fun hHeld => ?_)
        rw [← hws] at hHeld ⊢
        clear hws hbs
        by_cases hso : s = o
        · have HEQ := Lib.hid (show ∀ w, (binOp .neq 54 (.agg (spCells s).toArray) (.agg (spCells o).toArray)).run Try.prog w = .ok (.bool false) w from fun w => (neq_spend w s o HOS.out.1.1 HOS.out.2.1).trans (by rw [decide_eq_true hso]; rfl))
          refine take_at (v := ?_) 0 16 rfl rfl (by kernel_rfl) (by kernel_rfl) (by kernel_rfl) (fun _ _ _ h => h) hHeld (Or.inl ⟨by rfl, ?_⟩) rfl ?_
          rotate_left
          · intro wq hSw
            go_simp
            try with_reducible rfl
          simp only [List.set_cons_zero, List.set_cons_succ]
          refine take_at (v := ?_) 1 17 rfl rfl (by kernel_rfl) (by kernel_rfl) (by kernel_rfl) (fun _ _ _ h => h) hHeld (Or.inl ⟨by rfl, ?_⟩) rfl ?_
          rotate_left
          · intro wq hSw
            go_simp
            try with_reducible rfl
          simp only [List.set_cons_zero, List.set_cons_succ]
          refine take_at (v := ?_) 2 18 rfl rfl (by kernel_rfl) (by kernel_rfl) (by kernel_rfl) (fun _ _ _ h => h) hHeld (Or.inl ⟨by rfl, ?_⟩) rfl ?_
          rotate_left
          · intro wq hSw
            go_simp
            try with_reducible rfl
          simp only [List.set_cons_zero, List.set_cons_succ]
          refine take_at 3 19 rfl rfl (by kernel_rfl) (by kernel_rfl) (by kernel_rfl) (fun _ _ _ h => h) hHeld (yieldsIf_load_agg (by rfl) 54 (.tmp 18) rfl _ _ (by rfl) (fun wq hSw => lS wq hSw)) rfl ?_
          simp only [List.set_cons_zero, List.set_cons_succ]
          refine take_at (v := ?_) 4 20 rfl rfl (by kernel_rfl) (by kernel_rfl) (by kernel_rfl) (fun _ _ _ h => h) hHeld (Or.inl ⟨by rfl, ?_⟩) rfl ?_
          rotate_left
          · intro wq hSw
            go_simp
            try with_reducible rfl
          simp only [List.set_cons_zero, List.set_cons_succ]
          refine take_at (v := ?_) 5 21 rfl rfl (by kernel_rfl) (by kernel_rfl) (by kernel_rfl) (fun _ _ _ h => h) hHeld (Or.inl ⟨by rfl, ?_⟩) rfl ?_
          rotate_left
          · intro wq hSw
            go_simp
            try with_reducible rfl
          simp only [List.set_cons_zero, List.set_cons_succ]
          refine take_at (v := ?_) 6 22 rfl rfl (by kernel_rfl) (by kernel_rfl) (by kernel_rfl) (fun _ _ _ h => h) hHeld (Or.inl ⟨by rfl, ?_⟩) rfl ?_
          rotate_left
          · intro wq hSw
            go_simp
            try with_reducible rfl
          simp only [List.set_cons_zero, List.set_cons_succ]
          refine take_at 7 23 rfl rfl (by kernel_rfl) (by kernel_rfl) (by kernel_rfl) (fun _ _ _ h => h) hHeld (yieldsIf_load_agg (by rfl) 54 (.tmp 22) rfl _ _ (by rfl) (fun wq hSw => lO wq hSw)) rfl ?_
          simp only [List.set_cons_zero, List.set_cons_succ]
          refine take_at (v := .bool false) 8 24 rfl rfl (by kernel_rfl) (by kernel_rfl) (by kernel_rfl) (fun _ _ _ h => h) hHeld (yieldsIf_bin (by rfl) .neq 54 (.tmp 19) (.tmp 23) _ rfl (spCells s).toArray (spCells o).toArray (by rfl) (by rfl) (by kernel_rfl) _ HEQ.out) rfl ?_
          simp only [List.set_cons_zero, List.set_cons_succ]
          refine wpAnyH_done (by kernel_rfl) ?_ _
          have HJ2 := Lib.hid (show ∀ j, j < i + 1 → L[j]? = M[j]? from fun j hj => by
            rcases Nat.lt_or_ge j i with h | h
            · exact HJ.out j h
            · have e2 : j = i := by omega
              subst e2
              rw [HS.out, HO.out, hso])
          clear hso
          go_wp2
          go_roundw
          case rel => exact ⟨i + 1, by omega, by go_num, HJ2, hbws⟩
          case measure => (simp [intOf]; try omega)
        · have HEQ := Lib.hid (show ∀ w, (binOp .neq 54 (.agg (spCells s).toArray) (.agg (spCells o).toArray)).run Try.prog w = .ok (.bool true) w from fun w => (neq_spend w s o HOS.out.1.1 HOS.out.2.1).trans (by rw [decide_eq_false hso]; rfl))
          have HD := Lib.hid (show decide (L = M) = false from decide_eq_false fun e => hso (by
            have h1 := HS.out
            rw [e, HO.out] at h1
            injection h1 with h1
            exact h1.symm))
          clear hso
          refine take_at (v := ?_) 0 16 rfl rfl (by kernel_rfl) (by kernel_rfl) (by kernel_rfl) (fun _ _ _ h => h) hHeld (Or.inl ⟨by rfl, ?_⟩) rfl ?_
          rotate_left
          · intro wq hSw
            go_simp
            try with_reducible rfl
          simp only [List.set_cons_zero, List.set_cons_succ]
          refine take_at (v := ?_) 1 17 rfl rfl (by kernel_rfl) (by kernel_rfl) (by kernel_rfl) (fun _ _ _ h => h) hHeld (Or.inl ⟨by rfl, ?_⟩) rfl ?_
          rotate_left
          · intro wq hSw
            go_simp
            try with_reducible rfl
          simp only [List.set_cons_zero, List.set_cons_succ]
          refine take_at (v := ?_) 2 18 rfl rfl (by kernel_rfl) (by kernel_rfl) (by kernel_rfl) (fun _ _ _ h => h) hHeld (Or.inl ⟨by rfl, ?_⟩) rfl ?_
          rotate_left
          · intro wq hSw
            go_simp
            try with_reducible rfl
          simp only [List.set_cons_zero, List.set_cons_succ]
          refine take_at 3 19 rfl rfl (by kernel_rfl) (by kernel_rfl) (by kernel_rfl) (fun _ _ _ h => h) hHeld (yieldsIf_load_agg (by rfl) 54 (.tmp 18) rfl _ _ (by rfl) (fun wq hSw => lS wq hSw)) rfl ?_
          simp only [List.set_cons_zero, List.set_cons_succ]
          refine take_at (v := ?_) 4 20 rfl rfl (by kernel_rfl) (by kernel_rfl) (by kernel_rfl) (fun _ _ _ h => h) hHeld (Or.inl ⟨by rfl, ?_⟩) rfl ?_
          rotate_left
          · intro wq hSw
            go_simp
            try with_reducible rfl
          simp only [List.set_cons_zero, List.set_cons_succ]
          refine take_at (v := ?_) 5 21 rfl rfl (by kernel_rfl) (by kernel_rfl) (by kernel_rfl) (fun _ _ _ h => h) hHeld (Or.inl ⟨by rfl, ?_⟩) rfl ?_
          rotate_left
          · intro wq hSw
            go_simp
            try with_reducible rfl
          simp only [List.set_cons_zero, List.set_cons_succ]
          refine take_at (v := ?_) 6 22 rfl rfl (by kernel_rfl) (by kernel_rfl) (by kernel_rfl) (fun _ _ _ h => h) hHeld (Or.inl ⟨by rfl, ?_⟩) rfl ?_
          rotate_left
          · intro wq hSw
            go_simp
            try with_reducible rfl
          simp only [List.set_cons_zero, List.set_cons_succ]
          refine take_at 7 23 rfl rfl (by kernel_rfl) (by kernel_rfl) (by kernel_rfl) (fun _ _ _ h => h) hHeld (yieldsIf_load_agg (by rfl) 54 (.tmp 22) rfl _ _ (by rfl) (fun wq hSw => lO wq hSw)) rfl ?_
          simp only [List.set_cons_zero, List.set_cons_succ]
          refine take_at (v := .bool true) 8 24 rfl rfl (by kernel_rfl) (by kernel_rfl) (by kernel_rfl) (fun _ _ _ h => h) hHeld (yieldsIf_bin (by rfl) .neq 54 (.tmp 19) (.tmp 23) _ rfl (spCells s).toArray (spCells o).toArray (by rfl) (by rfl) (by kernel_rfl) _ HEQ.out) rfl ?_
          simp only [List.set_cons_zero, List.set_cons_succ]
          refine wpAnyH_done (by kernel_rfl) ?_ _
          go_wp2
          go_ret
          exact ⟨by rw [HD.out]; rfl, hbws⟩
      · have hii : ¬ (i : Int) < (n : Int) := by omega
        have hin : i = n := by omega
        have HD := Lib.hid (show decide (L = M) = true from decide_eq_true (List.ext_getElem? fun j => by
          rcases Nat.lt_or_ge j i with h5 | h5
          · exact HJ.out j h5
          · rw [List.getElem?_eq_none (by rw [h.1]; omega), List.getElem?_eq_none (by rw [h'.1]; omega)]))
        clear hin
        go_wp2
        go_ret
        exact ⟨by rw [HD.out]; rfl, hb⟩
  · have HD := Lib.hid (show decide (L = M) = false from decide_eq_false fun e => hn (by rw [← h.1, ← h'.1, e]))
    have hne : ((n : Int) != (n' : Int)) = true := by simp; omega
    go_enter Try.func27, Try.ntmps27
    go_wp2
    go_ret
    exact ⟨by rw [HD.out]; rfl, Below.refl _ _⟩
set_option maxRecDepth 100000 in
set_option maxHeartbeats 16000000 in
theorem eq_co (a : Option Addr) (n q : Nat) (L : List Tx.Co) (a' : Option Addr) (n' q' : Nat) (M : List Tx.Co) (w : World) (h : Recs coRec w a n L) (h' : Recs coRec w a' n' M) :
    Calls Try.prog 28 #[.slice a n q, .slice a' n' q'] w fun e w' => e = .returned (.bool (decide (L = M))) ∧ Below w.heap.size w w' := by
  have hnmx : n ≤ 9223372036854775807 := h.2.1
  by_cases hn : n = n'
  · subst hn
    go_enter Try.func28, Try.ntmps28
    go_wp2
    go_loopw [13] (fun iv wr => ∃ i : Nat, i ≤ n ∧ iv = .int .i64 i ∧ RowKit.Hid (∀ j, j < i → L[j]? = M[j]?) ∧ Below w.heap.size w wr) (fun iv _ => n - (intOf iv).toNat)
    case atStart => exact ⟨0, Nat.zero_le _, rfl, Lib.hid (fun j hj => by omega), Below.refl _ _⟩
    case round =>
      obtain ⟨i, hi, rfl, HJ, hb⟩ := hrel
      by_cases hlt : i < n
      · have hii : (i : Int) < (n : Int) := by omega
        have hi0 : (0 : Int) ≤ (i : Int) := by omega
        obtain ⟨s, hs⟩ := h.get hlt
        obtain ⟨o, ho⟩ := h'.get hlt
        obtain ⟨x, hax, _⟩ := h.2.2.2 i s hs
        obtain ⟨y, hay, _⟩ := h'.2.2.2 i o ho
        subst hax
        subst hay
        have HS := Lib.hid hs
        have HO := Lib.hid ho
        have HOS := Lib.hid (And.intro (h.okay hs) (h'.okay ho))
        clear hs ho
        go_upto_region 6 with fail
        obtain ⟨ws, hws⟩ : ∃ x, x = wr.drew := ⟨_, rfl⟩
        have hbs : Below wr.heap.size wr ws := by rw [hws]; exact (Below.refl _ _).drew
        have lS := fun (wq : World) (hSw : Held ws wq) => coins_at (((h.below hb).below hbs).below hSw) HS.out
        have lO := fun (wq : World) (hSw : Held ws wq) => coins_at (((h'.below hb).below hbs).below hSw) HO.out
        have hbws := hb.trans (hbs.mono hb.size)
        refine wp_region_held_drew (S := Held ws) (by kernel_rfl) (by rw [hws]; exact Held.refl _) (fun hHeld => ?_)
        rw [← hws] at hHeld ⊢
        clear hws hbs
        by_cases hso : s = o
        · have HEQ := Lib.hid (show ∀ w, (binOp .neq 56 (.agg #[.int .i64 s.v, .int .u64 (nb64 s.lock)]) (.agg #[.int .i64 o.v, .int .u64 (nb64 o.lock)])).run Try.prog w = .ok (.bool false) w from fun w => (neq_coin w s o).trans (by rw [decide_eq_true hso]; rfl))
          refine take_at (v := ?_) 0 16 rfl rfl (by kernel_rfl) (by kernel_rfl) (by kernel_rfl) (fun _ _ _ h => h) hHeld (Or.inl ⟨by rfl, ?_⟩) rfl ?_
          rotate_left
          · intro wq hSw
            go_simp
            try with_reducible rfl
          simp only [List.set_cons_zero, List.set_cons_succ]
          refine take_at (v := ?_) 1 17 rfl rfl (by kernel_rfl) (by kernel_rfl) (by kernel_rfl) (fun _ _ _ h => h) hHeld (Or.inl ⟨by rfl, ?_⟩) rfl ?_
          rotate_left
          · intro wq hSw
            go_simp
            try with_reducible rfl
          simp only [List.set_cons_zero, List.set_cons_succ]
          refine take_at (v := ?_) 2 18 rfl rfl (by kernel_rfl) (by kernel_rfl) (by kernel_rfl) (fun _ _ _ h => h) hHeld (Or.inl ⟨by rfl, ?_⟩) rfl ?_
          rotate_left
          · intro wq hSw
            go_simp
            try with_reducible rfl
          simp only [List.set_cons_zero, List.set_cons_succ]
          refine take_at 3 19 rfl rfl (by kernel_rfl) (by kernel_rfl) (by kernel_rfl) (fun _ _ _ h => h) hHeld (yieldsIf_load_agg (by rfl) 56 (.tmp 18) rfl _ _ (by rfl) (fun wq hSw => lS wq hSw)) rfl ?_
          simp only [List.set_cons_zero, List.set_cons_succ]
          refine take_at (v := ?_) 4 20 rfl rfl (by kernel_rfl) (by kernel_rfl) (by kernel_rfl) (fun _ _ _ h => h) hHeld (Or.inl ⟨by rfl, ?_⟩) rfl ?_
          rotate_left
          · intro wq hSw
            go_simp
            try with_reducible rfl
          simp only [List.set_cons_zero, List.set_cons_succ]
          refine take_at (v := ?_) 5 21 rfl rfl (by kernel_rfl) (by kernel_rfl) (by kernel_rfl) (fun _ _ _ h => h) hHeld (Or.inl ⟨by rfl, ?_⟩) rfl ?_
          rotate_left
          · intro wq hSw
            go_simp
            try with_reducible rfl
          simp only [List.set_cons_zero, List.set_cons_succ]
          refine take_at (v := ?_) 6 22 rfl rfl (by kernel_rfl) (by kernel_rfl) (by kernel_rfl) (fun _ _ _ h => h) hHeld (Or.inl ⟨by rfl, ?_⟩) rfl ?_
          rotate_left
          · intro wq hSw
            go_simp
            try with_reducible rfl
          simp only [List.set_cons_zero, List.set_cons_succ]
          refine take_at 7 23 rfl rfl (by kernel_rfl) (by kernel_rfl) (by kernel_rfl) (fun _ _ _ h => h) hHeld (yieldsIf_load_agg (by rfl) 56 (.tmp 22) rfl _ _ (by rfl) (fun wq hSw => lO wq hSw)) rfl ?_
          simp only [List.set_cons_zero, List.set_cons_succ]
          refine take_at (v := .bool false) 8 24 rfl rfl (by kernel_rfl) (by kernel_rfl) (by kernel_rfl) (fun _ _ _ h => h) hHeld (yieldsIf_bin (by rfl) .neq 56 (.tmp 19) (.tmp 23) _ rfl #[.int .i64 s.v, .int .u64 (nb64 s.lock)] #[.int .i64 o.v, .int .u64 (nb64 o.lock)] (by rfl) (by rfl) (by kernel_rfl) _ HEQ.out) rfl ?_
          simp only [List.set_cons_zero, List.set_cons_succ]
          refine wpAnyH_done (by kernel_rfl) ?_ _
          have HJ2 := Lib.hid (show ∀ j, j < i + 1 → L[j]? = M[j]? from fun j hj => by
            rcases Nat.lt_or_ge j i with h | h
            · exact HJ.out j h
            · have e2 : j = i := by omega
              subst e2
              rw [HS.out, HO.out, hso])
          clear hso
          go_wp2
          go_roundw
          case rel => exact ⟨i + 1, by omega, by go_num, HJ2, hbws⟩
          case measure => (simp [intOf]; try omega)
        · have HEQ := Lib.hid (show ∀ w, (binOp .neq 56 (.agg #[.int .i64 s.v, .int .u64 (nb64 s.lock)]) (.agg #[.int .i64 o.v, .int .u64 (nb64 o.lock)])).run Try.prog w = .ok (.bool true) w from fun w => (neq_coin w s o).trans (by rw [decide_eq_false hso]; rfl))
          have HD := Lib.hid (show decide (L = M) = false from decide_eq_false fun e => hso (by
            have h1 := HS.out
            rw [e, HO.out] at h1
            injection h1 with h1
            exact h1.symm))
          clear hso
          refine take_at (v := ?_) 0 16 rfl rfl (by kernel_rfl) (by kernel_rfl) (by kernel_rfl) (fun _ _ _ h => h) hHeld (Or.inl ⟨by rfl, ?_⟩) rfl ?_
          rotate_left
          · intro wq hSw
            go_simp
            try with_reducible rfl
          simp only [List.set_cons_zero, List.set_cons_succ]
          refine take_at (v := ?_) 1 17 rfl rfl (by kernel_rfl) (by kernel_rfl) (by kernel_rfl) (fun _ _ _ h => h) hHeld (Or.inl ⟨by rfl, ?_⟩) rfl ?_
          rotate_left
          · intro wq hSw
            go_simp
            try with_reducible rfl
          simp only [List.set_cons_zero, List.set_cons_succ]
          refine take_at (v := ?_) 2 18 rfl rfl (by kernel_rfl) (by kernel_rfl) (by kernel_rfl) (fun _ _ _ h => h) hHeld (Or.inl ⟨by rfl, ?_⟩) rfl ?_
          rotate_left
          · intro wq hSw
            go_simp
            try with_reducible rfl
          simp only [List.set_cons_zero, List.set_cons_succ]
          refine take_at 3 19 rfl rfl (by kernel_rfl) (by kernel_rfl) (by kernel_rfl) (fun _ _ _ h => h) hHeld (yieldsIf_load_agg (by rfl) 56 (.tmp 18) rfl _ _ (by rfl) (fun wq hSw => lS wq hSw)) rfl ?_
          simp only [List.set_cons_zero, List.set_cons_succ]
          refine take_at (v := ?_) 4 20 rfl rfl (by kernel_rfl) (by kernel_rfl) (by kernel_rfl) (fun _ _ _ h => h) hHeld (Or.inl ⟨by rfl, ?_⟩) rfl ?_
          rotate_left
          · intro wq hSw
            go_simp
            try with_reducible rfl
          simp only [List.set_cons_zero, List.set_cons_succ]
          refine take_at (v := ?_) 5 21 rfl rfl (by kernel_rfl) (by kernel_rfl) (by kernel_rfl) (fun _ _ _ h => h) hHeld (Or.inl ⟨by rfl, ?_⟩) rfl ?_
          rotate_left
          · intro wq hSw
            go_simp
            try with_reducible rfl
          simp only [List.set_cons_zero, List.set_cons_succ]
          refine take_at (v := ?_) 6 22 rfl rfl (by kernel_rfl) (by kernel_rfl) (by kernel_rfl) (fun _ _ _ h => h) hHeld (Or.inl ⟨by rfl, ?_⟩) rfl ?_
          rotate_left
          · intro wq hSw
            go_simp
            try with_reducible rfl
          simp only [List.set_cons_zero, List.set_cons_succ]
          refine take_at 7 23 rfl rfl (by kernel_rfl) (by kernel_rfl) (by kernel_rfl) (fun _ _ _ h => h) hHeld (yieldsIf_load_agg (by rfl) 56 (.tmp 22) rfl _ _ (by rfl) (fun wq hSw => lO wq hSw)) rfl ?_
          simp only [List.set_cons_zero, List.set_cons_succ]
          refine take_at (v := .bool true) 8 24 rfl rfl (by kernel_rfl) (by kernel_rfl) (by kernel_rfl) (fun _ _ _ h => h) hHeld (yieldsIf_bin (by rfl) .neq 56 (.tmp 19) (.tmp 23) _ rfl #[.int .i64 s.v, .int .u64 (nb64 s.lock)] #[.int .i64 o.v, .int .u64 (nb64 o.lock)] (by rfl) (by rfl) (by kernel_rfl) _ HEQ.out) rfl ?_
          simp only [List.set_cons_zero, List.set_cons_succ]
          refine wpAnyH_done (by kernel_rfl) ?_ _
          go_wp2
          go_ret
          exact ⟨by rw [HD.out]; rfl, hbws⟩
      · have hii : ¬ (i : Int) < (n : Int) := by omega
        have hin : i = n := by omega
        have HD := Lib.hid (show decide (L = M) = true from decide_eq_true (List.ext_getElem? fun j => by
          rcases Nat.lt_or_ge j i with h5 | h5
          · exact HJ.out j h5
          · rw [List.getElem?_eq_none (by rw [h.1]; omega), List.getElem?_eq_none (by rw [h'.1]; omega)]))
        clear hin
        go_wp2
        go_ret
        exact ⟨by rw [HD.out]; rfl, hb⟩
  · have HD := Lib.hid (show decide (L = M) = false from decide_eq_false fun e => hn (by rw [← h.1, ← h'.1, e]))
    have hne : ((n : Int) != (n' : Int)) = true := by simp; omega
    go_enter Try.func28, Try.ntmps28
    go_wp2
    go_ret
    exact ⟨by rw [HD.out]; rfl, Below.refl _ _⟩
set_option maxRecDepth 100000 in
set_option maxHeartbeats 16000000 in
theorem psame_any (a : Option Addr) (n q : Nat) (b : Option Addr) (m r : Nat) (t : Tx.T) (a' : Option Addr) (n' q' : Nat) (b' : Option Addr) (m' r' : Nat) (u : Tx.T) (fa fb : Bool) (hfa : fa = t.firm) (hfb : fb = u.firm) (w : World) (ht : TxAt w a n q b m r t) (hu : TxAt w a' n' q' b' m' r' u) :
    Calls Try.prog 13 #[txv a n q b m r fa, txv a' n' q' b' m' r' fb] w fun e w' => e = .returned (.bool (decide (t = u))) ∧ Below w.heap.size w w' := by
  obtain ⟨z, hz⟩ : ∃ z, z = decide (t = u) := ⟨_, rfl⟩
  rw [← hz]
  have HFA := Lib.hid hfa
  have HFB := Lib.hid hfb
  have HZ0 := Lib.hid hz
  clear hfa hfb hz
  obtain ⟨W1, hW1⟩ : ∃ x, x = (w.alloc (.cells #[.slice a n q, .slice b m r, .bool fa] 25)).alloc (.cells #[.slice a' n' q', .slice b' m' r', .bool fb] 25) := ⟨_, rfl⟩
  have hBw : Below w.heap.size w W1 := by
    rw [hW1]
    exact ((Below.refl _ w).alloc (Nat.le_refl _) _).alloc (by simp) _
  have hX : Has W1 w.heap.size 25 #[.slice a n q, .slice b m r, .bool fa] := by rw [hW1]; exact (Has.fresh w _ _).past _
  have hY : Has W1 (w.heap.size + 1) 25 #[.slice a' n' q', .slice b' m' r', .bool fb] := by rw [hW1]; exact Has.fresh_at _ _ _ (by simp)
  have HW := Lib.hid hW1
  clear hW1
  have HX := Lib.hid hX
  have HY := Lib.hid hY
  have HT := Lib.hid (ht.below hBw)
  have HU := Lib.hid (hu.below hBw)
  obtain ⟨g1, hg1⟩ : ∃ g, g = w.heap.size := ⟨_, rfl⟩
  have HG := Lib.hid hg1
  rw [← hg1] at HX HY
  clear hX hY ht hu hg1
  have f0 : W1.cell? ⟨g1, 0, none⟩ = some (.slice a n q) := HX.out.cell_at rfl
  have f1 : W1.cell? ⟨g1, 1, none⟩ = some (.slice b m r) := HX.out.cell_at rfl
  have e0 : W1.cell? ⟨g1 + 1, 0, none⟩ = some (.slice a' n' q') := HY.out.cell_at rfl
  have e1 : W1.cell? ⟨g1 + 1, 1, none⟩ = some (.slice b' m' r') := HY.out.cell_at rfl
  go_enter Try.func13, Try.ntmps13
  go_upto_region 1 with fail
  rw [← HW.out, ← HG.out]
  by_cases hs : t.sp = u.sp
  · have HS := Lib.hid (decide_eq_true hs)
    by_cases hc : t.co = u.co
    · have HC := Lib.hid (decide_eq_true hc)
      have HZ := Lib.hid (show z = decide (fa = fb) by
        rw [HZ0.out, HFA.out, HFB.out]
        by_cases h5 : t.firm = u.firm
        · rw [decide_eq_true h5, decide_eq_true (Tx.t_ext.2 ⟨hs, hc, h5⟩)]
        · rw [decide_eq_false h5, decide_eq_false (fun e => h5 (by rw [e]))])
      clear hs hc
      cases fa <;> cases fb <;>
      · go_wp2_with (first
          | (go_at_call 28; refine (eq_co b m r t.co b' m' r' u.co w2 (HT.out.co.below hb2) (HU.out.co.below hb2)).mono ?_; rw [HC.out]; rintro e w3 ⟨rfl, hb3⟩; have hB3 := hb2.trans (hb3.mono hb2.size); have hX3 := HX.out.under hB3 HX.out.lt; have hY3 := HY.out.under hB3 HY.out.lt; have f4 : w3.cell? ⟨g1, 2, none⟩ = some (.bool _) := hX3.cell_at rfl; have e4 : w3.cell? ⟨g1 + 1, 2, none⟩ = some (.bool _) := hY3.cell_at rfl)
          | (go_at_call 27; refine (eq_sp a n q t.sp a' n' q' u.sp W1 HT.out.sp HU.out.sp).mono ?_; rw [HS.out]; rintro e w2 ⟨rfl, hb2⟩; have hX2 := HX.out.under hb2 HX.out.lt; have hY2 := HY.out.under hb2 HY.out.lt; have f3 : w2.cell? ⟨g1, 1, none⟩ = some (.slice b m r) := hX2.cell_at rfl; have e3 : w2.cell? ⟨g1 + 1, 1, none⟩ = some (.slice b' m' r') := hY2.cell_at rfl))
        go_ret
        exact ⟨by rw [HZ.out]; rfl, hBw.trans (hB3.mono hBw.size)⟩
    · have HC := Lib.hid (decide_eq_false hc)
      obtain rfl : z = false := by rw [HZ0.out, decide_eq_false (fun e => hc (by rw [e]))]
      clear hs hc
      go_wp2_with (first
        | (go_at_call 28; refine (eq_co b m r t.co b' m' r' u.co w2 (HT.out.co.below hb2) (HU.out.co.below hb2)).mono ?_; rw [HC.out]; rintro e w3 ⟨rfl, hb3⟩; have hB3 := hb2.trans (hb3.mono hb2.size); have hX3 := HX.out.under hB3 HX.out.lt; have hY3 := HY.out.under hB3 HY.out.lt; have f4 : w3.cell? ⟨g1, 2, none⟩ = some (.bool _) := hX3.cell_at rfl; have e4 : w3.cell? ⟨g1 + 1, 2, none⟩ = some (.bool _) := hY3.cell_at rfl)
        | (go_at_call 27; refine (eq_sp a n q t.sp a' n' q' u.sp W1 HT.out.sp HU.out.sp).mono ?_; rw [HS.out]; rintro e w2 ⟨rfl, hb2⟩; have hX2 := HX.out.under hb2 HX.out.lt; have hY2 := HY.out.under hb2 HY.out.lt; have f3 : w2.cell? ⟨g1, 1, none⟩ = some (.slice b m r) := hX2.cell_at rfl; have e3 : w2.cell? ⟨g1 + 1, 1, none⟩ = some (.slice b' m' r') := hY2.cell_at rfl))
      go_ret
      exact ⟨rfl, hBw.trans (hB3.mono hBw.size)⟩
  · have HS := Lib.hid (decide_eq_false hs)
    obtain rfl : z = false := by rw [HZ0.out, decide_eq_false (fun e => hs (by rw [e]))]
    clear hs
    go_wp2_with (first
      | (go_at_call 27; refine (eq_sp a n q t.sp a' n' q' u.sp W1 HT.out.sp HU.out.sp).mono ?_; rw [HS.out]; rintro e w2 ⟨rfl, hb2⟩; have hX2 := HX.out.under hb2 HX.out.lt; have hY2 := HY.out.under hb2 HY.out.lt; have f3 : w2.cell? ⟨g1, 1, none⟩ = some (.slice b m r) := hX2.cell_at rfl; have e3 : w2.cell? ⟨g1 + 1, 1, none⟩ = some (.slice b' m' r') := hY2.cell_at rfl))
    go_ret
    exact ⟨rfl, hBw.trans (hb2.mono hBw.size)⟩
set_option maxRecDepth 100000 in
set_option maxHeartbeats 16000000 in
theorem clone_sp (a : Option Addr) (n c : Nat) (L : List Tx.Sp) (w : World) (h : Recs spRec w a n L) (hc : a = none → c = 0) (hn : n ≤ 1000000000) :
    Calls Try.prog 51 #[.slice a n c] w fun e w' => ∃ v, e = .returned v ∧ OwnR spRec 54 w.heap.size w' v L ∧ Below w.heap.size w w' := by
  cases a with
  | none =>
    obtain rfl := hc rfl
    have h0 : n = 0 := by
      rcases Nat.eq_zero_or_pos n with h0 | h0
      · exact h0
      · obtain ⟨s, hs⟩ := h.get h0
        obtain ⟨_, e, _⟩ := h.2.2.2 0 s hs
        cases e
    subst h0
    obtain rfl := List.length_eq_zero_iff.1 h.1
    have hq := Lib.run_eql_slice_nil (P := Try.prog) w 22 54 none 0 0 0 0 Try.underlying22
    go_enter Try.func51, Try.ntmps51
    go_wp2
    go_ret
    exact ⟨_, rfl, OwnR.nil _ _ _ _, Below.refl _ _⟩
  | some x =>
    have HB := Lib.hid ((Below.refl w.heap.size w).alloc (Nat.le_refl _) (.cells #[] 54))
    have HO := Lib.hid (show OwnR spRec 54 w.heap.size (w.alloc (.cells #[] 54)) (.slice (some ⟨w.heap.size, 0, none⟩) 0 0) [] from OwnR.empty (Nat.le_refl _) (Has.fresh _ _ _))
    have HA := Lib.hid (h.past (.cells #[] 54))
    have HN := Lib.hid hn
    have hq := Lib.run_eql_slice_nil (P := Try.prog) w 22 54 (some x) n c 0 0 Try.underlying22
    clear h hn hc
    go_enter Try.func51, Try.ntmps51
    go_wp2_with (at_builtin; refine wpList_append_recs (R := spRec) rfl (.tmp 5) (.tmp 6) 22 rfl 54 Try.underlying22 info_spend rfl (by decide) w.heap.size _ [] rfl HO.out (some x) n c L rfl HA.out (fun e => by cases e) (by have := HN.out; simp; omega) (by simp) ?_; intro v3 w3 ho3 hg3 hl3)
    go_ret
    rw [List.nil_append] at ho3
    exact ⟨_, rfl, ho3, below_own_recs HB.out hg3 HO.out.lt⟩
set_option maxRecDepth 100000 in
set_option maxHeartbeats 16000000 in
theorem clone_co (a : Option Addr) (n c : Nat) (L : List Tx.Co) (w : World) (h : Recs coRec w a n L) (hc : a = none → c = 0) (hn : n ≤ 1000000000) :
    Calls Try.prog 52 #[.slice a n c] w fun e w' => ∃ v, e = .returned v ∧ OwnR coRec 56 w.heap.size w' v L ∧ Below w.heap.size w w' := by
  cases a with
  | none =>
    obtain rfl := hc rfl
    have h0 : n = 0 := by
      rcases Nat.eq_zero_or_pos n with h0 | h0
      · exact h0
      · obtain ⟨s, hs⟩ := h.get h0
        obtain ⟨_, e, _⟩ := h.2.2.2 0 s hs
        cases e
    subst h0
    obtain rfl := List.length_eq_zero_iff.1 h.1
    have hq := Lib.run_eql_slice_nil (P := Try.prog) w 23 56 none 0 0 0 0 Try.underlying23
    go_enter Try.func52, Try.ntmps52
    go_wp2
    go_ret
    exact ⟨_, rfl, OwnR.nil _ _ _ _, Below.refl _ _⟩
  | some x =>
    have HB := Lib.hid ((Below.refl w.heap.size w).alloc (Nat.le_refl _) (.cells #[] 56))
    have HO := Lib.hid (show OwnR coRec 56 w.heap.size (w.alloc (.cells #[] 56)) (.slice (some ⟨w.heap.size, 0, none⟩) 0 0) [] from OwnR.empty (Nat.le_refl _) (Has.fresh _ _ _))
    have HA := Lib.hid (h.past (.cells #[] 56))
    have HN := Lib.hid hn
    have hq := Lib.run_eql_slice_nil (P := Try.prog) w 23 56 (some x) n c 0 0 Try.underlying23
    clear h hn hc
    go_enter Try.func52, Try.ntmps52
    go_wp2_with (at_builtin; refine wpList_append_recs (R := coRec) rfl (.tmp 5) (.tmp 6) 23 rfl 56 Try.underlying23 info_coin rfl (by decide) w.heap.size _ [] rfl HO.out (some x) n c L rfl HA.out (fun e => by cases e) (by have := HN.out; simp; omega) (by simp) ?_; intro v3 w3 ho3 hg3 hl3)
    go_ret
    rw [List.nil_append] at ho3
    exact ⟨_, rfl, ho3, below_own_recs HB.out hg3 HO.out.lt⟩
set_option maxRecDepth 100000 in
set_option maxHeartbeats 16000000 in
theorem pcopy_any (a : Option Addr) (n q : Nat) (b : Option Addr) (m r : Nat) (t : Tx.T) (f : Bool) (hf : f = t.firm) (w : World) (ht : TxAt w a n q b m r t) (hn : n ≤ 1000000000) (hm : m ≤ 1000000000) :
    Calls Try.prog 20 #[txv a n q b m r f] w (CopyPost n m t w) := by
  have HF := Lib.hid hf
  obtain ⟨W1, hW1⟩ : ∃ x, x = (w.alloc (.cells #[.slice a n q, .slice b m r, .bool f] 25)).alloc (.cells zTx 25) := ⟨_, rfl⟩
  have hBw : Below w.heap.size w W1 := by
    rw [hW1]
    exact ((Below.refl _ w).alloc (Nat.le_refl _) _).alloc (by simp) _
  have hX : Has W1 w.heap.size 25 #[.slice a n q, .slice b m r, .bool f] := by rw [hW1]; exact (Has.fresh w _ _).past _
  have hR : Has W1 (w.heap.size + 1) 25 zTx := by rw [hW1]; exact Has.fresh_at _ _ _ (by simp)
  have HW := Lib.hid hW1
  have HN := Lib.hid (And.intro hn hm)
  clear hW1 hf hn hm
  go_enter Try.func20, Try.ntmps20
  go_upto_region 1 with fail
  rw [← HW.out]
  obtain ⟨g1, hg1⟩ : ∃ g, g = w.heap.size := ⟨_, rfl⟩
  have HG := Lib.hid hg1
  rw [← hg1] at hX hR ⊢
  clear hg1
  obtain ⟨ws, hws⟩ : ∃ x, x = W1.drew := ⟨_, rfl⟩
  have hbs : Below W1.heap.size W1 ws := by rw [hws]; exact (Below.refl _ _).drew
  have HXs := Lib.hid (hX.under hbs hX.lt)
  have HRs := Lib.hid (hR.under hbs hR.lt)
  have hBs := hBw.trans (hbs.mono hBw.size)
  have HTs := Lib.hid (ht.below hBs)
  refine wp_region_held_drew (S := HeldM (fun k => k = g1 + 1) ws) (by kernel_rfl) (by rw [hws]; exact HeldM.refl _ _) (fun hHeld => ?_)
  rw [← hws] at hHeld ⊢
  clear hws hbs hX hR ht
  refine take_at (v := ?_) 0 3 rfl rfl (by kernel_rfl) (by kernel_rfl) (by kernel_rfl) (fun _ _ _ h => h) hHeld (Or.inl ⟨by rfl, ?_⟩) rfl ?_
  rotate_left
  · intro wq hSw
    go_simp
    try with_reducible rfl
  simp only [List.set_cons_zero, List.set_cons_succ]
  refine take_at (v := ?_) 1 4 rfl rfl (by kernel_rfl) (by kernel_rfl) (by kernel_rfl) (fun _ _ _ h => h) hHeld (Or.inl ⟨by rfl, ?_⟩) rfl ?_
  rotate_left
  · intro wq hSw
    have hst := (HXs.out.moved hSw.out (fun e => absurd e (Nat.ne_of_lt (Nat.lt_succ_self _)))).cell_at (i := 0) rfl
    go_simp
    try with_reducible rfl
  simp only [List.set_cons_zero, List.set_cons_succ]
  refine take_at (v := ?_) 3 6 rfl rfl (by kernel_rfl) (by kernel_rfl) (by kernel_rfl) (fun _ _ _ h => h) hHeld (Or.inl ⟨by rfl, ?_⟩) rfl ?_
  rotate_left
  · intro wq hSw
    go_simp
    try with_reducible rfl
  simp only [List.set_cons_zero, List.set_cons_succ]
  refine take_at (v := ?_) 4 7 rfl rfl (by kernel_rfl) (by kernel_rfl) (by kernel_rfl) (fun _ _ _ h => h) hHeld (Or.inl ⟨by rfl, ?_⟩) rfl ?_
  rotate_left
  · intro wq hSw
    have hst := (HXs.out.moved hSw.out (fun e => absurd e (Nat.ne_of_lt (Nat.lt_succ_self _)))).cell_at (i := 1) rfl
    go_simp
    try with_reducible rfl
  simp only [List.set_cons_zero, List.set_cons_succ]
  refine take_at (v := ?_) 6 9 rfl rfl (by kernel_rfl) (by kernel_rfl) (by kernel_rfl) (fun _ _ _ h => h) hHeld (Or.inl ⟨by rfl, ?_⟩) rfl ?_
  rotate_left
  · intro wq hSw
    go_simp
    try with_reducible rfl
  simp only [List.set_cons_zero, List.set_cons_succ]
  refine take_at (v := ?_) 7 10 rfl rfl (by kernel_rfl) (by kernel_rfl) (by kernel_rfl) (fun _ _ _ h => h) hHeld (Or.inl ⟨by rfl, ?_⟩) rfl ?_
  rotate_left
  · intro wq hSw
    have hst := (HXs.out.moved hSw.out (fun e => absurd e (Nat.ne_of_lt (Nat.lt_succ_self _)))).cell_at (i := 2) rfl
    go_simp
    try with_reducible rfl
  simp only [List.set_cons_zero, List.set_cons_succ]
  refine wpAnyH_ready (rs := [2]) (by kernel_rfl) (by simp) ?_
  refine AllReadyH.cons rfl (fun K hK => ?_) AllReadyH.nil
  go_simp
  go_at_call 51; refine (clone_sp a n q t.sp ws HTs.out.sp HTs.out.q0 HN.out.1).mono ?_; rintro e w2 ⟨v2, rfl, ho2, hb2⟩; obtain ⟨oa, oc, rfl, _, _, _, _⟩ := ho2.shape HTs.out.sp.1
  refine hK.out _ _ (HeldM.of (Moved.of_below hb2)) (fun _ => ?_)
  clear hK K
  try simp only [Act.put, List.setIfInBounds_toArray, List.set_cons_zero, List.set_cons_succ]
  refine heldM_grow (w1 := w2) (Moved.of_below hb2) ?_
  clear hHeld
  have hHeld : HeldM (fun k => k = g1 + 1) w2 w2 := HeldM.refl _ _
  refine wpAnyH_ready (rs := [5]) (by kernel_rfl) (by simp) ?_
  refine AllReadyH.cons rfl (fun K hK => ?_) AllReadyH.nil
  go_simp
  go_at_call 52; refine (clone_co b m r t.co w2 (HTs.out.co.below hb2) HTs.out.r0 HN.out.2).mono ?_; rintro e w3 ⟨v3, rfl, ho3, hb3⟩; obtain ⟨ob, od, rfl, _, _, _, _⟩ := ho3.shape HTs.out.co.1
  refine hK.out _ _ (HeldM.of (Moved.of_below hb3)) (fun _ => ?_)
  clear hK K
  try simp only [Act.put, List.setIfInBounds_toArray, List.set_cons_zero, List.set_cons_succ]
  refine heldM_grow (w1 := w3) (Moved.of_below hb3) ?_
  clear hHeld
  have hHeld : HeldM (fun k => k = g1 + 1) w3 w3 := HeldM.refl _ _
  have hB3 := hb2.trans (hb3.mono hb2.size)
  have hR3 := HRs.out.under hB3 HRs.out.lt
  refine take_at (v := ?_) 8 11 rfl rfl (by kernel_rfl) (by kernel_rfl) (by kernel_rfl) (fun _ _ _ h => h) hHeld (Or.inl ⟨by rfl, ?_⟩) rfl ?_
  rotate_left
  · intro wq hSw
    go_simp
    try with_reducible rfl
  simp only [List.set_cons_zero, List.set_cons_succ]
  refine wpAnyH_ready (rs := [9]) (by kernel_rfl) (by simp) ?_
  refine AllReadyH.cons rfl (fun K hK => ?_) AllReadyH.nil
  refine step_store_row (by rfl) 25 (.tmp 2) (.tmp 11) rfl (g1 + 1) 0 (#[.slice oa n oc, .slice ob m od, .bool f]) (by first | rfl | simp [Act.eval]) (by first | rfl | simp [Act.eval]) (hR3.there 0 3 (Nat.le_refl _)) (by kernel_rfl) (vRec.all_one ⟨oa, n, oc, ob, m, od, ⟨[], [], f⟩⟩) rfl ?_
  obtain ⟨w6, hw6⟩ : ∃ ww, ww = w3.setCells (g1 + 1) 0 (#[.slice oa n oc, .slice ob m od, .bool f]).toList := ⟨_, rfl⟩
  rw [← hw6]
  have hmw6 : Moved (fun k => k = g1 + 1) w3 w6 := by rw [hw6]; exact Moved.putAll (F := fun k => k = g1 + 1) (.inl rfl) _ 0 (Moved.refl _ _)
  refine hK.out _ _ (HeldM.of hmw6) (fun _ => ?_)
  clear hK K
  refine heldM_grow (w1 := w6) hmw6 ?_
  clear hHeld
  have hHeld : HeldM (fun k => k = g1 + 1) w6 w6 := HeldM.refl _ _
  refine wpAnyH_done (by kernel_rfl) ?_ _
  go_wp2
  have hw7 : w6 = w3.setCells (g1 + 1) 0 [.slice oa n oc, .slice ob m od, .bool f] := hw6
  rw [← hw7]
  have hR6 : Has w6 (g1 + 1) 25 #[.slice oa n oc, .slice ob m od, .bool f] := by rw [hw6]; exact hR3.whole_cs rfl
  have hM6 : Moved (fun k => k = g1 + 1) w3 w6 := by rw [hw6]; exact Moved.putAll (F := fun k => k = g1 + 1) (.inl rfl) _ 0 (Moved.refl _ _)
  have hlt := HRs.out.lt
  have ho6 := (ho2.below hb3).moved hM6 (fun k hk e => by have := ho2.lt k hk; omega)
  have hc6 := ho3.moved hM6 (fun k hk e => by have := ho3.lt k hk; have := hb2.size; omega)
  have hBB := hBs.trans (hB3.mono hBs.size)
  refine bodyPost_ret (results_one_cell rfl _ _ (g1 + 1) rfl _ (hR6.load_var Try.underlying25 rfl (by kernel_rfl))) rfl ⟨oa, oc, ob, od, by rw [HF.out], ⟨ho6.low hBs.size, hc6.low (Nat.le_trans hBs.size hb2.size)⟩, ?_⟩
  rw [hw6]
  exact below_setAll (by have := HG.out; omega) _ 0 hBB
theorem txOk : TxOk where
  al := {
    check := fun a n q b m r t w ht hs => pcheck_any a n q b m r t t.firm w ht (by have := hs.2.1; have := ht.co.1; omega)
    base := fun a n q b m r t w ht hs => (pbase_any a n q b m r t t.firm rfl w ht hs).mono (fun e w' h => by
      obtain ⟨v, rfl, ho, hb⟩ := h
      obtain ⟨x, c, rfl, hc, h0, hB⟩ := ho.shape rfl
      exact ⟨x, _, c, rfl, hB, hc, h0, hb⟩)
    bytes := fun a n q b m r t w ht hs => (pbytes_any a n q b m r t t.firm rfl w ht hs).mono (fun e w' h => by
      obtain ⟨v, rfl, ho, hb⟩ := h
      obtain ⟨x, c, rfl, hc, h0, hB⟩ := ho.shape rfl
      exact ⟨x, _, c, rfl, hB, hc, h0, hb⟩)
    weight := fun a n q b m r t w ht hs => pweight_any a n q b m r t t.firm rfl w ht hs }
  out := fun a n q b m r t w ht hs => pout_any a n q b m r t t.firm w ht (by have := hs.2.1; have := ht.co.1; omega)
  same := fun a n q b m r t a' n' q' b' m' r' u w ht hu _ _ => psame_any a n q b m r t a' n' q' b' m' r' u t.firm u.firm rfl rfl w ht hu
  copy := fun a n q b m r t w ht hs => pcopy_any a n q b m r t t.firm rfl w ht (by have := hs.1; have := ht.sp.1; omega) (by have := hs.2.1; have := ht.co.1; omega)
end Go.Proofs.Ytpbijcchdjppmaa

/-! TxReads: the law, its walk (mktxlr.py) -/
namespace Go.Proofs.Ytpbijcchdjppmaa
open Go Go.RowKit Go.ChangeShapes Go.WideShapes
set_option maxRecDepth 100000 in
set_option maxHeartbeats 16000000 in
theorem readsMain (xa : Option Addr) (n c : Nat) (l : List (BitVec 8)) (W : World) (h : Bytes8 W xa n l) (hnc : n ≤ c) (h0 : xa = none → c = 0) :
    Calls Try.prog 4 #[.slice xa n c] W fun e w' => e = .returned (.bool true) ∧ Below W.heap.size W w' := by
  have HH := Lib.hid h
  have HC := Lib.hid (And.intro hnc (And.intro h0 h.1))
  have hmx : n ≤ 9223372036854775807 := h.2.1
  clear h hnc h0
  go_enter Try.func4, Try.ntmps4
  go_upto_region 3 with (go_at_call 6; refine (alive10 txOk.al W).mono ?_; rintro e w2 ⟨rfl, hb2⟩)
  by_cases hbig : (2000 : Int) < (n : Int)
  · go_wp2
    go_ret
    exact ⟨rfl, hb2⟩
  · have HN := Lib.hid (show n ≤ 2000 by omega)
    have HOE := Lib.hid (show OwnB 5 w2.heap.size (w2.alloc (.cells #[] 5)) (.slice (some ⟨w2.heap.size, 0, none⟩) 0 0) [] from OwnB.empty (Nat.le_refl _) (Has.fresh _ _ _))
    have hbe : Below w2.heap.size w2 (w2.alloc (.cells #[] 5)) := (Below.refl _ _).alloc (Nat.le_refl _) _
    have HA2 := Lib.hid ((HH.out.below hb2).past (.cells #[] 5))
    go_upto_region 6 with (at_builtin; refine wpList_append_bytes rfl (.tmp 13) (.tmp 14) 38 rfl 5 Try.underlying38 info_byte w2.heap.size _ _ rfl HOE.out xa n c _ rfl HA2.out HC.out.2.1 (by have := HN.out; simp; omega) (by simp) ?_; intro vo w3 ho3 hg3)
    rw [List.nil_append] at ho3
    have hb3 := below_own_rowb hbe hg3 HOE.out.lt
    have hT3 := hb2.trans (hb3.mono hb2.size)
    obtain ⟨xo, co, rfl, hco, h0o, hyo⟩ := ho3.shape HC.out.2.2
    clear ho3 hg3 HOE HA2 hbe hb3
    have HLN := Lib.hid (show l.length ≤ 1000000 by have := HN.out; have := HC.out.2.2; omega)
    obtain ⟨T, hT⟩ : ∃ T, T = Tx.rdV l := ⟨_, rfl⟩
    have HTV := Lib.hid hT
    clear hT
    by_cases hok : Tx.rdOk l
    · have HOK := Lib.hid hok
      clear hok
      go_upto_region 7 with (go_at_call 15; refine (pread_any xo n co l w3 hyo h0o HLN.out).mono ?_; rintro e w4 ⟨a4, n4, q4, b4, m4, r4, rfl, hown4, hb4⟩; rw [if_pos HOK.out]; rw [← HTV.out] at hown4 ⊢)
      obtain ⟨w5, hw5⟩ : ∃ x, x = w4.alloc (.cells #[.slice a4 n4 q4, .slice b4 m4 r4, .bool T.firm] 25) := ⟨_, rfl⟩
      have hb5 : Below w4.heap.size w4 w5 := by rw [hw5]; exact (Below.refl _ _).alloc (Nat.le_refl _) _
      have h4 : Has w5 w4.heap.size 25 #[.slice a4 n4 q4, .slice b4 m4 r4, .bool T.firm] := by rw [hw5]; exact Has.fresh _ _ _
      rw [← hw5]
      obtain ⟨g4, hg4⟩ : ∃ g, g = w4.heap.size := ⟨_, rfl⟩
      rw [← hg4]
      rw [← hg4] at h4
      clear hw5 hg4
      have h35 := hb4.trans (hb5.mono hb4.size)
      have hT5 := hT3.trans (h35.mono hT3.size)
      have HT4 := Lib.hid (hown4.at.below hb5)
      have HYO := Lib.hid (hyo.below h35)
      clear hb4 hb5 hown4 hyo h35
      go_upto_region 8 with (go_at_call 16; refine (rread_any xa n c l w5 (HH.out.below hT5) HC.out.1 HC.out.2.1 HLN.out).mono ?_; rintro e w6 ⟨a6, n6, q6, b6, m6, r6, rfl, hown6, hb6⟩; rw [decide_eq_true HOK.out]; rw [← HTV.out] at hown6 ⊢)
      obtain ⟨w7, hw7⟩ : ∃ x, x = w6.alloc (.cells #[.slice a6 n6 q6, .slice b6 m6 r6, .bool T.firm] 25) := ⟨_, rfl⟩
      have hb7 : Below w6.heap.size w6 w7 := by rw [hw7]; exact (Below.refl _ _).alloc (Nat.le_refl _) _
      have h6 : Has w7 w6.heap.size 25 #[.slice a6 n6 q6, .slice b6 m6 r6, .bool T.firm] := by rw [hw7]; exact Has.fresh _ _ _
      rw [← hw7]
      obtain ⟨g6, hg6⟩ : ∃ g, g = w6.heap.size := ⟨_, rfl⟩
      rw [← hg6]
      rw [← hg6] at h6
      clear hw7 hg6
      have h57 := hb6.trans (hb7.mono hb6.size)
      have hT7 := hT5.trans (h57.mono hT5.size)
      have HT6 := Lib.hid (hown6.at.below hb7)
      replace HT4 := Lib.hid (HT4.out.below h57)
      replace HYO := Lib.hid (HYO.out.below h57)
      have H4 := Lib.hid (h4.under h57 h4.lt)
      have H6 := Lib.hid h6
      have HYB := Lib.hid (HH.out.below hT7)
      clear hb6 hb7 hown6 h57 h4 h6
      have c40 : w7.cell? ⟨g4, 0, none⟩ = some (.slice a4 n4 q4) := H4.out.cell_at rfl
      have c41 : w7.cell? ⟨g4, 1, none⟩ = some (.slice b4 m4 r4) := H4.out.cell_at rfl
      have c42 : w7.cell? ⟨g4, 2, none⟩ = some (.bool T.firm) := H4.out.cell_at rfl
      have c60 : w7.cell? ⟨g6, 0, none⟩ = some (.slice a6 n6 q6) := H6.out.cell_at rfl
      have c61 : w7.cell? ⟨g6, 1, none⟩ = some (.slice b6 m6 r6) := H6.out.cell_at rfl
      have c62 : w7.cell? ⟨g6, 2, none⟩ = some (.bool T.firm) := H6.out.cell_at rfl
      go_upto_region 10 with (first
        | (go_at_call 14; refine (txeq_any a4 n4 q4 b4 m4 r4 T a6 n6 q6 b6 m6 r6 T w7 HT4.out HT6.out).mono ?_; rw [decide_eq_true rfl]; rintro e w8 ⟨rfl, hb8⟩; have hst1 := run_string (P := Try.prog) 38 9 5 Try.underlying38 Try.underlying5 Try.underlying9 (c := co) (HYO.out.below hb8); have hst2 := run_string (P := Try.prog) 38 9 5 Try.underlying38 Try.underlying5 Try.underlying9 (c := c) (HYB.out.below hb8)))
      clear hst1 hst2 c40 c41 c42 c60 c61 c62
      have hT8 := hT7.trans (hb8.mono hT7.size)
      obtain ⟨wd, hwd⟩ : ∃ x, x = w8.drew := ⟨_, rfl⟩
      have hbd : Below w8.heap.size w8 wd := by rw [hwd]; exact (Below.refl _ _).drew
      have h7d := hb8.trans (hbd.mono hb8.size)
      have hTd := hT8.trans (hbd.mono hT8.size)
      have HER := Lib.hid (Tx.enc_read l HOK.out)
      have HRT := Lib.hid (show T = Tx.rdT l by rw [HTV.out, Tx.rdV, if_pos HOK.out])
      have HSM := Lib.hid (show Tx.Small T by
        rw [HRT.out]
        refine ⟨by have := HER.out.2.1; omega, by have := HER.out.2.2.1; omega, fun s hs => ?_⟩
        have := (HER.out.2.2.2.1 s hs).2.2.2
        omega)
      have HEN := Lib.hid (show Tx.enc true T = l by rw [HRT.out]; exact HER.out.1)
      have lX := fun (wq : World) (hb : Below wd.heap.size wd wq) => (((H4.out.under h7d H4.out.lt)).under hb (H4.out.under h7d H4.out.lt).lt).load_agg (P := Try.prog) (t := 25) Try.underlying25 rfl (by kernel_rfl)
      have HLX := Lib.hid lX
      clear lX
      refine wp_region_held_drew (S := Held wd) (by kernel_rfl) (by rw [hwd]; exact Held.refl _) (fun hHeld => ?_)
      rw [← hwd] at hHeld ⊢
      clear hwd
      refine take_at (v := ?_) 0 52 rfl rfl (by kernel_rfl) (by kernel_rfl) (by kernel_rfl) (fun _ _ _ h => h) hHeld (Or.inl ⟨by rfl, ?_⟩) rfl ?_
      rotate_left
      · intro wq hSw
        go_simp
        try with_reducible rfl
      simp only [List.set_cons_zero, List.set_cons_succ]
      refine take_at (v := ?_) 1 53 rfl rfl (by kernel_rfl) (by kernel_rfl) (by kernel_rfl) (fun _ _ _ h => h) hHeld (Or.inl ⟨by rfl, ?_⟩) rfl ?_
      rotate_left
      · intro wq hSw
        go_simp
        try with_reducible rfl
      simp only [List.set_cons_zero, List.set_cons_succ]
      refine take_at (v := ?_) 2 54 rfl rfl (by kernel_rfl) (by kernel_rfl) (by kernel_rfl) (fun _ _ _ h => h) hHeld (Or.inl ⟨by rfl, ?_⟩) rfl ?_
      rotate_left
      · intro wq hSw
        go_simp
        try with_reducible rfl
      simp only [List.set_cons_zero, List.set_cons_succ]
      refine take_at 3 55 rfl rfl (by kernel_rfl) (by kernel_rfl) (by kernel_rfl) (fun _ _ _ h => h) hHeld (yieldsIf_load_agg (by rfl) 25 (.tmp 4) rfl _ _ (by rfl) (fun wq hSw => HLX.out wq hSw)) rfl ?_
      simp only [List.set_cons_zero, List.set_cons_succ]
      refine take_at (v := ?_) 6 58 rfl rfl (by kernel_rfl) (by kernel_rfl) (by kernel_rfl) (fun _ _ _ h => h) hHeld (Or.inl ⟨by rfl, ?_⟩) rfl ?_
      rotate_left
      · intro wq hSw
        go_simp
        try with_reducible rfl
      simp only [List.set_cons_zero, List.set_cons_succ]
      refine take_at (v := ?_) 7 59 rfl rfl (by kernel_rfl) (by kernel_rfl) (by kernel_rfl) (fun _ _ _ h => h) hHeld (Or.inl ⟨by rfl, ?_⟩) rfl ?_
      rotate_left
      · intro wq hSw
        have hst := run_string (P := Try.prog) 38 9 5 Try.underlying38 Try.underlying5 Try.underlying9 (c := c) ((HYB.out.below h7d).below hSw)
        go_simp
        try with_reducible rfl
      simp only [List.set_cons_zero, List.set_cons_succ]
      refine wpAnyH_ready (rs := [4]) (by kernel_rfl) (by simp) ?_
      refine AllReadyH.cons rfl (fun K hK => ?_) AllReadyH.nil
      go_simp
      go_at_call 18; refine (pbytes_any a4 n4 q4 b4 m4 r4 T T.firm rfl wd (HT4.out.below h7d) HSM.out).mono ?_; rw [HEN.out]; rintro e k1 ⟨v1, rfl, ho1, hk1⟩; obtain ⟨x1, c1, rfl, hc1, h01, hy1⟩ := ho1.shape HC.out.2.2
      refine hK.out _ _ (Held.of hk1) (fun _ => ?_)
      clear hK K
      try simp only [Act.put, List.setIfInBounds_toArray, List.set_cons_zero, List.set_cons_succ]
      refine held_grow (w1 := k1) (Held.of hk1) ?_
      clear hHeld
      have hHeld : Held k1 k1 := Held.refl _
      refine take_at (v := ?_) 5 57 rfl rfl (by kernel_rfl) (by kernel_rfl) (by kernel_rfl) (fun _ _ _ h => h) hHeld (Or.inl ⟨by rfl, ?_⟩) rfl ?_
      rotate_left
      · intro wq hSw
        have hst := run_string (P := Try.prog) 38 9 5 Try.underlying38 Try.underlying5 Try.underlying9 (c := c1) (hy1.below hSw)
        go_simp
        try with_reducible rfl
      simp only [List.set_cons_zero, List.set_cons_succ]
      refine take_at (v := .bool true) 8 60 rfl rfl (by kernel_rfl) (by kernel_rfl) (by kernel_rfl) (fun _ _ _ h => h) hHeld (Or.inl ⟨by rfl, ?_⟩) rfl ?_
      · intro wq hSw
        go_simp
        skip
      simp only [List.set_cons_zero, List.set_cons_succ]
      refine take_at (v := ?_) 9 61 rfl rfl (by kernel_rfl) (by kernel_rfl) (by kernel_rfl) (fun _ _ _ h => h) hHeld (Or.inl ⟨by rfl, ?_⟩) rfl ?_
      rotate_left
      · intro wq hSw
        go_simp
        try with_reducible rfl
      simp only [List.set_cons_zero, List.set_cons_succ]
      refine take_at (v := ?_) 10 2 rfl rfl (by kernel_rfl) (by kernel_rfl) (by kernel_rfl) (fun _ _ _ h => h) hHeld (Or.inl ⟨by rfl, ?_⟩) rfl ?_
      rotate_left
      · intro wq hSw
        go_simp
        try with_reducible rfl
      simp only [List.set_cons_zero, List.set_cons_succ]
      refine wpAnyH_done (by kernel_rfl) ?_ _
      go_wp2
      go_ret
      exact ⟨rfl, hTd.trans (hk1.mono hTd.size)⟩
    · have HOK := Lib.hid hok
      clear hok
      go_upto_region 7 with (go_at_call 15; refine (pread_any xo n co l w3 hyo h0o HLN.out).mono ?_; rintro e w4 ⟨a4, n4, q4, b4, m4, r4, rfl, hown4, hb4⟩; rw [if_neg HOK.out]; rw [← HTV.out] at hown4 ⊢)
      obtain ⟨w5, hw5⟩ : ∃ x, x = w4.alloc (.cells #[.slice a4 n4 q4, .slice b4 m4 r4, .bool T.firm] 25) := ⟨_, rfl⟩
      have hb5 : Below w4.heap.size w4 w5 := by rw [hw5]; exact (Below.refl _ _).alloc (Nat.le_refl _) _
      have h4 : Has w5 w4.heap.size 25 #[.slice a4 n4 q4, .slice b4 m4 r4, .bool T.firm] := by rw [hw5]; exact Has.fresh _ _ _
      rw [← hw5]
      obtain ⟨g4, hg4⟩ : ∃ g, g = w4.heap.size := ⟨_, rfl⟩
      rw [← hg4]
      rw [← hg4] at h4
      clear hw5 hg4
      have h35 := hb4.trans (hb5.mono hb4.size)
      have hT5 := hT3.trans (h35.mono hT3.size)
      have HT4 := Lib.hid (hown4.at.below hb5)
      have HYO := Lib.hid (hyo.below h35)
      clear hb4 hb5 hown4 hyo h35
      go_upto_region 8 with (go_at_call 16; refine (rread_any xa n c l w5 (HH.out.below hT5) HC.out.1 HC.out.2.1 HLN.out).mono ?_; rintro e w6 ⟨a6, n6, q6, b6, m6, r6, rfl, hown6, hb6⟩; rw [decide_eq_false HOK.out]; rw [← HTV.out] at hown6 ⊢)
      obtain ⟨w7, hw7⟩ : ∃ x, x = w6.alloc (.cells #[.slice a6 n6 q6, .slice b6 m6 r6, .bool T.firm] 25) := ⟨_, rfl⟩
      have hb7 : Below w6.heap.size w6 w7 := by rw [hw7]; exact (Below.refl _ _).alloc (Nat.le_refl _) _
      have h6 : Has w7 w6.heap.size 25 #[.slice a6 n6 q6, .slice b6 m6 r6, .bool T.firm] := by rw [hw7]; exact Has.fresh _ _ _
      rw [← hw7]
      obtain ⟨g6, hg6⟩ : ∃ g, g = w6.heap.size := ⟨_, rfl⟩
      rw [← hg6]
      rw [← hg6] at h6
      clear hw7 hg6
      have h57 := hb6.trans (hb7.mono hb6.size)
      have hT7 := hT5.trans (h57.mono hT5.size)
      have HT6 := Lib.hid (hown6.at.below hb7)
      replace HT4 := Lib.hid (HT4.out.below h57)
      replace HYO := Lib.hid (HYO.out.below h57)
      have H4 := Lib.hid (h4.under h57 h4.lt)
      have H6 := Lib.hid h6
      have HYB := Lib.hid (HH.out.below hT7)
      clear hb6 hb7 hown6 h57 h4 h6
      have c40 : w7.cell? ⟨g4, 0, none⟩ = some (.slice a4 n4 q4) := H4.out.cell_at rfl
      have c41 : w7.cell? ⟨g4, 1, none⟩ = some (.slice b4 m4 r4) := H4.out.cell_at rfl
      have c42 : w7.cell? ⟨g4, 2, none⟩ = some (.bool T.firm) := H4.out.cell_at rfl
      have c60 : w7.cell? ⟨g6, 0, none⟩ = some (.slice a6 n6 q6) := H6.out.cell_at rfl
      have c61 : w7.cell? ⟨g6, 1, none⟩ = some (.slice b6 m6 r6) := H6.out.cell_at rfl
      have c62 : w7.cell? ⟨g6, 2, none⟩ = some (.bool T.firm) := H6.out.cell_at rfl
      go_upto_region 10 with (first
        | (go_at_call 14; refine (txeq_any a4 n4 q4 b4 m4 r4 T a6 n6 q6 b6 m6 r6 T w7 HT4.out HT6.out).mono ?_; rw [decide_eq_true rfl]; rintro e w8 ⟨rfl, hb8⟩; have hst1 := run_string (P := Try.prog) 38 9 5 Try.underlying38 Try.underlying5 Try.underlying9 (c := co) (HYO.out.below hb8); have hst2 := run_string (P := Try.prog) 38 9 5 Try.underlying38 Try.underlying5 Try.underlying9 (c := c) (HYB.out.below hb8))
        | (go_at_call 17; refine (is_erro 2 rfl _).mono ?_; rintro e wq ⟨rfl, rfl⟩))
      clear hst1 hst2 c40 c41 c42 c60 c61 c62
      have hT8 := hT7.trans (hb8.mono hT7.size)
      obtain ⟨wd, hwd⟩ : ∃ x, x = w8.drew := ⟨_, rfl⟩
      have hbd : Below w8.heap.size w8 wd := by rw [hwd]; exact (Below.refl _ _).drew
      have h7d := hb8.trans (hbd.mono hb8.size)
      have hTd := hT8.trans (hbd.mono hT8.size)
      refine wp_region_held_drew (S := Held wd) (by kernel_rfl) (by rw [hwd]; exact Held.refl _) (fun hHeld => ?_)
      rw [← hwd] at hHeld ⊢
      clear hwd
      refine take_at (v := ?_) 0 52 rfl rfl (by kernel_rfl) (by kernel_rfl) (by kernel_rfl) (fun _ _ _ h => h) hHeld (Or.inl ⟨by rfl, ?_⟩) rfl ?_
      rotate_left
      · intro wq hSw
        go_simp
        try with_reducible rfl
      simp only [List.set_cons_zero, List.set_cons_succ]
      refine take_at (v := ?_) 1 53 rfl rfl (by kernel_rfl) (by kernel_rfl) (by kernel_rfl) (fun _ _ _ h => h) hHeld (Or.inl ⟨by rfl, ?_⟩) rfl ?_
      rotate_left
      · intro wq hSw
        go_simp
        try with_reducible rfl
      simp only [List.set_cons_zero, List.set_cons_succ]
      refine take_at (v := ?_) 2 54 rfl rfl (by kernel_rfl) (by kernel_rfl) (by kernel_rfl) (fun _ _ _ h => h) hHeld (Or.inl ⟨by rfl, ?_⟩) rfl ?_
      rotate_left
      · intro wq hSw
        go_simp
        try with_reducible rfl
      simp only [List.set_cons_zero, List.set_cons_succ]
      refine take_at (v := undef) 3 55 rfl rfl (by kernel_rfl) (by kernel_rfl) (by kernel_rfl) (fun _ _ _ h => h) hHeld (Or.inr ⟨by rfl, rfl⟩) rfl ?_
      simp only [List.set_cons_zero, List.set_cons_succ]
      refine take_at (v := undef) 4 56 rfl rfl (by kernel_rfl) (by kernel_rfl) (by kernel_rfl) (fun _ _ _ h => h) hHeld (Or.inr ⟨by rfl, rfl⟩) rfl ?_
      simp only [List.set_cons_zero, List.set_cons_succ]
      refine take_at (v := undef) 5 57 rfl rfl (by kernel_rfl) (by kernel_rfl) (by kernel_rfl) (fun _ _ _ h => h) hHeld (Or.inr ⟨by rfl, rfl⟩) rfl ?_
      simp only [List.set_cons_zero, List.set_cons_succ]
      refine take_at (v := undef) 6 58 rfl rfl (by kernel_rfl) (by kernel_rfl) (by kernel_rfl) (fun _ _ _ h => h) hHeld (Or.inr ⟨by rfl, rfl⟩) rfl ?_
      simp only [List.set_cons_zero, List.set_cons_succ]
      refine take_at (v := undef) 7 59 rfl rfl (by kernel_rfl) (by kernel_rfl) (by kernel_rfl) (fun _ _ _ h => h) hHeld (Or.inr ⟨by rfl, rfl⟩) rfl ?_
      simp only [List.set_cons_zero, List.set_cons_succ]
      refine take_at (v := undef) 8 60 rfl rfl (by kernel_rfl) (by kernel_rfl) (by kernel_rfl) (fun _ _ _ h => h) hHeld (Or.inr ⟨by rfl, rfl⟩) rfl ?_
      simp only [List.set_cons_zero, List.set_cons_succ]
      refine take_at (v := ?_) 9 61 rfl rfl (by kernel_rfl) (by kernel_rfl) (by kernel_rfl) (fun _ _ _ h => h) hHeld (Or.inl ⟨by rfl, ?_⟩) rfl ?_
      rotate_left
      · intro wq hSw
        go_simp
        try with_reducible rfl
      simp only [List.set_cons_zero, List.set_cons_succ]
      refine take_at (v := ?_) 10 2 rfl rfl (by kernel_rfl) (by kernel_rfl) (by kernel_rfl) (fun _ _ _ h => h) hHeld (Or.inl ⟨by rfl, ?_⟩) rfl ?_
      rotate_left
      · intro wq hSw
        go_simp
        try with_reducible rfl
      simp only [List.set_cons_zero, List.set_cons_succ]
      refine wpAnyH_done (by kernel_rfl) ?_ _
      go_wp2
      go_ret
      exact ⟨rfl, hTd⟩
set_option maxRecDepth 100000 in
theorem txReadsWalk {H : Type} {enc : TypeId × Value → H} (W : World) (base : Nat) (v0 : Value) (d0 : DataW H) (p0 : List MemPlace)
    (o0 : Value.okWide Try.prog W .any base 38 v0) (h0 : DataW.Trod enc Try.prog W 0 (fun _ => true) true 38 v0 d0 p0) :
    Calls Try.prog 4 #[v0] W fun e w' => e = .returned (.bool true) ∧ Below W.heap.size W w' := by
  obtain ⟨xa, n, c, l, rfl, hw, hnc, hc0⟩ := arg_bytes Try.underlying38 Try.underlying5 (by kernel_rfl) o0 h0
  exact readsMain xa n c l W hw hnc hc0
end Go.Proofs.Ytpbijcchdjppmaa
