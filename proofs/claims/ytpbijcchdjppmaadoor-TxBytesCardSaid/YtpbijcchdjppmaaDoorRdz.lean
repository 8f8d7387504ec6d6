/- (mkrd.py)  the reference's ReadNum · (mkrd.py)  the reference's ReadNum: a number that is there · (mkrd.py)  the reference's ReadNum: whatever is read · (mkrd.py)  the reference's ReadCount, ReadText, ReadHash · (mkrd.py)  the reference's ReadText, ReadHash · (mkrd.py)  the reference's ReadHash (mkpkw.py) · a spend that is built field by field; a reader beside other blocks; words as ints: for the reference's Read · A slice literal of one record. Nothing of the program. · what is left of a reader while a transaction is read; the reader beside other blocks · package tx: a spend, a coin read (mktxf.py) · package tx: Read (mktxfr.py) -/
import Derived.Test.YtpbijcchdjppmaaDoorPkT
import Derived.Test.YtpbijcchdjppmaaDoorPkE
import Derived.Test.YtpbijcchdjppmaaDoorLz
import Derived.Test.YtpbijcchdjppmaaDoorPkF
import Derived.Deep.RegionLaw
import Derived.Deep.RegionHeld3
import Derived.Test.YtpbijcchdjppmaaDoorPkL
import Derived.Test.YtpbijcchdjppmaaDoorTxP
import Derived.Test.YtpbijcchdjppmaaDoorTxA
import Derived.Test.YtpbijcchdjppmaaDoorTxC
/-! (mkrd.py)  the reference's ReadNum -/
namespace Go.Proofs.YtpbijcchdjppmaaDoor.RdS
open Go Go.RowKit Go.ChangeShapes Go.WideShapes
/-- a reader as a value -/
def InS (S : Nat → Prop) (W : World) (s : Pk.Rd) (v : Value) : Prop := match s with
  | none => v = .agg #[.slice none 0 0, .bool true]
  | some B => ∃ a n c, v = .agg #[.slice a n c, .bool false] ∧ Bytes8 W a n B ∧ n ≤ c ∧ (a = none → c = 0) ∧ ∀ x, a = some x → S x.block
theorem InS.below {S : Nat → Prop} {W W' : World} {s : Pk.Rd} {v : Value} (h : InS S W s v) (hb : Below W.heap.size W W') : InS S W' s v := by
  cases s with
  | none => exact h
  | some B =>
    obtain ⟨a, n, c, h1, h2, h3⟩ := h
    exact ⟨a, n, c, h1, h2.below hb, h3⟩
theorem results_cell_tmp {P : Program} {fn : Func} {p q : Tmp} {ty : TypeId} (h : fn.results = #[.cell p ty, .tmp q]) (tmps : Array Value) (w : World) (g : Nat) (hp : tmps.getD p undef = .pointer (some ⟨g, 0, none⟩))
    (v u : Value) (hq : tmps.getD q undef = u) (hv : (loadVar ty ⟨g, 0, none⟩).run P w = .ok v w) : (results fn tmps).run P w = .ok (.tuple #[v, u]) w := by
  rw [Array.getD_eq_getD_getElem?] at hp hq
  simp only [results, h]
  simp [hp, hq, hv, asAddr]
def wrongV : Value := .agg #[.slice none 0 0, .bool true]
theorem in_one (v b : Value) (hv : v.oneCell' = true) (hb : b.oneCell' = true) : (#[v, b] : Array Value).all (·.oneCell') = true := by simp [hv, hb]
end Go.Proofs.YtpbijcchdjppmaaDoor.RdS

/-! (mkrd.py)  the reference's ReadNum: a number that is there -/
namespace Go.Proofs.YtpbijcchdjppmaaDoor.RdS
open Go Go.RowKit Go.ChangeShapes Go.WideShapes
theorem cb_from (l : List (BitVec 8)) (i j : Nat) : cb (l.drop i) j = cb l (i + j) := by
  unfold cb
  rw [List.getD_eq_getElem?_getD, List.getD_eq_getElem?_getD, List.getElem?_drop]
theorem bytes_from {w : World} {x : Addr} {n : Nat} {l : List (BitVec 8)} (h : Bytes8 w (some x) n l) (k : Nat) : Bytes8 w (some (x.add k)) (n - k) (l.drop k) := by
  refine ⟨by rw [List.length_drop, h.1], by have := h.2.1; omega, fun i hi => ?_⟩
  obtain ⟨y, hy, hc⟩ := h.2.2 (k + i) (by omega)
  cases hy
  exact ⟨_, rfl, by rw [cb_from, ← hc, Addr.add_add]⟩
theorem bytes_from_none {w : World} {n : Nat} {l : List (BitVec 8)} (h : Bytes8 w none n l) (k : Nat) : Bytes8 w none 0 (l.drop k) := by
  have h0 : n = 0 := by
    rcases Nat.eq_zero_or_pos n with h0 | h0
    · exact h0
    · obtain ⟨x, hx, _⟩ := h.2.2 0 h0
      cases hx
  refine ⟨by rw [List.length_drop, h.1, h0]; omega, by unfold maxLen; omega, fun i hi => by omega⟩
end Go.Proofs.YtpbijcchdjppmaaDoor.RdS

/-! (mkrd.py)  the reference's ReadNum: whatever is read -/
namespace Go.Proofs.YtpbijcchdjppmaaDoor.RdS
open Go Go.RowKit Go.ChangeShapes Go.WideShapes
def NumPost (S : Nat → Prop) (w0 : World) (p : Pk.Rd × BitVec 64) (e : Ending) (w' : World) : Prop :=
  (∃ v, e = .returned (.tuple #[v, .int .u64 (nb64 p.2)]) ∧ InS S w' p.1 v) ∧ Below w0.heap.size w0 w'
end Go.Proofs.YtpbijcchdjppmaaDoor.RdS

/-! (mkrd.py)  the reference's ReadCount, ReadText, ReadHash -/
namespace Go.Proofs.YtpbijcchdjppmaaDoor.RdS
open Go Go.RowKit Go.ChangeShapes Go.WideShapes
def CountPost (S : Nat → Prop) (w0 : World) (p : Pk.Rd × Int) (e : Ending) (w' : World) : Prop :=
  (∃ v, e = .returned (.tuple #[v, .int .i64 p.2]) ∧ InS S w' p.1 v) ∧ Below w0.heap.size w0 w'
/-- a reader's value: its cells -/
theorem InS.cells {S : Nat → Prop} {W : World} {s : Pk.Rd} {v : Value} (h : InS S W s v) : ∃ a n c b, v = .agg #[.slice a n c, .bool b] ∧ Bytes8 W a n (Pk.left s) ∧ b = s.isNone := by
  cases s with
  | none => exact ⟨_, _, _, _, h, bytes_none W, rfl⟩
  | some B =>
    obtain ⟨a, n, c, h1, h2, _⟩ := h
    exact ⟨a, n, c, false, h1, h2, rfl⟩
theorem InS.cellsH {S : Nat → Prop} {W : World} {s : Pk.Rd} {v : Value} (h : InS S W s v) : ∃ a n c b, v = .agg #[.slice a n c, .bool b] ∧ RowKit.Hid (Bytes8 W a n (Pk.left s) ∧ b = s.isNone) := by
  obtain ⟨a, n, c, b, h1, h2⟩ := h.cells
  exact ⟨a, n, c, b, h1, Lib.hid h2⟩
theorem bytes_apart {w : World} {a : Option Addr} {n g : Nat} {l : List (BitVec 8)} {T : TypeId} {cs : Array Value} (h : Bytes8 w a n l) (hh : Has w g T cs) (hc : ∀ (i : Nat) (z : Int), cs[i]? ≠ some (.int .u8 z)) (h0 : 0 < n) : ∀ x, a = some x → x.block ≠ g := by
  intro x hx e
  obtain ⟨y, hy, hc0⟩ := h.2.2 0 h0
  rw [hx] at hy
  injection hy with hy
  subst hy
  subst e
  have hz : x.add 0 = x := rfl
  rw [hz] at hc0
  unfold Has at hh
  unfold World.cell? at hc0
  rw [hh] at hc0
  dsimp only at hc0
  split at hc0
  · cases hc0
  · exact hc _ _ hc0
theorem in_not_byte (a : Option Addr) (n c : Nat) (b : Bool) : ∀ (i : Nat) (z : Int), (#[Value.slice a n c, .bool b] : Array Value)[i]? ≠ some (.int .u8 z) := fun i z e => by
  match i, e with
  | 0, e => cases e
  | 1, e => cases e
  | i + 2, e => simp at e
theorem InS.aside {S : Nat → Prop} {w w' : World} {g : Nat} {s : Pk.Rd} {v : Value} {T : TypeId} {a : Option Addr} {n c : Nat} {b : Bool} {F : Nat → Prop} (h : InS S w s v) (hh : Has w g T #[.slice a n c, .bool b]) (hm : Moved F w w') (hF : ∀ k, F k → k = g) : InS S w' s v := by
  cases s with
  | none => exact h
  | some B =>
    obtain ⟨a1, n1, c1, h1, h2, h3⟩ := h
    exact ⟨a1, n1, c1, h1, h2.moved hm (fun h0 y e hf => bytes_apart h2 hh (in_not_byte a n c b) h0 y e (hF _ hf)), h3⟩
theorem InS.bool {S : Nat → Prop} {W : World} {s : Pk.Rd} {a : Option Addr} {n c : Nat} {b : Bool} (h : InS S W s (.agg #[.slice a n c, .bool b])) : b = s.isNone := by
  cases s with
  | none =>
    have h' : Value.agg #[.slice a n c, .bool b] = .agg #[.slice none 0 0, .bool true] := h
    simp at h'
    exact h'.2
  | some B =>
    obtain ⟨a1, n1, c1, h1, _⟩ := h
    simp at h1
    exact h1.2
theorem IntKind.u64_most (most : Int) (h0 : 0 ≤ most) (h1 : most < 9223372036854775808) : IntKind.u64.wrap most = most := by
  rw [IntKind.wrap_u64]; omega
theorem IntKind.i64_small (z : Int) (h0 : 0 ≤ z) (h1 : z < 9223372036854775808) : IntKind.i64.wrap z = z := IntWalk.i64_in _ (by omega)
theorem left_rdNum (s : Pk.Rd) (z : Int) : (Pk.left (Pk.rdNum s z).1).length ≤ (Pk.left s).length := by
  cases s with
  | none => exact Nat.le_refl _
  | some B =>
    show (Pk.left ((if Pk.okSize z ∧ z ≤ B.length then _ else _) : Pk.Rd × BitVec 64).1).length ≤ B.length
    split
    · simp [Pk.left]
    · simp [Pk.left]
theorem left_rdMore (p : Pk.Rd × BitVec 64) : (Pk.left (Pk.rdMore p).1).length ≤ (Pk.left p.1).length := by
  unfold Pk.rdMore
  split
  · exact left_rdNum _ _
  · exact Nat.le_refl _
end Go.Proofs.YtpbijcchdjppmaaDoor.RdS

/-! (mkrd.py)  the reference's ReadText, ReadHash -/
namespace Go.Proofs.YtpbijcchdjppmaaDoor.RdS
open Go Go.RowKit Go.ChangeShapes Go.WideShapes
def TextPost (S : Nat → Prop) (w0 : World) (p : Pk.Rd × List (BitVec 8)) (e : Ending) (w' : World) : Prop :=
  (∃ v, e = .returned (.tuple #[v, .string (strB p.2)]) ∧ InS S w' p.1 v) ∧ Below w0.heap.size w0 w'
theorem InS.slice {S : Nat → Prop} {W : World} {B : List (BitVec 8)} {a : Option Addr} {n c : Nat} {b : Bool} (h : InS S W (some B) (.agg #[.slice a n c, .bool b])) : b = false ∧ Bytes8 W a n B ∧ n ≤ c ∧ (a = none → c = 0) ∧ ∀ x, a = some x → S x.block := by
  obtain ⟨a1, n1, c1, h1, h2, h3, h4⟩ := h
  simp at h1
  obtain ⟨⟨rfl, rfl, rfl⟩, rfl⟩ := h1
  exact ⟨rfl, h2, h3, h4⟩
theorem InS.bad {S : Nat → Prop} {W : World} {a : Option Addr} {n c : Nat} {b : Bool} (h : InS S W none (.agg #[.slice a n c, .bool b])) : b = true ∧ a = none ∧ n = 0 ∧ c = 0 := by
  have h' : Value.agg #[.slice a n c, .bool b] = .agg #[.slice none 0 0, .bool true] := h
  simp at h'
  obtain ⟨⟨rfl, rfl, rfl⟩, rfl⟩ := h'
  exact ⟨rfl, rfl, rfl, rfl⟩
theorem bytes_take {w : World} {a : Option Addr} {n k : Nat} {l : List (BitVec 8)} (h : Bytes8 w a n l) (hk : k ≤ n) : Bytes8 w a k (l.take k) := by
  refine ⟨by rw [List.length_take, h.1]; omega, by have := h.2.1; omega, fun i hi => ?_⟩
  obtain ⟨y, hy, hc⟩ := h.2.2 i (by omega)
  refine ⟨y, hy, hc.trans ?_⟩
  congr 3
  unfold cb
  rw [List.getD_eq_getElem?_getD, List.getD_eq_getElem?_getD, List.getElem?_take, if_pos hi]
end Go.Proofs.YtpbijcchdjppmaaDoor.RdS

/-! (mkrd.py)  the reference's ReadHash (mkpkw.py) -/
namespace Go.Proofs.YtpbijcchdjppmaaDoor.RdS
open Go Go.RowKit Go.ChangeShapes Go.WideShapes
def HashPost8 (S : Nat → Prop) (w0 : World) (p : Pk.Rd × List (BitVec 8)) (e : Ending) (w' : World) : Prop :=
  (∃ v, e = .returned (.tuple #[v, .agg (blist p.2).toArray]) ∧ InS S w' p.1 v) ∧ Below w0.heap.size w0 w'
def Pk.hP (B : List (BitVec 8)) (i j : Nat) : Value := .int .u8 (nb8 (if j < i then cb B j else 0))
theorem hP_zero (B : List (BitVec 8)) : z32 = cellsOf 32 (Pk.hP B 0) := by rfl
theorem hP_step (B : List (BitVec 8)) (i : Nat) : (cellsOf 32 (Pk.hP B i)).setIfInBounds i (.int .u8 (nb8 (cb B i))) = cellsOf 32 (Pk.hP B (i + 1)) :=
  cellsOf_put _ _ i _ (by unfold Pk.hP; rw [if_pos (by omega)]) (fun j _ hne => by
    unfold Pk.hP
    by_cases h : j < i
    · rw [if_pos h, if_pos (by omega)]
    · rw [if_neg h, if_neg (by omega)])
theorem hP_end (B : List (BitVec 8)) (hB : 32 ≤ B.length) : cellsOf 32 (Pk.hP B 32) = (blist (B.take 32)).toArray := by
  apply Array.ext_getElem?
  intro j
  by_cases h : j < 32
  · rw [cellsOf_at _ h, List.getElem?_toArray, blist_at _ j (by rw [List.length_take]; omega)]
    unfold Pk.hP
    rw [if_pos h]
    congr 3
    unfold cb
    rw [List.getD_eq_getElem?_getD, List.getD_eq_getElem?_getD, List.getElem?_take, if_pos h]
  · have e1 : (cellsOf 32 (Pk.hP B 32))[j]? = none := Array.getElem?_eq_none (by rw [cellsOf_size]; omega)
    have e2 : (blist (B.take 32))[j]? = none := List.getElem?_eq_none (by rw [blist_length, List.length_take]; omega)
    rw [e1, List.getElem?_toArray, e2]
end Go.Proofs.YtpbijcchdjppmaaDoor.RdS

/-! a spend that is built field by field; a reader beside other blocks; words as ints: for the reference's Read -/
namespace Go.Proofs.YtpbijcchdjppmaaDoor
open Go Go.RowKit Go.ChangeShapes Go.WideShapes
/-- a spend's cells while it is built -/
def spRow (h : List (BitVec 8)) (x y z : Value) : Array Value := (blist h ++ [x, y, z]).toArray
theorem spRow_spend (s : Tx.Sp) : spRow s.h (.int .i64 s.n) (.string (strB s.key)) (.int .u64 (nb64 s.sl)) = (spCells s).toArray := rfl
theorem spRow_size {h : List (BitVec 8)} {x y z : Value} (hl : h.length = 32) : (spRow h x y z).size = 35 := by simp [spRow, blist_length, hl]
theorem spRow_at {h : List (BitVec 8)} {x y z : Value} (hl : h.length = 32) (j : Nat) : (spRow h x y z)[32 + j]? = ([x, y, z] : List Value)[j]? := by
  unfold spRow
  rw [List.getElem?_toArray, List.getElem?_append_right (by rw [blist_length, hl]; omega), blist_length, hl, Nat.add_sub_cancel_left]
theorem one_zSp : zSp.all (·.oneCell') = true := by simp [Value.oneCell']
theorem size_zSp : (Tryd.prog.info? 49).map (·.size) = some zSp.size := by kernel_rfl
section
variable {w : World} {g : Nat} {T : TypeId} {h : List (BitVec 8)} {x y z u : Value}
theorem zSp_row : zSp = spRow (List.replicate 32 0#8) (.int .i64 0) (.string ⟨#[]⟩) (.int .u64 0) := by rfl
theorem row_hash {h0 : List (BitVec 8)} (hh : Has w g T (spRow h0 x y z)) (h0l : h0.length = 32) (hl : h.length = 32) : Has (w.setCells g 0 (blist h)) g T (spRow h x y z) := by
  have key : ∀ (vs : List Value) (a : List Value) (r : List Value) (b : List Value), b.length = vs.length → putAll (a ++ b ++ r).toArray a.length vs = (a ++ vs ++ r).toArray := by
    intro vs
    induction vs with
    | nil =>
      intro a r b hb
      obtain rfl := List.length_eq_zero_iff.1 hb
      rfl
    | cons v vs ih =>
      intro a r b hb
      cases b with
      | nil => cases hb
      | cons b0 b =>
        show putAll ((a ++ b0 :: b ++ r).toArray.setIfInBounds a.length v) (a.length + 1) vs = _
        have e : (a ++ b0 :: b ++ r).toArray.setIfInBounds a.length v = ((a ++ [v]) ++ b ++ r).toArray := by
          rw [List.setIfInBounds_toArray]
          congr 1
          simp
        rw [e]
        have := ih (a ++ [v]) r b (by simpa using hb)
        rw [List.length_append] at this
        rw [show a.length + [v].length = a.length + 1 from rfl] at this
        rw [this]
        simp
  have h1 := hh.putAll (blist h) 0
  have h2 := key (blist h) [] [x, y, z] (blist h0) (by rw [blist_length, blist_length, hl, h0l])
  rw [List.nil_append, List.nil_append] at h2
  unfold spRow at h1 ⊢
  rw [show ([] : List Value).length = 0 from rfl] at h2
  rwa [h2] at h1
theorem row_set (hh : Has w g T (spRow h x y z)) (hl : h.length = 32) (j : Nat) : Has (w.setCell ⟨g, 32 + j, none⟩ u) g T (blist h ++ ([x, y, z] : List Value).set j u).toArray := by
  have h1 := hh.put (32 + j) u
  unfold spRow at h1
  rw [List.setIfInBounds_toArray, List.set_append_right _ _ (by rw [blist_length, hl]; omega), blist_length, hl, Nat.add_sub_cancel_left] at h1
  exact h1
theorem row_n (hh : Has w g T (spRow h x y z)) (hl : h.length = 32) : Has (w.setCell ⟨g, 32, none⟩ u) g T (spRow h u y z) := row_set hh hl 0
theorem row_key (hh : Has w g T (spRow h x y z)) (hl : h.length = 32) : Has (w.setCell ⟨g, 33, none⟩ u) g T (spRow h x u z) := row_set hh hl 1
theorem row_seal (hh : Has w g T (spRow h x y z)) (hl : h.length = 32) : Has (w.setCell ⟨g, 34, none⟩ u) g T (spRow h x y u) := row_set hh hl 2
theorem row_at_n (hh : Has w g T (spRow h x y z)) (hl : h.length = 32) : w.cell? ⟨g, 32, none⟩ = some x := hh.cell_at (spRow_at hl 0)
theorem row_at_key (hh : Has w g T (spRow h x y z)) (hl : h.length = 32) : w.cell? ⟨g, 33, none⟩ = some y := hh.cell_at (spRow_at hl 1)
theorem row_at_seal (hh : Has w g T (spRow h x y z)) (hl : h.length = 32) : w.cell? ⟨g, 34, none⟩ = some z := hh.cell_at (spRow_at hl 2)
end
/-- a reader where blocks of F are written: its bytes lie in blocks of S -/
theorem RdS.InS.moved {S F : Nat → Prop} {w w' : World} {s : Pk.Rd} {v : Value} (h : RdS.InS S w s v) (hm : Moved F w w') (hF : s ≠ none → ∀ k, S k → ¬ F k) : RdS.InS S w' s v := by
  cases s with
  | none => exact h
  | some B =>
    obtain ⟨a, n, c, h1, h2, h3, h4, h5⟩ := h
    exact ⟨a, n, c, h1, h2.moved hm (fun _ y e hf => hF (by simp) y.block (h5 y e) hf), h3, h4, h5⟩
theorem word_int (x : BitVec 64) : IntKind.i64.wrap (nb64 x) = x.toInt := by
  have hx := x.isLt
  rw [IntKind.wrap_i64]
  simp only [nb64, BitVec.toInt_eq_toNat_cond]
  split <;> omega
theorem word_small (x : BitVec 64) (h : x.toNat < 9223372036854775808) : IntKind.i64.wrap (nb64 x) = (x.toNat : Int) := by
  rw [word_int, BitVec.toInt_eq_toNat_cond]
  rw [if_pos (by omega)]
/-- what is read in four bytes is small -/
theorem rdNum4_small (s : Pk.Rd) : (Pk.rdNum s 4).2.toNat < 4294967296 := by
  unfold Pk.rdNum
  cases s with
  | none => simp
  | some B =>
    simp only
    split
    · have := Pk.leV_lt B 4 0
      simpa using this
    · simp
end Go.Proofs.YtpbijcchdjppmaaDoor

/-! A slice literal of one record. Nothing of the program. -/
namespace Go.Proofs.YtpbijcchdjppmaaDoor
open Go Go.RowKit Go.ChangeShapes Go.WideShapes
/-! a slice literal of one record -/
theorem fold_row : ∀ (l pre b r : List Value), b.length = l.length → (l.zipIdx pre.length).foldl (fun acc (p : Value × Nat) => acc.setIfInBounds (0 + p.2) p.1) (pre ++ b ++ r).toArray = (pre ++ l ++ r).toArray
  | [], pre, b, r, hb => by
    obtain rfl := List.length_eq_zero_iff.1 hb
    rfl
  | v :: l, pre, [], r, hb => by cases hb
  | v :: l, pre, b0 :: b, r, hb => by
    rw [List.zipIdx_cons, List.foldl_cons]
    have e : (pre ++ b0 :: b ++ r).toArray.setIfInBounds (0 + pre.length) v = ((pre ++ [v]) ++ b ++ r).toArray := by
      rw [List.setIfInBounds_toArray, Nat.zero_add]
      congr 1
      simp
    have ih := fold_row l (pre ++ [v]) b r (by simpa using hb)
    rw [List.length_append] at ih
    simp only
    rw [e]
    rw [show pre.length + [v].length = pre.length + 1 from rfl] at ih
    rw [ih]
    simp
theorem fill_row {k : Nat} (cs zs : Array Value) (hc : cs.size = k) (hz : zs.size = k) : Instr.fill (fun i => some (i * k, k)) zs [(0, .agg cs)] = some cs := by
  have h := fold_row cs.toList [] zs.toList [] (by rw [Array.length_toList, Array.length_toList, hc, hz])
  have hcc : (Value.agg cs).cells = cs := rfl
  unfold Instr.fill
  simp only [Nat.zero_mul, hcc, hc, hz, ne_eq, not_true_eq_false, Nat.zero_add, gt_iff_lt, Nat.lt_irrefl, decide_false, Bool.or_self, Bool.false_eq_true, if_false]
  unfold Instr.fill
  congr 1
  rw [← Array.foldl_toList, Array.toList_zipIdx]
  simpa using h
theorem run_build_row {P : Program} {t T : TypeId} {z : Array Value} {k by_ : Nat} (ht : P.underlying t = some (.slice T)) (hi : (P.info? T).map (fun i => (i.zero, i.size, i.bytes)) = some (some (.agg z), k, by_)) (hk : 0 < k) (hk2 : k ≤ 16777216) (cs : Array Value) (hc : cs.size = k) (w : World) :
    (Instr.buildSlice t 1 #[(0, .agg cs)]).run P w = .ok (.slice (some ⟨w.heap.size, 0, none⟩) 1 1) (w.alloc (.cells cs T)) := by
  obtain ⟨i0, hi0, hz0, hz1, hz2⟩ := info_parts hi
  have hf := fill_row cs ((Array.range (1 * k)).map (z[· % z.size]!)) hc (by simp)
  have hz : (Value.agg z).cells = z := rfl
  have hne : ¬ k = 0 := by omega
  have hgt : ¬ 16777216 < k := by omega
  simp at hf
  simp [Instr.buildSlice, Sem.run_bind, run_underlying ht, sizeOf, typeInfo, zeroValue, hi0, hz0, hz1, hz, newRow, hf, hne, hgt]
theorem wpList_build_row {P : Program} {w : World} {ops : Array Oper} {rest : List Oper} {o : Oper} {a : Act} {Q : Exit → Act → World → Prop} (hgd : o.guard = none) (x : Operand) (t : TypeId) (ho : o.op = .buildSlice t 1 #[(0, x)])
    (T : TypeId) {z : Array Value} {k by_ : Nat} (ht : P.underlying t = some (.slice T)) (hi : (P.info? T).map (fun i => (i.zero, i.size, i.bytes)) = some (some (.agg z), k, by_)) (hk : 0 < k) (hk2 : k ≤ 16777216) (cs : Array Value) (hc : cs.size = k) (hx : a.eval x = .agg cs)
    (h : wpList P ops Q rest (a.put o.dst (.slice (some ⟨w.heap.size, 0, none⟩) 1 1)) (w.alloc (.cells cs T))) : wpList P ops Q (o :: rest) a w :=
  wpList_plain hgd fun K hK => by
    have hr := run_build_row (P := P) ht hi hk hk2 cs hc w
    unfold Oper.wp execOp
    simp only [ho, List.map_toArray, List.map_cons, List.map_nil, hx, Sem.run_bind, Sem.run_pure, Result.andThen_ok, hr]
    exact hK _ _ h
end Go.Proofs.YtpbijcchdjppmaaDoor

/-! what is left of a reader while a transaction is read; the reader beside other blocks -/
namespace Go.Proofs.YtpbijcchdjppmaaDoor
open Go Go.RowKit Go.ChangeShapes Go.WideShapes
/-- a reader that may be read further: few bytes; none are left where there were none -/
def Tx.Gs (l : List (BitVec 8)) (s : Pk.Rd) : Prop := (s ≠ none → l ≠ []) ∧ (Pk.left s).length ≤ 1000000
theorem Tx.left_count (s : Pk.Rd) (z : Int) : ((Pk.rdCount s z).1 ≠ none → s ≠ none) ∧ (Pk.left (Pk.rdCount s z).1).length ≤ (Pk.left s).length := by
  have h1 := RdS.left_rdMore (Pk.rdNum s 1)
  have h2 := RdS.left_rdNum s 1
  refine ⟨fun h => ?_, ?_⟩
  · rintro rfl
    apply h
    unfold Pk.rdCount Pk.rdMore
    rfl
  · simp only [Pk.rdCount]
    generalize hp : Pk.rdMore (Pk.rdNum s 1) = p at h1
    obtain ⟨x, y⟩ := p
    cases x with
    | none => simp [Pk.left]
    | some B =>
      simp only
      split
      · exact Nat.le_trans h1 h2
      · simp [Pk.left]
section
variable {l : List (BitVec 8)} {s : Pk.Rd}
theorem Tx.Gs.count (h : Tx.Gs l s) (z : Int) : Tx.Gs l (Pk.rdCount s z).1 := ⟨fun e => h.1 ((Tx.left_count s z).1 e), Nat.le_trans (Tx.left_count s z).2 h.2⟩
theorem Tx.Gs.num (h : Tx.Gs l s) (z : Int) : Tx.Gs l (Pk.rdNum s z).1 := ⟨fun e => h.1 (fun e2 => e (by rw [e2]; rfl)), Nat.le_trans (RdS.left_rdNum s z) h.2⟩
theorem Tx.Gs.hash (h : Tx.Gs l s) : Tx.Gs l (Pk.rdHash s).1 := by
  refine ⟨fun e => h.1 (fun e2 => e (by rw [e2]; rfl)), Nat.le_trans ?_ h.2⟩
  cases s with
  | none => exact Nat.le_refl _
  | some B =>
    unfold Pk.rdHash
    simp only
    split
    · simp [Pk.left]
    · simp [Pk.left]
theorem Tx.Gs.text (h : Tx.Gs l s) (z : Int) : Tx.Gs l (Pk.rdText s z).1 := by
  have hc := h.count z
  unfold Pk.rdText
  generalize hq : (Pk.rdCount s z).1 = q at hc
  cases q with
  | none => exact ⟨fun e => absurd rfl e, by simp [Pk.left]⟩
  | some B =>
    simp only
    split
    · refine ⟨fun _ => hc.1 (by simp), ?_⟩
      have := hc.2
      simp only [Pk.left, Option.getD_some, List.length_drop] at this ⊢
      omega
    · exact ⟨fun e => absurd rfl e, by simp [Pk.left]⟩
theorem Tx.Gs.start (hl : l.length ≤ 1000000) : Tx.Gs l (Pk.rdCount (some l) 8).1 := by
  refine ⟨fun e e2 => e (by rw [e2]; rfl), Nat.le_trans (Tx.left_count (some l) 8).2 hl⟩
theorem Tx.Gs.sp (h : Tx.Gs l s) : Tx.Gs l (Tx.rdSp s).1 := ((h.hash.num 4).text 32).num 8
theorem Tx.Gs.co (h : Tx.Gs l s) : Tx.Gs l (Tx.rdCo s).1 := (h.num 8).num 8
theorem Tx.Gs.sps (h : Tx.Gs l s) (ok : Bool) : ∀ k, Tx.Gs l (Tx.rdSps s ok k).1
  | 0 => h
  | k + 1 => (Tx.Gs.sps h ok k).sp
theorem Tx.Gs.cos (h : Tx.Gs l s) (ok : Bool) : ∀ k, Tx.Gs l (Tx.rdCos s ok k).1
  | 0 => h
  | k + 1 => (Tx.Gs.cos h ok k).co
end
/-- what a caller is given of bytes -/
def Tx.rdV (l : List (BitVec 8)) : Tx.T := if Tx.rdOk l then Tx.rdT l else Tx.zT
/-- whose blocks the bytes of an argument l may lie in -/
def Tx.Src (l : List (BitVec 8)) (N : Nat) (k : Nat) : Prop := l = [] ∨ k < N
theorem RdS.InS.keep {l : List (BitVec 8)} {N : Nat} {F : Nat → Prop} {w w' : World} {s : Pk.Rd} {v : Value} (h : RdS.InS (Tx.Src l N) w s v) (hg : Tx.Gs l s) (hm : Moved F w w') (hF : ∀ k, F k → N ≤ k) : RdS.InS (Tx.Src l N) w' s v :=
  h.moved hm fun hs k hk hf => by
    rcases hk with hk | hk
    · exact hg.1 hs hk
    · have := hF k hf
      omega
/-- one spend more, one coin more -/
theorem Tx.sps_next {s1 s : Pk.Rd} {b0 ok : Bool} {k : Nat} {L0 : List Tx.Sp} {ph : Pk.Rd × List (BitVec 8)} {pn pl : Pk.Rd × BitVec 64} {px : Pk.Rd × List (BitVec 8)} (h : s = (Tx.rdSps s1 b0 k).1 ∧ L0 = (Tx.rdSps s1 b0 k).2.1 ∧ ok = (Tx.rdSps s1 b0 k).2.2)
    (h1 : ph = Pk.rdHash s) (h2 : pn = Pk.rdNum ph.1 4) (h3 : px = Pk.rdText pn.1 32) (h4 : pl = Pk.rdNum px.1 8) :
    Tx.rdSps s1 b0 (k + 1) = (pl.1, L0 ++ [⟨ph.2, pn.2.toNat, px.2, pl.2⟩], ok && decide (pn.2.toNat < 8)) := by
  obtain ⟨rfl, rfl, rfl⟩ := h
  subst h1
  subst h2
  subst h3
  subst h4
  rfl
theorem Tx.cos_next {s1 s : Pk.Rd} {b0 ok : Bool} {k : Nat} {L0 : List Tx.Co} {pv pl : Pk.Rd × BitVec 64} (h : s = (Tx.rdCos s1 b0 k).1 ∧ L0 = (Tx.rdCos s1 b0 k).2.1 ∧ ok = (Tx.rdCos s1 b0 k).2.2)
    (h1 : pv = Pk.rdNum s 8) (h2 : pl = Pk.rdNum pv.1 8) :
    Tx.rdCos s1 b0 (k + 1) = (pl.1, L0 ++ [⟨pv.2.toInt, pl.2⟩], ok && decide (Am.Good pv.2.toInt)) := by
  obtain ⟨rfl, rfl, rfl⟩ := h
  subst h1
  subst h2
  rfl
end Go.Proofs.YtpbijcchdjppmaaDoor

/-! package tx: a spend, a coin read (mktxf.py) -/
namespace Go.Proofs.YtpbijcchdjppmaaDoor
open Go Go.RowKit Go.ChangeShapes Go.WideShapes
def encSpV (x : Tx.Sp × Bool) : Value := .agg (spCells x.1).toArray
/-- a number that no coin has, a value that is none -/
def Tx.offN (s : Tx.Sp) : Prop := ¬ (0 ≤ s.n ∧ s.n < 8)
instance (s : Tx.Sp) : Decidable (Tx.offN s) := inferInstanceAs (Decidable (¬ _))
def Tx.offV (c : Tx.Co) : Prop := ¬ Am.Good c.v
instance (c : Tx.Co) : Decidable (Tx.offV c) := inferInstanceAs (Decidable (¬ _))
def encCoV (x : Tx.Co × Bool) : Value := .agg (coCells x.1).toArray
set_option maxRecDepth 100000 in
set_option maxHeartbeats 16000000 in
theorem readSpend_any (gi : Nat) (r : Option Nat) (s : Pk.Rd) (w : World) (h : InS w gi r s) :
    Calls Tryd.prog 34 #[.pointer (some ⟨gi, 0, none⟩)] w (InPost encSpV gi r (Tx.rdSp s) w) := by
  obtain ⟨W2, hW2⟩ : ∃ x, x = (w.alloc (.cells zSp 49)).alloc (.cells zSp 49) := ⟨_, rfl⟩
  have hB2 : Below w.heap.size w W2 := by rw [hW2]; exact ((Below.refl _ w).alloc (Nat.le_refl _) _).alloc (by simp) _
  have hR : Has W2 w.heap.size 49 zSp := by rw [hW2]; exact (Has.fresh w _ _).past _
  have hG : Has W2 (w.heap.size + 1) 49 zSp := by rw [hW2]; exact Has.fresh_at _ _ _ (by simp)
  rw [zSp_row] at hG
  have hM : Moved (inF gi) w W2 := Moved.of_below hB2
  have hI := h.below hB2
  have hgi : gi < w.heap.size := by
    cases s with
    | none => exact h.2.lt
    | some B => obtain ⟨_, _, _, h2, _⟩ := h.2; exact h2.lt
  have HR := Lib.hid (show ∀ k, r = some k → k < w.heap.size from fun k e => (h.1 k e).2)
  have HW := Lib.hid hW2
  clear hW2 h hB2
  go_enter Tryd.func34, Tryd.ntmps34
  go_upto_region 2 with fail
  rw [← HW.out]
  obtain ⟨g2, hg2⟩ : ∃ g, g = w.heap.size := ⟨_, rfl⟩
  obtain ⟨g3, hg3⟩ : ∃ g, g = w.heap.size + 1 := ⟨_, rfl⟩
  rw [← hg3, ← hg2]
  rw [← hg2] at hR
  rw [← hg3] at hG
  have HN := Lib.hid (show g2 = w.heap.size ∧ g3 = w.heap.size + 1 ∧ gi < w.heap.size from ⟨hg2, hg3, hgi⟩)
  clear hg2 hg3 hgi HW
  obtain ⟨ph, hph⟩ : ∃ x, x = Pk.rdHash s := ⟨_, rfl⟩
  have HPph := Lib.hid hph
  clear hph
  obtain ⟨pn, hpn⟩ : ∃ x, x = Pk.rdNum ph.1 4 := ⟨_, rfl⟩
  have HPpn := Lib.hid hpn
  clear hpn
  obtain ⟨px, hpx⟩ : ∃ x, x = Pk.rdText pn.1 32 := ⟨_, rfl⟩
  have HPpx := Lib.hid hpx
  clear hpx
  obtain ⟨pl, hpl⟩ : ∃ x, x = Pk.rdNum px.1 8 := ⟨_, rfl⟩
  have HPpl := Lib.hid hpl
  clear hpl
  have HLH := Lib.hid (show ph.2.length = 32 by rw [HPph.out]; exact Tx.rdHash_len s)
  have HLK := Lib.hid (show px.2.length ≤ 32 by rw [HPpx.out]; exact Tx.rdText_len _)
  have HSM := Lib.hid (show pn.2.toNat < 4294967296 by rw [HPpn.out]; exact rdNum4_small _)
  have HRS := Lib.hid (show Tx.rdSp s = (pl.1, ⟨ph.2, pn.2.toNat, px.2, pl.2⟩, decide (pn.2.toNat < 8)) by rw [HPpl.out, HPpx.out, HPpn.out, HPph.out]; rfl)
  go_upto_region 3 with (first
    | (refine wpList_store_mid rfl 32 (.tmp 7) (.tmp 5) rfl g3 0 (blist ph.2).toArray rfl rfl (hG.there 0 _ (by rw [List.size_toArray, blist_length, HLH.out, spRow_size (by simp)]; omega)) (size_hash' HLH.out) (one_hash _) ?_)
    | (go_at_call 62; refine (inHash_any gi r s W2 hI).mono ?_; rw [← HPph.out]; rintro e w3 ⟨rfl, hIn, hmn⟩; replace hI := hIn; have hmn2 := hmn; replace hG := hG.moved hmn2 (fun e => by have e2 : g3 = gi := e; have := HN.out; omega); replace hR := hR.moved hmn2 (fun e => by have e2 : g2 = gi := e; have := HN.out; omega); replace hM := hM.trans hmn2 (fun k e => .inl e); clear hIn hmn hmn2))
  obtain ⟨w4, hwx⟩ : ∃ x, x = w3.setCells g3 0 (blist ph.2) := ⟨_, rfl⟩
  rw [← hwx]
  have hmx : Moved (fun k => k = g3) w3 w4 := by rw [hwx]; exact Moved.putAll (F := fun k => k = g3) (.inl rfl) _ _ (Moved.refl _ _)
  have hgx := row_hash hG (by simp) HLH.out
  rw [← hwx] at hgx
  replace hG := hgx
  clear hgx
  replace hI := hI.moved hmx (fun e => by have e2 : gi = g3 := e; have := HN.out; omega) (fun k hk e => by have e2 : k = g3 := e; have := HR.out k hk; have := HN.out; omega)
  replace hR := hR.moved hmx (fun e => by have e2 : g2 = g3 := e; have := HN.out; omega)
  replace hM := hM.trans hmx (fun k e => .inr (by have e2 : k = g3 := e; have := HN.out; omega))
  clear hwx hmx
  have hwd : IntKind.i64.wrap (nb64 pn.2) = (pn.2.toNat : Int) := word_small _ (by have := HSM.out; omega)
  go_upto_region 4 with (go_at_call 36; refine (inNum_any gi r ph.1 4 w4 hI).mono ?_; rw [← HPpn.out]; rintro e w5 ⟨rfl, hIn, hmn⟩; replace hI := hIn; have hmn2 := hmn; replace hG := hG.moved hmn2 (fun e => by have e2 : g3 = gi := e; have := HN.out; omega); replace hR := hR.moved hmn2 (fun e => by have e2 : g2 = gi := e; have := HN.out; omega); replace hM := hM.trans hmn2 (fun k e => .inl e); clear hIn hmn hmn2; have c32 := row_at_n hG HLH.out; have l32 := hG.loose 32)
  clear c32 l32 hwd
  obtain ⟨w6, hwx⟩ : ∃ x, x = w5.setCell ⟨g3, 32, none⟩ (.int .i64 (pn.2.toNat : Int)) := ⟨_, rfl⟩
  rw [← hwx]
  have hmx : Moved (fun k => k = g3) w5 w6 := by rw [hwx]; exact Moved.put (F := fun k => k = g3) (Moved.refl _ _) (.inl rfl) _ _
  have hgx := row_n (u := .int .i64 (pn.2.toNat : Int)) hG HLH.out
  rw [← hwx] at hgx
  replace hG := hgx
  clear hgx
  replace hI := hI.moved hmx (fun e => by have e2 : gi = g3 := e; have := HN.out; omega) (fun k hk e => by have e2 : k = g3 := e; have := HR.out k hk; have := HN.out; omega)
  replace hR := hR.moved hmx (fun e => by have e2 : g2 = g3 := e; have := HN.out; omega)
  replace hM := hM.trans hmx (fun k e => .inr (by have e2 : k = g3 := e; have := HN.out; omega))
  clear hwx hmx
  go_upto_region 5 with (go_at_call 63; refine (inText_any gi r pn.1 32 (by omega) w6 hI).mono ?_; rw [← HPpx.out]; rintro e w7 ⟨rfl, hIn, hmn⟩; replace hI := hIn; have hmn2 := hmn; replace hG := hG.moved hmn2 (fun e => by have e2 : g3 = gi := e; have := HN.out; omega); replace hR := hR.moved hmn2 (fun e => by have e2 : g2 = gi := e; have := HN.out; omega); replace hM := hM.trans hmn2 (fun k e => .inl e); clear hIn hmn hmn2; have c33 := row_at_key hG HLH.out; have l33 := hG.loose 33)
  clear c33 l33
  obtain ⟨w8, hwx⟩ : ∃ x, x = w7.setCell ⟨g3, 33, none⟩ (.string (strB px.2)) := ⟨_, rfl⟩
  rw [← hwx]
  have hmx : Moved (fun k => k = g3) w7 w8 := by rw [hwx]; exact Moved.put (F := fun k => k = g3) (Moved.refl _ _) (.inl rfl) _ _
  have hgx := row_key (u := .string (strB px.2)) hG HLH.out
  rw [← hwx] at hgx
  replace hG := hgx
  clear hgx
  replace hI := hI.moved hmx (fun e => by have e2 : gi = g3 := e; have := HN.out; omega) (fun k hk e => by have e2 : k = g3 := e; have := HR.out k hk; have := HN.out; omega)
  replace hR := hR.moved hmx (fun e => by have e2 : g2 = g3 := e; have := HN.out; omega)
  replace hM := hM.trans hmx (fun k e => .inr (by have e2 : k = g3 := e; have := HN.out; omega))
  clear hwx hmx
  go_upto_region 6 with (go_at_call 36; refine (inNum_any gi r px.1 8 w8 hI).mono ?_; rw [← HPpl.out]; rintro e w9 ⟨rfl, hIn, hmn⟩; replace hI := hIn; have hmn2 := hmn; replace hG := hG.moved hmn2 (fun e => by have e2 : g3 = gi := e; have := HN.out; omega); replace hR := hR.moved hmn2 (fun e => by have e2 : g2 = gi := e; have := HN.out; omega); replace hM := hM.trans hmn2 (fun k e => .inl e); clear hIn hmn hmn2; have c34 := row_at_seal hG HLH.out; have l34 := hG.loose 34)
  clear c34 l34
  obtain ⟨wA, hwx⟩ : ∃ x, x = w9.setCell ⟨g3, 34, none⟩ (.int .u64 (nb64 pl.2)) := ⟨_, rfl⟩
  rw [← hwx]
  have hmx : Moved (fun k => k = g3) w9 wA := by rw [hwx]; exact Moved.put (F := fun k => k = g3) (Moved.refl _ _) (.inl rfl) _ _
  have hgx := row_seal (u := .int .u64 (nb64 pl.2)) hG HLH.out
  rw [← hwx] at hgx
  replace hG := hgx
  clear hgx
  replace hI := hI.moved hmx (fun e => by have e2 : gi = g3 := e; have := HN.out; omega) (fun k hk e => by have e2 : k = g3 := e; have := HR.out k hk; have := HN.out; omega)
  replace hR := hR.moved hmx (fun e => by have e2 : g2 = g3 := e; have := HN.out; omega)
  replace hM := hM.trans hmx (fun k e => .inr (by have e2 : k = g3 := e; have := HN.out; omega))
  clear hwx hmx
  obtain ⟨cs, hcs⟩ : ∃ cs : Array Value, cs = (spCells ⟨ph.2, (pn.2.toNat : Int), px.2, pl.2⟩).toArray := ⟨_, rfl⟩
  have hsz : cs.size = 35 := by rw [hcs]; exact spRow_size (h := ph.2) HLH.out
  replace hG : Has wA g3 49 cs := by rw [hcs]; exact hG
  have lG := hG.load_agg (P := Tryd.prog) (t := 49) Tryd.underlying49 rfl (by rw [hsz]; kernel_rfl)
  have hone : cs.all (·.oneCell') = true := by rw [hcs]; exact spRec.all_one ⟨ph.2, (pn.2.toNat : Int), px.2, pl.2⟩
  have HC := Lib.hid (show (Tryd.prog.info? 49).map (·.size) = some cs.size ∧ cs.all (·.oneCell') = true ∧ cs.size = 35 ∧ cs = (spCells ⟨ph.2, (pn.2.toNat : Int), px.2, pl.2⟩).toArray from ⟨by rw [hsz]; kernel_rfl, hone, hsz, hcs⟩)
  clear hcs hsz hone
  go_wp2_with (first
    | (refine wpList_store_mid rfl 49 (.tmp 2) (.tmp 19) rfl g2 0 cs rfl rfl (hR.there 0 _ (by rw [HC.out.2.2.1]; exact Nat.le_refl 35)) HC.out.1 HC.out.2.1 ?_)
    | (refine wpList_load_run rfl 49 (.tmp 3) rfl _ _ rfl lG ?_))
  obtain ⟨wZ, hwZ⟩ : ∃ x, x = wA.setCells g2 0 cs.toList := ⟨_, rfl⟩
  have hE : Has wZ g2 49 cs := by rw [hwZ]; exact hR.whole_cs (by rw [HC.out.2.2.1]; rfl)
  have hmz : Moved (fun k => k = g2) wA wZ := by rw [hwZ]; exact Moved.putAll (F := fun k => k = g2) (.inl rfl) _ 0 (Moved.refl _ _)
  rw [← hwZ]
  refine bodyPost_ret (results_one_cell rfl _ _ g2 rfl _ (hE.load_var Tryd.underlying49 rfl HC.out.1)) rfl ⟨?_, ?_, ?_⟩
  · rw [HRS.out, HC.out.2.2.2]
    rfl
  · rw [HRS.out]
    exact hI.moved hmz (fun e => by have e2 : gi = g2 := e; have := HN.out; omega) (fun k hk e => by have e2 : k = g2 := e; have := HR.out k hk; have := HN.out; omega)
  · exact hM.trans hmz (fun k e => .inr (by have e2 : k = g2 := e; have := HN.out; omega))
set_option maxRecDepth 100000 in
set_option maxHeartbeats 16000000 in
theorem readCoin_any (gi : Nat) (r : Option Nat) (s : Pk.Rd) (w : World) (h : InS w gi r s) :
    Calls Tryd.prog 35 #[.pointer (some ⟨gi, 0, none⟩)] w (InPost encCoV gi r (Tx.rdCo s) w) := by
  obtain ⟨W2, hW2⟩ : ∃ x, x = (w.alloc (.cells zCo 52)).alloc (.cells zCo 52) := ⟨_, rfl⟩
  have hB2 : Below w.heap.size w W2 := by rw [hW2]; exact ((Below.refl _ w).alloc (Nat.le_refl _) _).alloc (by simp) _
  have hR : Has W2 w.heap.size 52 zCo := by rw [hW2]; exact (Has.fresh w _ _).past _
  have hG : Has W2 (w.heap.size + 1) 52 zCo := by rw [hW2]; exact Has.fresh_at _ _ _ (by simp)
  have hM : Moved (inF gi) w W2 := Moved.of_below hB2
  have hI := h.below hB2
  have hgi : gi < w.heap.size := by
    cases s with
    | none => exact h.2.lt
    | some B => obtain ⟨_, _, _, h2, _⟩ := h.2; exact h2.lt
  have HR := Lib.hid (show ∀ k, r = some k → k < w.heap.size from fun k e => (h.1 k e).2)
  have HW := Lib.hid hW2
  clear hW2 h hB2
  go_enter Tryd.func35, Tryd.ntmps35
  go_upto_region 2 with fail
  rw [← HW.out]
  obtain ⟨g2, hg2⟩ : ∃ g, g = w.heap.size := ⟨_, rfl⟩
  obtain ⟨g3, hg3⟩ : ∃ g, g = w.heap.size + 1 := ⟨_, rfl⟩
  rw [← hg3, ← hg2]
  rw [← hg2] at hR
  rw [← hg3] at hG
  have HN := Lib.hid (show g2 = w.heap.size ∧ g3 = w.heap.size + 1 ∧ gi < w.heap.size from ⟨hg2, hg3, hgi⟩)
  clear hg2 hg3 hgi HW
  obtain ⟨pv, hpv⟩ : ∃ x, x = Pk.rdNum s 8 := ⟨_, rfl⟩
  have HPpv := Lib.hid hpv
  clear hpv
  obtain ⟨pl, hpl⟩ : ∃ x, x = Pk.rdNum pv.1 8 := ⟨_, rfl⟩
  have HPpl := Lib.hid hpl
  clear hpl
  have HRS := Lib.hid (show Tx.rdCo s = (pl.1, ⟨pv.2.toInt, pl.2⟩, decide (Am.Good pv.2.toInt)) by rw [HPpl.out, HPpv.out]; rfl)
  obtain ⟨vi, hvi⟩ : ∃ v, v = pv.2.toInt := ⟨_, rfl⟩
  have hwd : IntKind.i64.wrap (nb64 pv.2) = vi := by rw [hvi]; exact word_int _
  have HVI := Lib.hid hvi
  rw [← hvi] at HRS
  clear hvi
  go_upto_region 3 with (go_at_call 36; refine (inNum_any gi r s 8 W2 hI).mono ?_; rw [← HPpv.out]; rintro e w3 ⟨rfl, hIn, hmn⟩; replace hI := hIn; have hmn2 := hmn; replace hG := hG.moved hmn2 (fun e => by have e2 : g3 = gi := e; have := HN.out; omega); replace hR := hR.moved hmn2 (fun e => by have e2 : g2 = gi := e; have := HN.out; omega); replace hM := hM.trans hmn2 (fun k e => .inl e); clear hIn hmn hmn2; have c0 : w3.cell? ⟨g3, 0, none⟩ = some (.int .i64 0) := hG.cell_at rfl; have l0 := hG.loose 0)
  clear c0 l0 hwd
  obtain ⟨w4, hwx⟩ : ∃ x, x = w3.setCell ⟨g3, 0, none⟩ (.int .i64 vi) := ⟨_, rfl⟩
  rw [← hwx]
  have hmx : Moved (fun k => k = g3) w3 w4 := by rw [hwx]; exact Moved.put (F := fun k => k = g3) (Moved.refl _ _) (.inl rfl) _ _
  have hgx := hG.put 0 (.int .i64 vi)
  rw [← hwx] at hgx
  replace hG := hgx
  clear hgx
  replace hI := hI.moved hmx (fun e => by have e2 : gi = g3 := e; have := HN.out; omega) (fun k hk e => by have e2 : k = g3 := e; have := HR.out k hk; have := HN.out; omega)
  replace hR := hR.moved hmx (fun e => by have e2 : g2 = g3 := e; have := HN.out; omega)
  replace hM := hM.trans hmx (fun k e => .inr (by have e2 : k = g3 := e; have := HN.out; omega))
  clear hwx hmx
  go_upto_region 4 with (go_at_call 36; refine (inNum_any gi r pv.1 8 w4 hI).mono ?_; rw [← HPpl.out]; rintro e w5 ⟨rfl, hIn, hmn⟩; replace hI := hIn; have hmn2 := hmn; replace hG := hG.moved hmn2 (fun e => by have e2 : g3 = gi := e; have := HN.out; omega); replace hR := hR.moved hmn2 (fun e => by have e2 : g2 = gi := e; have := HN.out; omega); replace hM := hM.trans hmn2 (fun k e => .inl e); clear hIn hmn hmn2; have c1 : w5.cell? ⟨g3, 1, none⟩ = some (.int .u64 0) := hG.cell_at rfl; have l1 := hG.loose 1)
  clear c1 l1
  obtain ⟨wA, hwx⟩ : ∃ x, x = w5.setCell ⟨g3, 1, none⟩ (.int .u64 (nb64 pl.2)) := ⟨_, rfl⟩
  rw [← hwx]
  have hmx : Moved (fun k => k = g3) w5 wA := by rw [hwx]; exact Moved.put (F := fun k => k = g3) (Moved.refl _ _) (.inl rfl) _ _
  have hgx := hG.put 1 (.int .u64 (nb64 pl.2))
  rw [← hwx] at hgx
  replace hG := hgx
  clear hgx
  replace hI := hI.moved hmx (fun e => by have e2 : gi = g3 := e; have := HN.out; omega) (fun k hk e => by have e2 : k = g3 := e; have := HR.out k hk; have := HN.out; omega)
  replace hR := hR.moved hmx (fun e => by have e2 : g2 = g3 := e; have := HN.out; omega)
  replace hM := hM.trans hmx (fun k e => .inr (by have e2 : k = g3 := e; have := HN.out; omega))
  clear hwx hmx
  obtain ⟨cs, hcs⟩ : ∃ cs : Array Value, cs = (coCells ⟨vi, pl.2⟩).toArray := ⟨_, rfl⟩
  have hsz : cs.size = 2 := by rw [hcs]; exact rfl
  replace hG : Has wA g3 52 cs := by rw [hcs]; exact hG
  have lG := hG.load_agg (P := Tryd.prog) (t := 52) Tryd.underlying52 rfl (by rw [hsz]; kernel_rfl)
  have hone : cs.all (·.oneCell') = true := by rw [hcs]; exact coRec.all_one ⟨vi, pl.2⟩
  have HC := Lib.hid (show (Tryd.prog.info? 52).map (·.size) = some cs.size ∧ cs.all (·.oneCell') = true ∧ cs.size = 2 ∧ cs = (coCells ⟨vi, pl.2⟩).toArray from ⟨by rw [hsz]; kernel_rfl, hone, hsz, hcs⟩)
  clear hcs hsz hone
  go_wp2_with (first
    | (refine wpList_store_mid rfl 52 (.tmp 2) (.tmp 11) rfl g2 0 cs rfl rfl (hR.there 0 _ (by rw [HC.out.2.2.1]; exact Nat.le_refl 2)) HC.out.1 HC.out.2.1 ?_)
    | (refine wpList_load_run rfl 52 (.tmp 3) rfl _ _ rfl lG ?_))
  obtain ⟨wZ, hwZ⟩ : ∃ x, x = wA.setCells g2 0 cs.toList := ⟨_, rfl⟩
  have hE : Has wZ g2 52 cs := by rw [hwZ]; exact hR.whole_cs (by rw [HC.out.2.2.1]; rfl)
  have hmz : Moved (fun k => k = g2) wA wZ := by rw [hwZ]; exact Moved.putAll (F := fun k => k = g2) (.inl rfl) _ 0 (Moved.refl _ _)
  rw [← hwZ]
  refine bodyPost_ret (results_one_cell rfl _ _ g2 rfl _ (hE.load_var Tryd.underlying52 rfl HC.out.1)) rfl ⟨?_, ?_, ?_⟩
  · rw [HRS.out, HC.out.2.2.2]
    rfl
  · rw [HRS.out]
    exact hI.moved hmz (fun e => by have e2 : gi = g2 := e; have := HN.out; omega) (fun k hk e => by have e2 : k = g2 := e; have := HR.out k hk; have := HN.out; omega)
  · exact hM.trans hmz (fun k e => .inr (by have e2 : k = g2 := e; have := HN.out; omega))
set_option maxRecDepth 100000 in
set_option maxHeartbeats 16000000 in
theorem read1_any (s : Tx.Sp) (hok : Tx.SpOk s) (b : Bool) (hb : b = true ↔ Tx.offN s) (w : World) :
    Calls Tryd.prog 39 #[.agg (spCells s).toArray] w fun e w' => e = .returned (.bool b) ∧ Below w.heap.size w w' := by
  obtain ⟨W1, hW1⟩ : ∃ x, x = w.alloc (.cells (spCells s).toArray 49) := ⟨_, rfl⟩
  have hBw : Below w.heap.size w W1 := by rw [hW1]; exact (Below.refl _ w).alloc (Nat.le_refl _) _
  have hX : Has W1 w.heap.size 49 (spCells s).toArray := by rw [hW1]; exact Has.fresh w _ _
  have HW := Lib.hid hW1
  clear hW1
  have c32 := hX.spN hok.1
  obtain ⟨sn, hsn⟩ : ∃ m, m = s.n := ⟨_, rfl⟩
  rw [← hsn] at c32
  replace hb : b = true ↔ ¬ (0 ≤ sn ∧ sn < 8) := by rw [hb, hsn]; rfl
  obtain ⟨v, hv⟩ : ∃ v : Bool, v = true ↔ (0 ≤ sn ∧ sn < 8) := ⟨decide (0 ≤ sn ∧ sn < 8), by simp⟩
  have hbr : (!v) = b := by rw [Bool.eq_iff_iff, hb, Bool.not_eq_true', ← Bool.not_eq_true, hv]
  have HR := Lib.hid (And.intro hv hbr)
  clear hb hsn hok hX hv hbr
  go_enter Tryd.func39, Tryd.ntmps39
  go_upto_region 1 with fail
  rw [← HW.out]
  go_wp2_with (go_at_call 40; refine (isnum_any sn v HR.out.1 _).mono ?_; rintro e w2 ⟨rfl, rfl⟩)
  go_ret
  exact ⟨congrArg (fun b => Ending.returned (.bool b)) HR.out.2, hBw⟩
set_option maxRecDepth 100000 in
set_option maxHeartbeats 16000000 in
theorem read2_any (s : Tx.Co) (b : Bool) (hb : b = true ↔ Tx.offV s) (w : World) :
    Calls Tryd.prog 42 #[.agg #[.int .i64 s.v, .int .u64 (nb64 s.lock)]] w fun e w' => e = .returned (.bool b) ∧ Below w.heap.size w w' := by
  obtain ⟨W1, hW1⟩ : ∃ x, x = w.alloc (.cells #[.int .i64 s.v, .int .u64 (nb64 s.lock)] 52) := ⟨_, rfl⟩
  have hBw : Below w.heap.size w W1 := by rw [hW1]; exact (Below.refl _ w).alloc (Nat.le_refl _) _
  have hX : Has W1 w.heap.size 52 #[.int .i64 s.v, .int .u64 (nb64 s.lock)] := by rw [hW1]; exact Has.fresh w _ _
  have HW := Lib.hid hW1
  clear hW1
  have c0 : W1.cell? ⟨w.heap.size, 0, none⟩ = some (.int .i64 s.v) := hX.cell_at rfl
  obtain ⟨v, hv⟩ : ∃ v : Bool, v = true ↔ Am.Good s.v := ⟨decide (Am.Good s.v), by simp⟩
  have hbr : (!v) = b := by rw [Bool.eq_iff_iff, hb, Bool.not_eq_true', ← Bool.not_eq_true, hv]; rfl
  have HR := Lib.hid (And.intro hv hbr)
  clear hb hX hv hbr
  go_enter Tryd.func42, Tryd.ntmps42
  go_upto_region 1 with fail
  rw [← HW.out]
  go_wp2_with (go_at_call 43; refine (pgood_any s.v v HR.out.1 _).mono ?_; rintro e w2 ⟨rfl, rfl⟩)
  go_ret
  exact ⟨congrArg (fun b => Ending.returned (.bool b)) HR.out.2, hBw⟩
set_option maxRecDepth 100000 in
set_option maxHeartbeats 8000000 in
theorem idx_read1 (a : Option Addr) (n q : Nat) (L : List Tx.Sp)  (w : World) (h : Recs spRec w a n L)  :
    Calls Tryd.prog 65 #[.slice a n q, .func (.func 39) #[] #[]] w fun e w' => (∃ z : Int, e = .returned (.int .i64 z) ∧ (0 ≤ z ↔ ∃ s, s ∈ L ∧ (Tx.offN s))) ∧ Below w.heap.size w w' := by
  have hmx : n ≤ 9223372036854775807 := h.2.1
  have hX0 := True.intro
  have HL := Lib.hid h.1
  clear hX0
  go_enter Tryd.func65, Tryd.ntmps65
  go_wp2
  go_loopw [8] (fun iv wr => ∃ i : Nat, i ≤ n ∧ iv = .int .i64 i ∧ RowKit.Hid (∀ (j : Nat) (s : Tx.Sp), j < i → L[j]? = some s → ¬ (Tx.offN s)) ∧ Below w.heap.size w wr) (fun iv _ => n - (intOf iv).toNat)
  case atStart => exact ⟨0, Nat.zero_le _, rfl, Lib.hid (fun j s hj => by omega), Below.refl _ _⟩
  case round =>
    obtain ⟨i, hi, rfl, HB, hb⟩ := hrel
    by_cases hlt : i < n
    · have hii : (i : Int) < (n : Int) := by omega
      have hi0 : (0 : Int) ≤ (i : Int) := by omega
      obtain ⟨s, hs⟩ := h.get hlt
      obtain ⟨x, hax, _⟩ := h.2.2.2 i s hs
      subst hax
      have hy := spends_at (h.below hb) hs
      have HS := Lib.hid (And.intro hs (h.okay hs))
      clear hs
      obtain ⟨v, hv⟩ : ∃ v : Bool, v = true ↔ (Tx.offN s) := ⟨decide (Tx.offN s), by simp⟩
      have HV := Lib.hid hv
      clear hv
      cases v
      · have HB2 := Lib.hid (show ∀ (j : Nat) (u : Tx.Sp), j < i + 1 → L[j]? = some u → ¬ (Tx.offN u) from fun j u hj hu => by
          rcases Nat.lt_or_ge j i with h | h
          · exact HB.out j u h hu
          · have e2 : j = i := by omega
            subst e2
            rw [HS.out.1] at hu
            injection hu with hu
            subst hu
            exact fun e => Bool.false_ne_true (HV.out.2 e))
        go_wp2_with (first
          | (go_at_call 39; refine (read1_any s HS.out.2 _ HV.out wr).mono ?_; rintro e w2 ⟨rfl, hb2⟩; have hbn := hb.trans (hb2.mono hb.size))
          | (refine wpList_load_run rfl 49 (.tmp 14) rfl _ _ rfl hy ?_))
        go_roundw
        case rel => exact ⟨i + 1, by omega, by go_num, HB2, hbn⟩
        case measure => (simp [intOf]; try omega)
      · have HT := Lib.hid (show ∃ s, s ∈ L ∧ (Tx.offN s) from ⟨s, List.mem_of_getElem? HS.out.1, HV.out.1 rfl⟩)
        go_wp2_with (first
          | (go_at_call 39; refine (read1_any s HS.out.2 _ HV.out wr).mono ?_; rintro e w2 ⟨rfl, hb2⟩; have hbn := hb.trans (hb2.mono hb.size))
          | (refine wpList_load_run rfl 49 (.tmp 14) rfl _ _ rfl hy ?_))
        go_ret
        exact ⟨⟨_, rfl, fun _ => HT.out, fun _ => by omega⟩, hbn⟩
    · have HF := Lib.hid (show ¬ ∃ s, s ∈ L ∧ (Tx.offN s) from fun ⟨s, hm, hp⟩ => by
        obtain ⟨j, hj⟩ := List.mem_iff_getElem?.1 hm
        exact HB.out j s (by have h9 : j < L.length := (List.getElem?_eq_some_iff.1 hj).1; rw [HL.out] at h9; omega) hj hp)
      have hii : ¬ (i : Int) < (n : Int) := by omega
      go_wp2
      go_ret
      exact ⟨⟨_, rfl, fun h => by omega, fun h => (HF.out h).elim⟩, hb⟩
set_option maxRecDepth 100000 in
set_option maxHeartbeats 8000000 in
theorem has_read1 (a : Option Addr) (n q : Nat) (L : List Tx.Sp)  (w : World) (h : Recs spRec w a n L)  (r : Bool) (hr : r = true ↔ ∃ s, s ∈ L ∧ (Tx.offN s)) :
    Calls Tryd.prog 38 #[.slice a n q, .func (.func 39) #[] #[]] w fun e w' => e = .returned (.bool r) ∧ Below w.heap.size w w' := by
  have HR := Lib.hid hr
  have hX0 := True.intro
  clear hr
  clear hX0
  go_enter Tryd.func38, Tryd.ntmps38
  go_wp2_with (go_at_call 65; refine (idx_read1 a n q L  w h ).mono ?_; rintro e w1 ⟨⟨z, rfl, hz⟩, hb⟩; have HZ := Lib.hid hz; clear hz)
  go_ret
  refine ⟨?_, hb⟩
  have h1 : decide (0 ≤ z) = r := by
    rw [Bool.eq_iff_iff, decide_eq_true_iff, HZ.out, HR.out]
  exact congrArg (fun b => Ending.returned (.bool b)) h1
set_option maxRecDepth 100000 in
set_option maxHeartbeats 8000000 in
theorem idx_read2 (a : Option Addr) (n q : Nat) (L : List Tx.Co)  (w : World) (h : Recs coRec w a n L)  :
    Calls Tryd.prog 66 #[.slice a n q, .func (.func 42) #[] #[]] w fun e w' => (∃ z : Int, e = .returned (.int .i64 z) ∧ (0 ≤ z ↔ ∃ s, s ∈ L ∧ (Tx.offV s))) ∧ Below w.heap.size w w' := by
  have hmx : n ≤ 9223372036854775807 := h.2.1
  have hX0 := True.intro
  have HL := Lib.hid h.1
  clear hX0
  go_enter Tryd.func66, Tryd.ntmps66
  go_wp2
  go_loopw [8] (fun iv wr => ∃ i : Nat, i ≤ n ∧ iv = .int .i64 i ∧ RowKit.Hid (∀ (j : Nat) (s : Tx.Co), j < i → L[j]? = some s → ¬ (Tx.offV s)) ∧ Below w.heap.size w wr) (fun iv _ => n - (intOf iv).toNat)
  case atStart => exact ⟨0, Nat.zero_le _, rfl, Lib.hid (fun j s hj => by omega), Below.refl _ _⟩
  case round =>
    obtain ⟨i, hi, rfl, HB, hb⟩ := hrel
    by_cases hlt : i < n
    · have hii : (i : Int) < (n : Int) := by omega
      have hi0 : (0 : Int) ≤ (i : Int) := by omega
      obtain ⟨s, hs⟩ := h.get hlt
      obtain ⟨x, hax, _⟩ := h.2.2.2 i s hs
      subst hax
      have hy := coins_at (h.below hb) hs
      have HS := Lib.hid (And.intro hs (h.okay hs))
      clear hs
      obtain ⟨v, hv⟩ : ∃ v : Bool, v = true ↔ (Tx.offV s) := ⟨decide (Tx.offV s), by simp⟩
      have HV := Lib.hid hv
      clear hv
      cases v
      · have HB2 := Lib.hid (show ∀ (j : Nat) (u : Tx.Co), j < i + 1 → L[j]? = some u → ¬ (Tx.offV u) from fun j u hj hu => by
          rcases Nat.lt_or_ge j i with h | h
          · exact HB.out j u h hu
          · have e2 : j = i := by omega
            subst e2
            rw [HS.out.1] at hu
            injection hu with hu
            subst hu
            exact fun e => Bool.false_ne_true (HV.out.2 e))
        go_wp2_with (first
          | (go_at_call 42; refine (read2_any s _ HV.out wr).mono ?_; rintro e w2 ⟨rfl, hb2⟩; have hbn := hb.trans (hb2.mono hb.size))
          | (refine wpList_load_run rfl 52 (.tmp 14) rfl _ _ rfl hy ?_))
        go_roundw
        case rel => exact ⟨i + 1, by omega, by go_num, HB2, hbn⟩
        case measure => (simp [intOf]; try omega)
      · have HT := Lib.hid (show ∃ s, s ∈ L ∧ (Tx.offV s) from ⟨s, List.mem_of_getElem? HS.out.1, HV.out.1 rfl⟩)
        go_wp2_with (first
          | (go_at_call 42; refine (read2_any s _ HV.out wr).mono ?_; rintro e w2 ⟨rfl, hb2⟩; have hbn := hb.trans (hb2.mono hb.size))
          | (refine wpList_load_run rfl 52 (.tmp 14) rfl _ _ rfl hy ?_))
        go_ret
        exact ⟨⟨_, rfl, fun _ => HT.out, fun _ => by omega⟩, hbn⟩
    · have HF := Lib.hid (show ¬ ∃ s, s ∈ L ∧ (Tx.offV s) from fun ⟨s, hm, hp⟩ => by
        obtain ⟨j, hj⟩ := List.mem_iff_getElem?.1 hm
        exact HB.out j s (by have h9 : j < L.length := (List.getElem?_eq_some_iff.1 hj).1; rw [HL.out] at h9; omega) hj hp)
      have hii : ¬ (i : Int) < (n : Int) := by omega
      go_wp2
      go_ret
      exact ⟨⟨_, rfl, fun h => by omega, fun h => (HF.out h).elim⟩, hb⟩
set_option maxRecDepth 100000 in
set_option maxHeartbeats 8000000 in
theorem has_read2 (a : Option Addr) (n q : Nat) (L : List Tx.Co)  (w : World) (h : Recs coRec w a n L)  (r : Bool) (hr : r = true ↔ ∃ s, s ∈ L ∧ (Tx.offV s)) :
    Calls Tryd.prog 41 #[.slice a n q, .func (.func 42) #[] #[]] w fun e w' => e = .returned (.bool r) ∧ Below w.heap.size w w' := by
  have HR := Lib.hid hr
  have hX0 := True.intro
  clear hr
  clear hX0
  go_enter Tryd.func41, Tryd.ntmps41
  go_wp2_with (go_at_call 66; refine (idx_read2 a n q L  w h ).mono ?_; rintro e w1 ⟨⟨z, rfl, hz⟩, hb⟩; have HZ := Lib.hid hz; clear hz)
  go_ret
  refine ⟨?_, hb⟩
  have h1 : decide (0 ≤ z) = r := by
    rw [Bool.eq_iff_iff, decide_eq_true_iff, HZ.out, HR.out]
  exact congrArg (fun b => Ending.returned (.bool b)) h1
end Go.Proofs.YtpbijcchdjppmaaDoor

/-! package tx: Read (mktxfr.py) -/
namespace Go.Proofs.YtpbijcchdjppmaaDoor
open Go Go.RowKit Go.ChangeShapes Go.WideShapes
theorem step_build_row {P : Program} {w : World} {ops : Array Oper} {o : Oper} {a : Act} {K : Act → World → Prop} {Q : Exit → Act → World → Prop} {E : Prop} (hwt : Region.wanted o (yielded ops a.tmps) = true) (x : Operand) (t : TypeId) (ho : o.op = .buildSlice t 1 #[(0, x)])
    (T : TypeId) {z : Array Value} {k by_ : Nat} (ht : P.underlying t = some (.slice T)) (hi : (P.info? T).map (fun i => (i.zero, i.size, i.bytes)) = some (some (.agg z), k, by_)) (hk : 0 < k) (hk2 : k ≤ 16777216) (cs : Array Value) (hc : cs.size = k) (hx : a.eval x = .agg cs)
    (h : K (a.put o.dst (.slice (some ⟨w.heap.size, 0, none⟩) 1 1)) (w.alloc (.cells cs T))) : if Region.wanted o (yielded ops a.tmps) = true then Oper.wp P o a w K Q else E := by
  rw [if_pos hwt]
  have hr := run_build_row (P := P) ht hi hk hk2 cs hc w
  unfold Oper.wp execOp
  simp only [ho, List.map_toArray, List.map_cons, List.map_nil, hx, Sem.run_bind, Sem.run_pure, Result.andThen_ok, hr]
  exact h
theorem recs_one {α : Type} {R : Rec α} {T : TypeId} {w : World} {x : α} (hx : R.ok x) {cs : Array Value} (hcs : cs = (R.cells x).toArray) : Recs R (w.alloc (.cells cs T)) (some ⟨w.heap.size, 0, none⟩) 1 [x] :=
  recs_fresh (R := R) (L := [x]) (fun t ht => by rw [List.mem_singleton.1 ht]; exact hx) (Has.fresh _ _ _) (by show 1 ≤ maxLen; unfold maxLen; omega) (fun j u hj => by
    rw [hcs, List.getElem?_toArray]
    simpa [Rec.row] using hj)
theorem results_cell_slot {P : Program} {fn : Func} {p q : Tmp} {ty : TypeId} (h : fn.results = #[.cell p ty, .tmp q]) (tmps : Array Value) (w : World) (g : Nat) (hp : tmps.getD p undef = .pointer (some ⟨g, 0, none⟩))
    (v u : Value) (hv : (loadVar ty ⟨g, 0, none⟩).run P w = .ok v w) (hu : tmps.getD q undef = u) : (results fn tmps).run P w = .ok (.tuple #[v, u]) w := by
  rw [Array.getD_eq_getD_getElem?] at hp hu
  simp only [results, h]
  simp [hp, hu, hv, asAddr]
namespace Tx
theorem sps_flag (s : Pk.Rd) (ok : Bool) : ∀ k, ((rdSps s ok k).2.2 = true ↔ (ok = true ∧ ∀ x, x ∈ (rdSps s ok k).2.1 → ¬ offN x)) ∧ (∀ x, x ∈ (rdSps s ok k).2.1 → SpOk x) ∧ (rdSps s ok k).2.1.length = k
  | 0 => ⟨⟨fun h => ⟨h, fun x hx => by cases hx⟩, fun h => h.1⟩, (fun x hx => by cases hx), rfl⟩
  | k + 1 => by
    obtain ⟨ih, io, il⟩ := sps_flag s ok k
    have e1 : (rdSps s ok (k + 1)).2.1 = (rdSps s ok k).2.1 ++ [(rdSp (rdSps s ok k).1).2.1] := rfl
    have e2 : (rdSps s ok (k + 1)).2.2 = ((rdSps s ok k).2.2 && (rdSp (rdSps s ok k).1).2.2) := rfl
    have hn : (rdSp (rdSps s ok k).1).2.1.n = ((Pk.rdNum (Pk.rdHash (rdSps s ok k).1).1 4).2.toNat : Int) := rfl
    have hf : (rdSp (rdSps s ok k).1).2.2 = decide ((Pk.rdNum (Pk.rdHash (rdSps s ok k).1).1 4).2.toNat < 8) := rfl
    have hsm := rdNum4_small (Pk.rdHash (rdSps s ok k).1).1
    have hx : (rdSp (rdSps s ok k).1).2.2 = true ↔ ¬ offN (rdSp (rdSps s ok k).1).2.1 := by
      rw [hf, decide_eq_true_iff, offN, hn]
      omega
    refine ⟨?_, ?_, ?_⟩
    · rw [e1, e2, Bool.and_eq_true, ih, hx]
      constructor
      · rintro ⟨⟨h1, h2⟩, h3⟩
        refine ⟨h1, fun x hm => ?_⟩
        rcases List.mem_append.1 hm with h4 | h4
        · exact h2 x h4
        · rw [List.mem_singleton.1 h4]; exact h3
      · rintro ⟨h1, h2⟩
        exact ⟨⟨h1, fun x hm => h2 x (List.mem_append_left _ hm)⟩, h2 _ (List.mem_append_right _ (List.mem_singleton.2 rfl))⟩
    · rw [e1]
      intro x hm
      rcases List.mem_append.1 hm with h4 | h4
      · exact io x h4
      · rw [List.mem_singleton.1 h4]
        refine ⟨rdHash_len _, by rw [hn]; omega, ?_⟩
        have := rdText_len (Pk.rdNum (Pk.rdHash (rdSps s ok k).1).1 4).1
        have e : (rdSp (rdSps s ok k).1).2.1.key.length ≤ 32 := this
        unfold maxLen
        omega
    · rw [e1, List.length_append, il]
      rfl
theorem cos_flag (s : Pk.Rd) (ok : Bool) : ∀ k, ((rdCos s ok k).2.2 = true ↔ (ok = true ∧ ∀ x, x ∈ (rdCos s ok k).2.1 → ¬ offV x)) ∧ (∀ x, x ∈ (rdCos s ok k).2.1 → CoOk x) ∧ (rdCos s ok k).2.1.length = k
  | 0 => ⟨⟨fun h => ⟨h, fun x hx => by cases hx⟩, fun h => h.1⟩, (fun x hx => by cases hx), rfl⟩
  | k + 1 => by
    obtain ⟨ih, io, il⟩ := cos_flag s ok k
    have e1 : (rdCos s ok (k + 1)).2.1 = (rdCos s ok k).2.1 ++ [(rdCo (rdCos s ok k).1).2.1] := rfl
    have e2 : (rdCos s ok (k + 1)).2.2 = ((rdCos s ok k).2.2 && (rdCo (rdCos s ok k).1).2.2) := rfl
    have hv : (rdCo (rdCos s ok k).1).2.1.v = (Pk.rdNum (rdCos s ok k).1 8).2.toInt := rfl
    have hf : (rdCo (rdCos s ok k).1).2.2 = decide (Am.Good (Pk.rdNum (rdCos s ok k).1 8).2.toInt) := rfl
    have hx : (rdCo (rdCos s ok k).1).2.2 = true ↔ ¬ offV (rdCo (rdCos s ok k).1).2.1 := by
      rw [hf, decide_eq_true_iff, offV, hv, Decidable.not_not]
    refine ⟨?_, ?_, ?_⟩
    · rw [e1, e2, Bool.and_eq_true, ih, hx]
      constructor
      · rintro ⟨⟨h1, h2⟩, h3⟩
        refine ⟨h1, fun x hm => ?_⟩
        rcases List.mem_append.1 hm with h4 | h4
        · exact h2 x h4
        · rw [List.mem_singleton.1 h4]; exact h3
      · rintro ⟨h1, h2⟩
        exact ⟨⟨h1, fun x hm => h2 x (List.mem_append_left _ hm)⟩, h2 _ (List.mem_append_right _ (List.mem_singleton.2 rfl))⟩
    · rw [e1]
      intro x hm
      rcases List.mem_append.1 hm with h4 | h4
      · exact io x h4
      · rw [List.mem_singleton.1 h4]
        have h1 := BitVec.toInt_lt (x := (Pk.rdNum (rdCos s ok k).1 8).2)
        have h2 := BitVec.le_toInt (x := (Pk.rdNum (rdCos s ok k).1 8).2)
        refine ⟨?_, ?_⟩ <;> rw [hv] <;> omega
    · rw [e1, List.length_append, il]
      rfl
theorem ok_iff (l : List (BitVec 8)) : rdOk l ↔ ((∀ x, x ∈ (rdA l).2.1 → ¬ offN x) ∧ (∀ x, x ∈ (rdB l).2.1 → ¬ offV x) ∧ (rdF l).2.toNat ≤ 1 ∧ Pk.atEnd (rdF l).1 = true) := by
  have h1 := (sps_flag (Pk.rdCount (some l) 8).1 true (Pk.rdCount (some l) 8).2.toNat).1
  have h2 := (cos_flag (Pk.rdCount (rdA l).1 8).1 (rdA l).2.2 (Pk.rdCount (rdA l).1 8).2.toNat).1
  unfold rdOk
  rw [show (rdB l).2.2 = true ↔ _ from h2, show (rdA l).2.2 = true ↔ _ from h1]
  constructor
  · rintro ⟨⟨⟨_, a⟩, b⟩, c, d⟩
    exact ⟨a, b, c, d⟩
  · rintro ⟨a, b, c, d⟩
    exact ⟨⟨⟨rfl, a⟩, b⟩, c, d⟩
end Tx
def PReadPost (l : List (BitVec 8)) (w0 : World) (e : Ending) (w' : World) : Prop :=
  ∃ (a : Option Addr) (n q : Nat) (b : Option Addr) (m r : Nat), e = .returned (.tuple #[txv a n q b m r (Tx.rdV l).firm, if Tx.rdOk l then .nilIface else erro 2]) ∧ TxOwn w0.heap.size w' a n q b m r (Tx.rdV l) ∧ Below w0.heap.size w0 w'
theorem OwnR.block {α : Type} {R : Rec α} {T : TypeId} {B k : Nat} {w : World} {v : Value} {L : List α} (h : OwnR R T B w v L) (hk : v.ownBlock = some k) : ∃ cs, Has w k T cs := by
  rcases h.2.2 with ⟨rfl, _⟩ | ⟨j, cap, cur, rfl, _, h2, _⟩
  · cases hk
  · have e : j = k := by simpa [Value.ownBlock] using hk
    subst e
    exact ⟨cur, h2⟩
theorem own_ne {α β : Type} {R : Rec α} {R' : Rec β} {T T' : TypeId} {B B' : Nat} {w : World} {a a' : Option Addr} {n n' q q' : Nat} {L : List α} {L' : List β} (hT : (T == T') = false) (h : OwnR R T B w (.slice a n q) L) (h' : OwnR R' T' B' w (.slice a' n' q') L') {j : Nat} (hj : (Value.slice a n q).ownBlock = some j) (hj' : (Value.slice a' n' q').ownBlock = some j) : False := by
  obtain ⟨cs, hh⟩ := OwnR.block h hj
  obtain ⟨cs', hh'⟩ := OwnR.block h' hj'
  exact Has.ne_type hh hh' (by intro e; rw [e] at hT; simp at hT) rfl
set_option maxRecDepth 100000 in
set_option maxHeartbeats 16000000 in
theorem pread_any (xa : Option Addr) (n c : Nat) (l : List (BitVec 8)) (w : World) (h : Bytes8 w xa n l) (h0 : xa = none → c = 0) (hlen : l.length ≤ 1000000) :
    Calls Tryd.prog 21 #[.slice xa n c] w (PReadPost l w) := by
  obtain ⟨W1, hW1⟩ : ∃ x, x = w.alloc (.cells zTx 25) := ⟨_, rfl⟩
  have hb1 : Below w.heap.size w W1 := by rw [hW1]; exact (Below.refl _ w).alloc (Nat.le_refl _) _
  have hR1 : Has W1 w.heap.size 25 zTx := by rw [hW1]; exact Has.fresh _ _ _
  have hs1 : W1.heap.size = w.heap.size + 1 := by rw [hW1]; simp
  have HH := Lib.hid (h.below hb1)
  have HL := Lib.hid (And.intro h.1 hlen)
  have HC0 := Lib.hid h0
  have HW := Lib.hid hW1
  clear hW1 h hlen h0
  go_enter Tryd.func21, Tryd.ntmps21
  go_upto_region 1 with fail
  rw [← HW.out]
  go_upto_region 2 with (go_at_call 32; refine (read_any xa n c l W1 HH.out HC0.out (by have := HL.out.1; have := HL.out.2; omega)).mono ?_; rintro e w2 ⟨gi, r, rfl, hI2, hgi1, hgi2, hr2, hb2⟩)
  obtain ⟨w3, hw3⟩ : ∃ x, x = w2.alloc (.cells zTx 25) := ⟨_, rfl⟩
  have hb3 : Below w2.heap.size w2 w3 := by rw [hw3]; exact (Below.refl _ w2).alloc (Nat.le_refl _) _
  have hT3 : Has w3 w2.heap.size 25 zTx := by rw [hw3]; exact Has.fresh _ _ _
  have hs3 : w3.heap.size = w2.heap.size + 1 := by rw [hw3]; simp
  go_upto_region 3 with fail
  rw [← hw3]
  obtain ⟨g2, hg2⟩ : ∃ g, g = w.heap.size := ⟨_, rfl⟩
  obtain ⟨gt, hgt⟩ : ∃ g, g = w2.heap.size := ⟨_, rfl⟩
  obtain ⟨B, hB⟩ : ∃ B, B = w3.heap.size := ⟨_, rfl⟩
  rw [← hgt, ← hg2]
  rw [← hgt] at hT3
  rw [← hg2] at hR1
  have HN := Lib.hid (show g2 = w.heap.size ∧ g2 < gi ∧ gi < gt ∧ gt + 1 = B ∧ (∀ k, r = some k → g2 < k ∧ k < gi) from ⟨hg2, by omega, by omega, by omega, fun k e => by have := hr2 k e; omega⟩)
  have hT : Has w3 gt 25 #[.slice none 0 0, .slice none 0 0, .bool false] := hT3
  have hR : Has w3 g2 25 zTx := (hR1.under hb2 hR1.lt).under hb3 (hR1.under hb2 hR1.lt).lt
  have hI : InS w3 gi r (some l) := hI2.below hb3
  have hb : Below w.heap.size w w3 := (hb1.trans (hb2.mono hb1.size)).trans (hb3.mono (hb1.trans (hb2.mono hb1.size)).size)
  have hBr : B ≤ w3.heap.size := by omega
  clear hw3 hg2 hgt hB hr2 hgi1 hgi2 hs1 hs3 hT3 hR1 hI2 hb1 hb2 hb3
  obtain ⟨pa, hpa⟩ : ∃ x, x = Pk.rdCount (some l) 8 := ⟨_, rfl⟩
  have HPpa := Lib.hid hpa
  clear hpa
  have HCT := Lib.hid (inCount_any gi r (some l) 8 (by omega) w3 hI)
  clear hI
  rw [← HPpa.out] at HCT
  have hk08 := Tx.rdCount_le (some l) 8 (by omega)
  rw [← HPpa.out] at hk08
  obtain ⟨k08, k88⟩ := hk08
  obtain ⟨s1, hs1⟩ : ∃ s, s = pa.1 := ⟨_, rfl⟩
  obtain ⟨NK, hK⟩ : ∃ NK : Nat, pa.2 = NK := ⟨pa.2.toNat, by omega⟩
  have HS1 := Lib.hid (show s1 = (Pk.rdCount (some l) 8).1 ∧ NK = (Pk.rdCount (some l) 8).2.toNat ∧ NK ≤ 8 from ⟨by rw [hs1, HPpa.out], by rw [← HPpa.out, hK]; rfl, by omega⟩)
  replace HCT := Lib.hid (show Calls Tryd.prog 33 #[.pointer (some ⟨gi, 0, none⟩), .int .i64 8] w3 (fun e w' => e = .returned (.int .i64 (NK : Int)) ∧ InS w' gi r s1 ∧ Moved (inF gi) w3 w') from HCT.out.mono (fun e w' h => by rw [← hK, hs1]; exact h))
  clear hK hs1 k08 k88 HPpa
  go_wp2_with (go_at_call 33; refine HCT.out.mono ?_; rintro e w4 ⟨rfl, hI, hm4⟩)
  replace hT := hT.moved hm4 (fun e => by have e2 : gt = gi := e; have := HN.out; omega)
  replace hR := hR.moved hm4 (fun e => by have e2 : g2 = gi := e; have := HN.out; omega)
  replace hb := hb.trans (hm4.below (fun k e => by have e2 : k = gi := e; have := HN.out; omega) hb.size)
  replace hBr := Nat.le_trans hBr hm4.size
  have ho : OwnR spRec 49 B w4 (.slice none 0 0) [] := OwnR.nil _ _ _ _
  clear hm4 HCT
  go_loopw [11] (fun kv wr => ∃ (k : Nat) (oa : Option Addr) (oq : Nat), k ≤ NK ∧ kv = .int .i64 k ∧ InS wr gi r (Tx.rdSps s1 true k).1 ∧ Has wr gt 25 #[.slice oa k oq, .slice none 0 0, .bool false] ∧ OwnR spRec 49 B wr (.slice oa k oq) (Tx.rdSps s1 true k).2.1 ∧ Has wr g2 25 zTx ∧ Below w.heap.size w wr ∧ B ≤ wr.heap.size) (fun kv _ => NK - (intOf kv).toNat)
  case atStart => exact ⟨0, none, 0, Nat.zero_le _, rfl, hI, hT, ho, hR, hb, hBr⟩
  case round =>
    clear hI hT ho hR hb hBr
    obtain ⟨k, oa, oq, hk, rfl, hI, hT, ho, hR, hb, hBr⟩ := hrel
    by_cases hlt : k < NK
    · have hki : (k : Int) < (NK : Int) := by omega
      have hk0 : (0 : Int) ≤ (k : Int) := by omega
      go_upto_region 5 with fail
      obtain ⟨s, hs⟩ : ∃ s, s = (Tx.rdSps s1 true k).1 := ⟨_, rfl⟩
      obtain ⟨L0, hL0⟩ : ∃ s, s = (Tx.rdSps s1 true k).2.1 := ⟨_, rfl⟩
      rw [← hs] at hI
      rw [← hL0] at ho
      obtain ⟨X, hX⟩ : ∃ X, X = (Tx.rdSp s).2.1 := ⟨_, rfl⟩
      obtain ⟨s', hs'⟩ : ∃ x, x = (Tx.rdSp s).1 := ⟨_, rfl⟩
      obtain ⟨cs, hcs⟩ : ∃ cs : Array Value, cs = (spCells X).toArray := ⟨_, rfl⟩
      have HNX := Lib.hid (show (Tx.rdSps s1 true (k + 1)).1 = s' ∧ (Tx.rdSps s1 true (k + 1)).2.1 = L0 ++ [X] from ⟨by rw [hs', hs]; rfl, by rw [hX, hL0, hs]; rfl⟩)
      have hokX : spRec.ok X := (Tx.sps_flag s1 true (k + 1)).2.1 X (by rw [HNX.out.2]; exact List.mem_append_right _ (List.mem_singleton.2 rfl))
      have HX := Lib.hid (show spRec.ok X ∧ cs = (spRec.cells X).toArray ∧ L0.length = k from ⟨hokX, hcs, by rw [hL0]; exact (Tx.sps_flag s1 true k).2.2⟩)
      have HSZ := Lib.hid (show cs.size = 35 by rw [hcs, List.size_toArray]; exact spRec.len X HX.out.1)
      obtain ⟨ws, hws⟩ : ∃ x, x = wr.drew := ⟨_, rfl⟩
      have hbs : Below wr.heap.size wr ws := by rw [hws]; exact (Below.refl _ _).drew
      replace hI := hI.below hbs
      replace hT := hT.under hbs hT.lt
      replace hR := hR.under hbs hR.lt
      replace hb := hb.trans (hbs.mono hb.size)
      replace hBr := Nat.le_trans hBr hbs.size
      replace ho := ho.below hbs
      have HRC := Lib.hid (show Calls Tryd.prog 34 #[.pointer (some ⟨gi, 0, none⟩)] ws (fun e w' => e = .returned (.agg cs) ∧ InS w' gi r s' ∧ Moved (inF gi) ws w') from (readSpend_any gi r s ws hI).mono (fun e w' h => by rw [hcs, hX, hs']; exact h))
      have HT := Lib.hid hT
      have HR := Lib.hid hR
      have HO := Lib.hid ho
      have HB := Lib.hid (And.intro hb hBr)
      clear hs hL0 hX hs' hcs hokX hI hT hR ho hb hBr hbs
      refine wp_region_held_drew (S := HeldM (fun j => j = gi ∨ j = gt ∨ B ≤ j) ws) (by kernel_rfl) (by rw [hws]; exact HeldM.refl _ _) (fun hHeld => ?_)
      rw [← hws] at hHeld ⊢
      clear hws
      refine take_at (v := ?_) 0 13 rfl rfl (by kernel_rfl) (by kernel_rfl) (by kernel_rfl) (fun _ _ _ h => h) hHeld (Or.inl ⟨by rfl, ?_⟩) rfl ?_
      rotate_left
      · intro wq hSw
        go_simp
        try with_reducible rfl
      simp only [List.set_cons_zero, List.set_cons_succ]
      refine take_at (v := ?_) 2 15 rfl rfl (by kernel_rfl) (by kernel_rfl) (by kernel_rfl) (fun _ _ _ h => h) hHeld (Or.inl ⟨by rfl, ?_⟩) rfl ?_
      rotate_left
      · intro wq hSw
        go_simp
        try with_reducible rfl
      simp only [List.set_cons_zero, List.set_cons_succ]
      refine wpAnyH_ready (rs := [1, 3]) (by kernel_rfl) (by simp) ?_
      refine AllReadyH.cons rfl (fun K hK => ?_) (AllReadyH.cons rfl (fun K hK => ?_) AllReadyH.nil)
      · have cg : ws.cell? ⟨gt, 0, none⟩ = some (.slice oa k oq) := HT.out.cell_at rfl
        go_simp
        refine hK.out _ _ hHeld (fun _ => ?_)
        clear hK K cg
        try simp only [Act.put, List.setIfInBounds_toArray, List.set_cons_zero, List.set_cons_succ]
        refine wpAnyH_ready (rs := [3]) (by kernel_rfl) (by simp) ?_
        refine AllReadyH.cons rfl (fun K hK => ?_) AllReadyH.nil
        go_simp
        go_at_call 34; refine HRC.out.mono ?_; rintro e k1 ⟨rfl, hI1, hm1⟩
        have hm1F : Moved (fun j => j = gi ∨ j = gt ∨ B ≤ j) ws k1 := hm1.mono (fun _ e => .inl e)
        refine hK.out _ _ (HeldM.of hm1F) (fun _ => ?_)
        clear hK K
        try simp only [Act.put, List.setIfInBounds_toArray, List.set_cons_zero, List.set_cons_succ]
        refine heldM_grow (w1 := k1) hm1F ?_
        clear hHeld
        have hHeld : HeldM (fun j => j = gi ∨ j = gt ∨ B ≤ j) k1 k1 := HeldM.refl _ _
        have hT1 := HT.out.moved hm1 (fun e => by have e2 : gt = gi := e; have := HN.out; omega)
        have hR1 := HR.out.moved hm1 (fun e => by have e2 : g2 = gi := e; have := HN.out; omega)
        have ho1 := HO.out.moved hm1 (fun j hj e => by have e2 : j = gi := e; have := HO.out.lt j hj; have := HN.out; omega)
        refine wpAnyH_ready (rs := [4]) (by kernel_rfl) (by simp) ?_
        refine AllReadyH.cons rfl (fun K hK => ?_) AllReadyH.nil
        refine step_build_row (by rfl) (.tmp 16) 22 rfl 49 Tryd.underlying22 info_spend (by decide) (by decide) cs HSZ.out (by first | rfl | simp [Act.eval]) ?_
        obtain ⟨k2, hk2⟩ : ∃ x, x = k1.alloc (.cells cs 49) := ⟨_, rfl⟩
        rw [← hk2]
        have hbk2 : Below k1.heap.size k1 k2 := by rw [hk2]; exact (Below.refl _ _).alloc (Nat.le_refl _) _
        have hX2 : Recs spRec k2 (some ⟨k1.heap.size, 0, none⟩) 1 [X] := by rw [hk2]; exact recs_one HX.out.1 HX.out.2.1
        have hm2F : Moved (fun j => j = gi ∨ j = gt ∨ B ≤ j) k1 k2 := Moved.of_below hbk2
        refine hK.out _ _ (HeldM.of hm2F) (fun _ => ?_)
        clear hK K
        try simp only [Act.put]
        try simp only [List.setIfInBounds_toArray]
        try simp only [List.set_cons_zero, List.set_cons_succ]
        refine heldM_grow (w1 := k2) hm2F ?_
        clear hHeld
        have hHeld : HeldM (fun j => j = gi ∨ j = gt ∨ B ≤ j) k2 k2 := HeldM.refl _ _
        obtain ⟨g9, hg9⟩ : ∃ g, g = k1.heap.size := ⟨_, rfl⟩
        rw [← hg9] at hX2 ⊢
        clear hk2 hg9
        have hT2 := hT1.under hbk2 hT1.lt
        have hR2 := hR1.under hbk2 hR1.lt
        have ho2 := ho1.below hbk2
        have hBk2 : B ≤ k2.heap.size := Nat.le_trans (Nat.le_trans HB.out.2 hm1.size) hbk2.size
        refine wpAnyH_ready (rs := [5]) (by kernel_rfl) (by simp) ?_
        refine AllReadyH.cons rfl (fun K hK => ?_) AllReadyH.nil
        refine step_append_recs (R := spRec) (by rfl) (.tmp 14) (.tmp 17) 22 rfl 49 Tryd.underlying22 info_spend rfl (by decide) B _ L0 (by first | rfl | simp [Act.eval]) ho2 (some ⟨g9, 0, none⟩) 1 1 [X] (by first | rfl | simp [Act.eval]) hX2 (fun e => by cases e) (by have := HX.out.2.2; have := HS1.out.2.2; omega) hBk2 ?_
        intro va k3 ho3 hg3 hl3
        obtain ⟨oa', oq', rfl, _⟩ := ho3.shape (K := k + 1) (by rw [List.length_append, HX.out.2.2]; rfl)
        have hm3 : Moved (fun j => B ≤ j) k2 k3 := Moved.of_grown hg3 (fun j e => ho2.lt j e)
        have hm3F : Moved (fun j => j = gi ∨ j = gt ∨ B ≤ j) k2 k3 := hm3.mono (fun _ e => .inr (.inr e))
        refine hK.out _ _ (HeldM.of hm3F) (fun _ => ?_)
        clear hK K
        try simp only [Act.put]
        try simp only [List.setIfInBounds_toArray]
        try simp only [List.set_cons_zero, List.set_cons_succ]
        refine heldM_grow (w1 := k3) hm3F ?_
        clear hHeld
        have hHeld : HeldM (fun j => j = gi ∨ j = gt ∨ B ≤ j) k3 k3 := HeldM.refl _ _
        have hT3 := hT2.moved hm3 (fun e => by have e2 : B ≤ gt := e; have := HN.out; omega)
        have hR3 := hR2.moved hm3 (fun e => by have e2 : B ≤ g2 := e; have := HN.out; omega)
        have cg : k3.cell? ⟨gt, 0, none⟩ = some (.slice oa k oq) := hT3.cell_at rfl
        have lg := hT3.loose 0
        refine take_at (v := ?_) 6 19 rfl rfl (by kernel_rfl) (by kernel_rfl) (by kernel_rfl) (fun _ _ _ h => h) hHeld (Or.inl ⟨by rfl, ?_⟩) rfl ?_
        rotate_left
        · intro wq hSw
          go_simp
          try with_reducible rfl
        try simp only [List.set_cons_zero, List.set_cons_succ]
        refine wpAnyH_ready (rs := [7]) (by kernel_rfl) (by simp) ?_
        refine AllReadyH.cons rfl (fun K hK => ?_) AllReadyH.nil
        go_simp
        obtain ⟨k4, hk4⟩ : ∃ x, x = k3.setCell ⟨gt, 0, none⟩ (.slice oa' (k + 1) oq') := ⟨_, rfl⟩
        rw [← hk4]
        have hm4 : Moved (fun j => j = gt) k3 k4 := by rw [hk4]; exact Moved.put (F := fun j => j = gt) (Moved.refl _ _) (.inl rfl) _ _
        have hT4 : Has k4 gt 25 #[.slice oa' (k + 1) oq', .slice none 0 0, .bool false] := by rw [hk4]; exact hT3.put 0 (.slice oa' (k + 1) oq')
        refine hK.out _ _ (HeldM.of (hm4.mono (fun _ e => .inr (.inl e)))) (fun _ => ?_)
        clear hK K cg lg hk4 hHeld
        refine wpAnyH_done (by kernel_rfl) ?_ _
        have hm24 : Moved (fun j => j = gt ∨ B ≤ j) k2 k4 := (hm3.mono (fun _ e => .inr e)).trans hm4 (fun _ e => .inl (.inl e))
        have hI4 := (hI1.below hbk2).moved hm24 (fun e => by have := HN.out; rcases e with e | e <;> omega) (fun j hj e => by have := HN.out; have := HN.out.2.2.2.2 j hj; rcases e with e | e <;> omega)
        have hR4 := hR3.moved hm4 (fun e => by have e2 : g2 = gt := e; have := HN.out; omega)
        have ho4 := ho3.moved hm4 (fun j hj e => by have e2 : j = gt := e; have := ho3.lt j hj; have := HN.out; omega)
        have hm04 : Moved (fun j => j = gi ∨ j = gt ∨ B ≤ j) ws k4 := (hm1F.trans (Moved.of_below (F := fun _ => False) hbk2) (fun _ e => e.elim)).trans hm24 (fun j e => .inl (.inr e))
        have hb4 := HB.out.1.trans (hm04.below (fun j e => by have := HN.out; rcases e with e | e | e <;> omega) HB.out.1.size)
        have hBr4 := Nat.le_trans HB.out.2 hm04.size
        rw [← HNX.out.2] at ho4
        rw [← HNX.out.1] at hI4
        clear hm1 hm1F hT1 hR1 ho1 hbk2 hX2 hm2F hT2 hR2 ho2 hBk2 ho3 hg3 hl3 hm3 hm3F hT3 hR3 hm4 hm24 hm04 hI1
        have hk9 : NK ≤ 8 := HS1.out.2.2
        go_wp2
        go_roundw
        case rel => exact ⟨k + 1, oa', oq', by omega, by go_num, hI4, hT4, ho4, hR4, hb4, hBr4⟩
        case measure => (simp [intOf]; try omega)
      · go_simp
        go_at_call 34; refine HRC.out.mono ?_; rintro e k1 ⟨rfl, hI1, hm1⟩
        have hm1F : Moved (fun j => j = gi ∨ j = gt ∨ B ≤ j) ws k1 := hm1.mono (fun _ e => .inl e)
        refine hK.out _ _ (HeldM.of hm1F) (fun _ => ?_)
        clear hK K
        try simp only [Act.put, List.setIfInBounds_toArray, List.set_cons_zero, List.set_cons_succ]
        refine heldM_grow (w1 := k1) hm1F ?_
        clear hHeld
        have hHeld : HeldM (fun j => j = gi ∨ j = gt ∨ B ≤ j) k1 k1 := HeldM.refl _ _
        have hT1 := HT.out.moved hm1 (fun e => by have e2 : gt = gi := e; have := HN.out; omega)
        have hR1 := HR.out.moved hm1 (fun e => by have e2 : g2 = gi := e; have := HN.out; omega)
        have ho1 := HO.out.moved hm1 (fun j hj e => by have e2 : j = gi := e; have := HO.out.lt j hj; have := HN.out; omega)
        refine wpAnyH_ready (rs := [1, 4]) (by kernel_rfl) (by simp) ?_
        refine AllReadyH.cons rfl (fun K hK => ?_) (AllReadyH.cons rfl (fun K hK => ?_) AllReadyH.nil)
        · have cg : k1.cell? ⟨gt, 0, none⟩ = some (.slice oa k oq) := hT1.cell_at rfl
          go_simp
          refine hK.out _ _ hHeld (fun _ => ?_)
          clear hK K cg
          try simp only [Act.put, List.setIfInBounds_toArray, List.set_cons_zero, List.set_cons_succ]
          refine wpAnyH_ready (rs := [4]) (by kernel_rfl) (by simp) ?_
          refine AllReadyH.cons rfl (fun K hK => ?_) AllReadyH.nil
          refine step_build_row (by rfl) (.tmp 16) 22 rfl 49 Tryd.underlying22 info_spend (by decide) (by decide) cs HSZ.out (by first | rfl | simp [Act.eval]) ?_
          obtain ⟨k2, hk2⟩ : ∃ x, x = k1.alloc (.cells cs 49) := ⟨_, rfl⟩
          rw [← hk2]
          have hbk2 : Below k1.heap.size k1 k2 := by rw [hk2]; exact (Below.refl _ _).alloc (Nat.le_refl _) _
          have hX2 : Recs spRec k2 (some ⟨k1.heap.size, 0, none⟩) 1 [X] := by rw [hk2]; exact recs_one HX.out.1 HX.out.2.1
          have hm2F : Moved (fun j => j = gi ∨ j = gt ∨ B ≤ j) k1 k2 := Moved.of_below hbk2
          refine hK.out _ _ (HeldM.of hm2F) (fun _ => ?_)
          clear hK K
          try simp only [Act.put]
          try simp only [List.setIfInBounds_toArray]
          try simp only [List.set_cons_zero, List.set_cons_succ]
          refine heldM_grow (w1 := k2) hm2F ?_
          clear hHeld
          have hHeld : HeldM (fun j => j = gi ∨ j = gt ∨ B ≤ j) k2 k2 := HeldM.refl _ _
          obtain ⟨g9, hg9⟩ : ∃ g, g = k1.heap.size := ⟨_, rfl⟩
          rw [← hg9] at hX2 ⊢
          clear hk2 hg9
          have hT2 := hT1.under hbk2 hT1.lt
          have hR2 := hR1.under hbk2 hR1.lt
          have ho2 := ho1.below hbk2
          have hBk2 : B ≤ k2.heap.size := Nat.le_trans (Nat.le_trans HB.out.2 hm1.size) hbk2.size
          refine wpAnyH_ready (rs := [5]) (by kernel_rfl) (by simp) ?_
          refine AllReadyH.cons rfl (fun K hK => ?_) AllReadyH.nil
          refine step_append_recs (R := spRec) (by rfl) (.tmp 14) (.tmp 17) 22 rfl 49 Tryd.underlying22 info_spend rfl (by decide) B _ L0 (by first | rfl | simp [Act.eval]) ho2 (some ⟨g9, 0, none⟩) 1 1 [X] (by first | rfl | simp [Act.eval]) hX2 (fun e => by cases e) (by have := HX.out.2.2; have := HS1.out.2.2; omega) hBk2 ?_
          intro va k3 ho3 hg3 hl3
          obtain ⟨oa', oq', rfl, _⟩ := ho3.shape (K := k + 1) (by rw [List.length_append, HX.out.2.2]; rfl)
          have hm3 : Moved (fun j => B ≤ j) k2 k3 := Moved.of_grown hg3 (fun j e => ho2.lt j e)
          have hm3F : Moved (fun j => j = gi ∨ j = gt ∨ B ≤ j) k2 k3 := hm3.mono (fun _ e => .inr (.inr e))
          refine hK.out _ _ (HeldM.of hm3F) (fun _ => ?_)
          clear hK K
          try simp only [Act.put]
          try simp only [List.setIfInBounds_toArray]
          try simp only [List.set_cons_zero, List.set_cons_succ]
          refine heldM_grow (w1 := k3) hm3F ?_
          clear hHeld
          have hHeld : HeldM (fun j => j = gi ∨ j = gt ∨ B ≤ j) k3 k3 := HeldM.refl _ _
          have hT3 := hT2.moved hm3 (fun e => by have e2 : B ≤ gt := e; have := HN.out; omega)
          have hR3 := hR2.moved hm3 (fun e => by have e2 : B ≤ g2 := e; have := HN.out; omega)
          have cg : k3.cell? ⟨gt, 0, none⟩ = some (.slice oa k oq) := hT3.cell_at rfl
          have lg := hT3.loose 0
          refine take_at (v := ?_) 6 19 rfl rfl (by kernel_rfl) (by kernel_rfl) (by kernel_rfl) (fun _ _ _ h => h) hHeld (Or.inl ⟨by rfl, ?_⟩) rfl ?_
          rotate_left
          · intro wq hSw
            go_simp
            try with_reducible rfl
          try simp only [List.set_cons_zero, List.set_cons_succ]
          refine wpAnyH_ready (rs := [7]) (by kernel_rfl) (by simp) ?_
          refine AllReadyH.cons rfl (fun K hK => ?_) AllReadyH.nil
          go_simp
          obtain ⟨k4, hk4⟩ : ∃ x, x = k3.setCell ⟨gt, 0, none⟩ (.slice oa' (k + 1) oq') := ⟨_, rfl⟩
          rw [← hk4]
          have hm4 : Moved (fun j => j = gt) k3 k4 := by rw [hk4]; exact Moved.put (F := fun j => j = gt) (Moved.refl _ _) (.inl rfl) _ _
          have hT4 : Has k4 gt 25 #[.slice oa' (k + 1) oq', .slice none 0 0, .bool false] := by rw [hk4]; exact hT3.put 0 (.slice oa' (k + 1) oq')
          refine hK.out _ _ (HeldM.of (hm4.mono (fun _ e => .inr (.inl e)))) (fun _ => ?_)
          clear hK K cg lg hk4 hHeld
          refine wpAnyH_done (by kernel_rfl) ?_ _
          have hm24 : Moved (fun j => j = gt ∨ B ≤ j) k2 k4 := (hm3.mono (fun _ e => .inr e)).trans hm4 (fun _ e => .inl (.inl e))
          have hI4 := (hI1.below hbk2).moved hm24 (fun e => by have := HN.out; rcases e with e | e <;> omega) (fun j hj e => by have := HN.out; have := HN.out.2.2.2.2 j hj; rcases e with e | e <;> omega)
          have hR4 := hR3.moved hm4 (fun e => by have e2 : g2 = gt := e; have := HN.out; omega)
          have ho4 := ho3.moved hm4 (fun j hj e => by have e2 : j = gt := e; have := ho3.lt j hj; have := HN.out; omega)
          have hm04 : Moved (fun j => j = gi ∨ j = gt ∨ B ≤ j) ws k4 := (hm1F.trans (Moved.of_below (F := fun _ => False) hbk2) (fun _ e => e.elim)).trans hm24 (fun j e => .inl (.inr e))
          have hb4 := HB.out.1.trans (hm04.below (fun j e => by have := HN.out; rcases e with e | e | e <;> omega) HB.out.1.size)
          have hBr4 := Nat.le_trans HB.out.2 hm04.size
          rw [← HNX.out.2] at ho4
          rw [← HNX.out.1] at hI4
          clear hm1 hm1F hT1 hR1 ho1 hbk2 hX2 hm2F hT2 hR2 ho2 hBk2 ho3 hg3 hl3 hm3 hm3F hT3 hR3 hm4 hm24 hm04 hI1
          have hk9 : NK ≤ 8 := HS1.out.2.2
          go_wp2
          go_roundw
          case rel => exact ⟨k + 1, oa', oq', by omega, by go_num, hI4, hT4, ho4, hR4, hb4, hBr4⟩
          case measure => (simp [intOf]; try omega)
        · refine step_build_row (by rfl) (.tmp 16) 22 rfl 49 Tryd.underlying22 info_spend (by decide) (by decide) cs HSZ.out (by first | rfl | simp [Act.eval]) ?_
          obtain ⟨k2, hk2⟩ : ∃ x, x = k1.alloc (.cells cs 49) := ⟨_, rfl⟩
          rw [← hk2]
          have hbk2 : Below k1.heap.size k1 k2 := by rw [hk2]; exact (Below.refl _ _).alloc (Nat.le_refl _) _
          have hX2 : Recs spRec k2 (some ⟨k1.heap.size, 0, none⟩) 1 [X] := by rw [hk2]; exact recs_one HX.out.1 HX.out.2.1
          have hm2F : Moved (fun j => j = gi ∨ j = gt ∨ B ≤ j) k1 k2 := Moved.of_below hbk2
          refine hK.out _ _ (HeldM.of hm2F) (fun _ => ?_)
          clear hK K
          try simp only [Act.put]
          try simp only [List.setIfInBounds_toArray]
          try simp only [List.set_cons_zero, List.set_cons_succ]
          refine heldM_grow (w1 := k2) hm2F ?_
          clear hHeld
          have hHeld : HeldM (fun j => j = gi ∨ j = gt ∨ B ≤ j) k2 k2 := HeldM.refl _ _
          obtain ⟨g9, hg9⟩ : ∃ g, g = k1.heap.size := ⟨_, rfl⟩
          rw [← hg9] at hX2 ⊢
          clear hk2 hg9
          have hT2 := hT1.under hbk2 hT1.lt
          have hR2 := hR1.under hbk2 hR1.lt
          have ho2 := ho1.below hbk2
          refine wpAnyH_ready (rs := [1]) (by kernel_rfl) (by simp) ?_
          refine AllReadyH.cons rfl (fun K hK => ?_) AllReadyH.nil
          have cg : k2.cell? ⟨gt, 0, none⟩ = some (.slice oa k oq) := hT2.cell_at rfl
          go_simp
          refine hK.out _ _ hHeld (fun _ => ?_)
          clear hK K cg
          try simp only [Act.put, List.setIfInBounds_toArray, List.set_cons_zero, List.set_cons_succ]
          have hBk2 : B ≤ k2.heap.size := Nat.le_trans (Nat.le_trans HB.out.2 hm1.size) hbk2.size
          refine wpAnyH_ready (rs := [5]) (by kernel_rfl) (by simp) ?_
          refine AllReadyH.cons rfl (fun K hK => ?_) AllReadyH.nil
          refine step_append_recs (R := spRec) (by rfl) (.tmp 14) (.tmp 17) 22 rfl 49 Tryd.underlying22 info_spend rfl (by decide) B _ L0 (by first | rfl | simp [Act.eval]) ho2 (some ⟨g9, 0, none⟩) 1 1 [X] (by first | rfl | simp [Act.eval]) hX2 (fun e => by cases e) (by have := HX.out.2.2; have := HS1.out.2.2; omega) hBk2 ?_
          intro va k3 ho3 hg3 hl3
          obtain ⟨oa', oq', rfl, _⟩ := ho3.shape (K := k + 1) (by rw [List.length_append, HX.out.2.2]; rfl)
          have hm3 : Moved (fun j => B ≤ j) k2 k3 := Moved.of_grown hg3 (fun j e => ho2.lt j e)
          have hm3F : Moved (fun j => j = gi ∨ j = gt ∨ B ≤ j) k2 k3 := hm3.mono (fun _ e => .inr (.inr e))
          refine hK.out _ _ (HeldM.of hm3F) (fun _ => ?_)
          clear hK K
          try simp only [Act.put]
          try simp only [List.setIfInBounds_toArray]
          try simp only [List.set_cons_zero, List.set_cons_succ]
          refine heldM_grow (w1 := k3) hm3F ?_
          clear hHeld
          have hHeld : HeldM (fun j => j = gi ∨ j = gt ∨ B ≤ j) k3 k3 := HeldM.refl _ _
          have hT3 := hT2.moved hm3 (fun e => by have e2 : B ≤ gt := e; have := HN.out; omega)
          have hR3 := hR2.moved hm3 (fun e => by have e2 : B ≤ g2 := e; have := HN.out; omega)
          have cg : k3.cell? ⟨gt, 0, none⟩ = some (.slice oa k oq) := hT3.cell_at rfl
          have lg := hT3.loose 0
          refine take_at (v := ?_) 6 19 rfl rfl (by kernel_rfl) (by kernel_rfl) (by kernel_rfl) (fun _ _ _ h => h) hHeld (Or.inl ⟨by rfl, ?_⟩) rfl ?_
          rotate_left
          · intro wq hSw
            go_simp
            try with_reducible rfl
          try simp only [List.set_cons_zero, List.set_cons_succ]
          refine wpAnyH_ready (rs := [7]) (by kernel_rfl) (by simp) ?_
          refine AllReadyH.cons rfl (fun K hK => ?_) AllReadyH.nil
          go_simp
          obtain ⟨k4, hk4⟩ : ∃ x, x = k3.setCell ⟨gt, 0, none⟩ (.slice oa' (k + 1) oq') := ⟨_, rfl⟩
          rw [← hk4]
          have hm4 : Moved (fun j => j = gt) k3 k4 := by rw [hk4]; exact Moved.put (F := fun j => j = gt) (Moved.refl _ _) (.inl rfl) _ _
          have hT4 : Has k4 gt 25 #[.slice oa' (k + 1) oq', .slice none 0 0, .bool false] := by rw [hk4]; exact hT3.put 0 (.slice oa' (k + 1) oq')
          refine hK.out _ _ (HeldM.of (hm4.mono (fun _ e => .inr (.inl e)))) (fun _ => ?_)
          clear hK K cg lg hk4 hHeld
          refine wpAnyH_done (by kernel_rfl) ?_ _
          have hm24 : Moved (fun j => j = gt ∨ B ≤ j) k2 k4 := (hm3.mono (fun _ e => .inr e)).trans hm4 (fun _ e => .inl (.inl e))
          have hI4 := (hI1.below hbk2).moved hm24 (fun e => by have := HN.out; rcases e with e | e <;> omega) (fun j hj e => by have := HN.out; have := HN.out.2.2.2.2 j hj; rcases e with e | e <;> omega)
          have hR4 := hR3.moved hm4 (fun e => by have e2 : g2 = gt := e; have := HN.out; omega)
          have ho4 := ho3.moved hm4 (fun j hj e => by have e2 : j = gt := e; have := ho3.lt j hj; have := HN.out; omega)
          have hm04 : Moved (fun j => j = gi ∨ j = gt ∨ B ≤ j) ws k4 := (hm1F.trans (Moved.of_below (F := fun _ => False) hbk2) (fun _ e => e.elim)).trans hm24 (fun j e => .inl (.inr e))
          have hb4 := HB.out.1.trans (hm04.below (fun j e => by have := HN.out; rcases e with e | e | e <;> omega) HB.out.1.size)
          have hBr4 := Nat.le_trans HB.out.2 hm04.size
          rw [← HNX.out.2] at ho4
          rw [← HNX.out.1] at hI4
          clear hm1 hm1F hT1 hR1 ho1 hbk2 hX2 hm2F hT2 hR2 ho2 hBk2 ho3 hg3 hl3 hm3 hm3F hT3 hR3 hm4 hm24 hm04 hI1
          have hk9 : NK ≤ 8 := HS1.out.2.2
          go_wp2
          go_roundw
          case rel => exact ⟨k + 1, oa', oq', by omega, by go_num, hI4, hT4, ho4, hR4, hb4, hBr4⟩
          case measure => (simp [intOf]; try omega)
    · have hki : ¬ (k : Int) < (NK : Int) := by omega
      obtain rfl : NK = k := by omega
      clear hk hlt
      obtain ⟨sa, hsa⟩ : ∃ x, x = oa := ⟨_, rfl⟩
      obtain ⟨sq, hsq⟩ : ∃ x, x = oq := ⟨_, rfl⟩
      subst hsa hsq
      obtain ⟨LS, hLS⟩ : ∃ x, x = (Tx.rdSps s1 true NK).2.1 := ⟨_, rfl⟩
      obtain ⟨s2, hs2⟩ : ∃ x, x = (Tx.rdSps s1 true NK).1 := ⟨_, rfl⟩
      obtain ⟨okA, hokA⟩ : ∃ x, x = (Tx.rdSps s1 true NK).2.2 := ⟨_, rfl⟩
      rw [← hLS] at ho
      rw [← hs2] at hI
      have HA := Lib.hid (show LS = (Tx.rdA l).2.1 ∧ s2 = (Tx.rdA l).1 ∧ okA = (Tx.rdA l).2.2 ∧ LS.length = NK from ⟨by rw [hLS, HS1.out.1, HS1.out.2.1]; rfl, by rw [hs2, HS1.out.1, HS1.out.2.1]; rfl, by rw [hokA, HS1.out.1, HS1.out.2.1]; rfl, by rw [hLS]; exact (Tx.sps_flag s1 true NK).2.2⟩)
      clear hLS hs2 hokA
      obtain ⟨pb, hpb⟩ : ∃ x, x = Pk.rdCount s2 8 := ⟨_, rfl⟩
      have HPpb := Lib.hid hpb
      clear hpb
      have HCT := Lib.hid (inCount_any gi r s2 8 (by omega) wr hI)
      clear hI
      rw [← HPpb.out] at HCT
      have hk08 := Tx.rdCount_le s2 8 (by omega)
      rw [← HPpb.out] at hk08
      obtain ⟨k08, k88⟩ := hk08
      obtain ⟨s4, hs4⟩ : ∃ s, s = pb.1 := ⟨_, rfl⟩
      obtain ⟨M, hM⟩ : ∃ M : Nat, pb.2 = M := ⟨pb.2.toNat, by omega⟩
      have HS4 := Lib.hid (show s4 = (Pk.rdCount (Tx.rdA l).1 8).1 ∧ M = (Pk.rdCount (Tx.rdA l).1 8).2.toNat from ⟨by rw [hs4, HPpb.out, HA.out.2.1], by rw [← HA.out.2.1, ← HPpb.out, hM]; rfl⟩)
      have HM8 := Lib.hid (show M ≤ 8 by omega)
      replace HCT := Lib.hid (show Calls Tryd.prog 33 #[.pointer (some ⟨gi, 0, none⟩), .int .i64 8] wr (fun e w' => e = .returned (.int .i64 (M : Int)) ∧ InS w' gi r s4 ∧ Moved (inF gi) wr w') from HCT.out.mono (fun e w' h => by rw [← hM, hs4]; exact h))
      clear hM hs4 k08 k88 HPpb
      skip
      go_wp2_with (go_at_call 33; refine HCT.out.mono ?_; rintro e w6 ⟨rfl, hI, hm4⟩)
      replace hT := hT.moved hm4 (fun e => by have e2 : gt = gi := e; have := HN.out; omega)
      replace ho := ho.moved hm4 (fun k hk e => by have e2 : k = gi := e; have := ho.lt k hk; have := HN.out; omega)
      replace hR := hR.moved hm4 (fun e => by have e2 : g2 = gi := e; have := HN.out; omega)
      replace hb := hb.trans (hm4.below (fun k e => by have e2 : k = gi := e; have := HN.out; omega) hb.size)
      replace hBr := Nat.le_trans hBr hm4.size
      have hoS := ho
      clear ho
      have ho : OwnR coRec 52 B w6 (.slice none 0 0) [] := OwnR.nil _ _ _ _
      clear hm4 HCT
      go_loopw [23] (fun kv wr => ∃ (k : Nat) (oa : Option Addr) (oq : Nat), k ≤ M ∧ kv = .int .i64 k ∧ InS wr gi r (Tx.rdCos s4 okA k).1 ∧ Has wr gt 25 #[.slice sa NK sq, .slice oa k oq, .bool false] ∧ OwnR coRec 52 B wr (.slice oa k oq) (Tx.rdCos s4 okA k).2.1 ∧ OwnR spRec 49 B wr (.slice sa NK sq) LS ∧ Has wr g2 25 zTx ∧ Below w.heap.size w wr ∧ B ≤ wr.heap.size) (fun kv _ => M - (intOf kv).toNat)
      case atStart => exact ⟨0, none, 0, Nat.zero_le _, rfl, hI, hT, ho, hoS, hR, hb, hBr⟩
      case round =>
        clear hI hT ho hoS hR hb hBr
        obtain ⟨k, oa, oq, hk, rfl, hI, hT, ho, hoS, hR, hb, hBr⟩ := hrel
        by_cases hlt : k < M
        · have hki : (k : Int) < (M : Int) := by omega
          have hk0 : (0 : Int) ≤ (k : Int) := by omega
          go_upto_region 9 with fail
          obtain ⟨s, hs⟩ : ∃ s, s = (Tx.rdCos s4 okA k).1 := ⟨_, rfl⟩
          obtain ⟨L0, hL0⟩ : ∃ s, s = (Tx.rdCos s4 okA k).2.1 := ⟨_, rfl⟩
          rw [← hs] at hI
          rw [← hL0] at ho
          obtain ⟨X, hX⟩ : ∃ X, X = (Tx.rdCo s).2.1 := ⟨_, rfl⟩
          obtain ⟨s', hs'⟩ : ∃ x, x = (Tx.rdCo s).1 := ⟨_, rfl⟩
          obtain ⟨cs, hcs⟩ : ∃ cs : Array Value, cs = (coCells X).toArray := ⟨_, rfl⟩
          have HNX := Lib.hid (show (Tx.rdCos s4 okA (k + 1)).1 = s' ∧ (Tx.rdCos s4 okA (k + 1)).2.1 = L0 ++ [X] from ⟨by rw [hs', hs]; rfl, by rw [hX, hL0, hs]; rfl⟩)
          have hokX : coRec.ok X := (Tx.cos_flag s4 okA (k + 1)).2.1 X (by rw [HNX.out.2]; exact List.mem_append_right _ (List.mem_singleton.2 rfl))
          have HX := Lib.hid (show coRec.ok X ∧ cs = (coRec.cells X).toArray ∧ L0.length = k from ⟨hokX, hcs, by rw [hL0]; exact (Tx.cos_flag s4 okA k).2.2⟩)
          have HSZ := Lib.hid (show cs.size = 2 by rw [hcs, List.size_toArray]; exact rfl)
          obtain ⟨ws, hws⟩ : ∃ x, x = wr.drew := ⟨_, rfl⟩
          have hbs : Below wr.heap.size wr ws := by rw [hws]; exact (Below.refl _ _).drew
          replace hI := hI.below hbs
          replace hT := hT.under hbs hT.lt
          replace hR := hR.under hbs hR.lt
          replace hb := hb.trans (hbs.mono hb.size)
          replace hBr := Nat.le_trans hBr hbs.size
          replace ho := ho.below hbs
          replace hoS := hoS.below hbs
          have HRC := Lib.hid (show Calls Tryd.prog 35 #[.pointer (some ⟨gi, 0, none⟩)] ws (fun e w' => e = .returned (.agg cs) ∧ InS w' gi r s' ∧ Moved (inF gi) ws w') from (readCoin_any gi r s ws hI).mono (fun e w' h => by rw [hcs, hX, hs']; exact h))
          have HT := Lib.hid hT
          have HR := Lib.hid hR
          have HO := Lib.hid ho
          have HB := Lib.hid (And.intro hb hBr)
          have HOS := Lib.hid hoS
          clear hoS
          clear hs hL0 hX hs' hcs hokX hI hT hR ho hb hBr hbs
          refine wp_region_held_drew (S := HeldM (fun j => j = gi ∨ j = gt ∨ B ≤ j) ws) (by kernel_rfl) (by rw [hws]; exact HeldM.refl _ _) (fun hHeld => ?_)
          rw [← hws] at hHeld ⊢
          clear hws
          refine take_at (v := ?_) 0 25 rfl rfl (by kernel_rfl) (by kernel_rfl) (by kernel_rfl) (fun _ _ _ h => h) hHeld (Or.inl ⟨by rfl, ?_⟩) rfl ?_
          rotate_left
          · intro wq hSw
            go_simp
            try with_reducible rfl
          simp only [List.set_cons_zero, List.set_cons_succ]
          refine take_at (v := ?_) 2 27 rfl rfl (by kernel_rfl) (by kernel_rfl) (by kernel_rfl) (fun _ _ _ h => h) hHeld (Or.inl ⟨by rfl, ?_⟩) rfl ?_
          rotate_left
          · intro wq hSw
            go_simp
            try with_reducible rfl
          simp only [List.set_cons_zero, List.set_cons_succ]
          refine wpAnyH_ready (rs := [1, 3]) (by kernel_rfl) (by simp) ?_
          refine AllReadyH.cons rfl (fun K hK => ?_) (AllReadyH.cons rfl (fun K hK => ?_) AllReadyH.nil)
          · have cg : ws.cell? ⟨gt, 1, none⟩ = some (.slice oa k oq) := HT.out.cell_at rfl
            go_simp
            refine hK.out _ _ hHeld (fun _ => ?_)
            clear hK K cg
            try simp only [Act.put, List.setIfInBounds_toArray, List.set_cons_zero, List.set_cons_succ]
            refine wpAnyH_ready (rs := [3]) (by kernel_rfl) (by simp) ?_
            refine AllReadyH.cons rfl (fun K hK => ?_) AllReadyH.nil
            go_simp
            go_at_call 35; refine HRC.out.mono ?_; rintro e k1 ⟨rfl, hI1, hm1⟩
            have hm1F : Moved (fun j => j = gi ∨ j = gt ∨ B ≤ j) ws k1 := hm1.mono (fun _ e => .inl e)
            refine hK.out _ _ (HeldM.of hm1F) (fun _ => ?_)
            clear hK K
            try simp only [Act.put, List.setIfInBounds_toArray, List.set_cons_zero, List.set_cons_succ]
            refine heldM_grow (w1 := k1) hm1F ?_
            clear hHeld
            have hHeld : HeldM (fun j => j = gi ∨ j = gt ∨ B ≤ j) k1 k1 := HeldM.refl _ _
            have hT1 := HT.out.moved hm1 (fun e => by have e2 : gt = gi := e; have := HN.out; omega)
            have hR1 := HR.out.moved hm1 (fun e => by have e2 : g2 = gi := e; have := HN.out; omega)
            have ho1 := HO.out.moved hm1 (fun j hj e => by have e2 : j = gi := e; have := HO.out.lt j hj; have := HN.out; omega)
            have hoS1 := HOS.out.moved hm1 (fun j hj e => by have e2 : j = gi := e; have := HOS.out.lt j hj; have := HN.out; omega)
            refine wpAnyH_ready (rs := [4]) (by kernel_rfl) (by simp) ?_
            refine AllReadyH.cons rfl (fun K hK => ?_) AllReadyH.nil
            refine step_build_row (by rfl) (.tmp 28) 23 rfl 52 Tryd.underlying23 info_coin (by decide) (by decide) cs HSZ.out (by first | rfl | simp [Act.eval]) ?_
            obtain ⟨k2, hk2⟩ : ∃ x, x = k1.alloc (.cells cs 52) := ⟨_, rfl⟩
            rw [← hk2]
            have hbk2 : Below k1.heap.size k1 k2 := by rw [hk2]; exact (Below.refl _ _).alloc (Nat.le_refl _) _
            have hX2 : Recs coRec k2 (some ⟨k1.heap.size, 0, none⟩) 1 [X] := by rw [hk2]; exact recs_one HX.out.1 HX.out.2.1
            have hm2F : Moved (fun j => j = gi ∨ j = gt ∨ B ≤ j) k1 k2 := Moved.of_below hbk2
            refine hK.out _ _ (HeldM.of hm2F) (fun _ => ?_)
            clear hK K
            try simp only [Act.put]
            try simp only [List.setIfInBounds_toArray]
            try simp only [List.set_cons_zero, List.set_cons_succ]
            refine heldM_grow (w1 := k2) hm2F ?_
            clear hHeld
            have hHeld : HeldM (fun j => j = gi ∨ j = gt ∨ B ≤ j) k2 k2 := HeldM.refl _ _
            obtain ⟨g9, hg9⟩ : ∃ g, g = k1.heap.size := ⟨_, rfl⟩
            rw [← hg9] at hX2 ⊢
            clear hk2 hg9
            have hT2 := hT1.under hbk2 hT1.lt
            have hR2 := hR1.under hbk2 hR1.lt
            have ho2 := ho1.below hbk2
            have hoS2 := hoS1.below hbk2
            have hBk2 : B ≤ k2.heap.size := Nat.le_trans (Nat.le_trans HB.out.2 hm1.size) hbk2.size
            refine wpAnyH_ready (rs := [5]) (by kernel_rfl) (by simp) ?_
            refine AllReadyH.cons rfl (fun K hK => ?_) AllReadyH.nil
            refine step_append_recs (R := coRec) (by rfl) (.tmp 26) (.tmp 29) 23 rfl 52 Tryd.underlying23 info_coin rfl (by decide) B _ L0 (by first | rfl | simp [Act.eval]) ho2 (some ⟨g9, 0, none⟩) 1 1 [X] (by first | rfl | simp [Act.eval]) hX2 (fun e => by cases e) (by have := HX.out.2.2; have := HS1.out.2.2; have := HM8.out; omega) hBk2 ?_
            intro va k3 ho3 hg3 hl3
            obtain ⟨oa', oq', rfl, _⟩ := ho3.shape (K := k + 1) (by rw [List.length_append, HX.out.2.2]; rfl)
            have hm3 : Moved (fun j => B ≤ j) k2 k3 := Moved.of_grown hg3 (fun j e => ho2.lt j e)
            have hm3F : Moved (fun j => j = gi ∨ j = gt ∨ B ≤ j) k2 k3 := hm3.mono (fun _ e => .inr (.inr e))
            refine hK.out _ _ (HeldM.of hm3F) (fun _ => ?_)
            clear hK K
            try simp only [Act.put]
            try simp only [List.setIfInBounds_toArray]
            try simp only [List.set_cons_zero, List.set_cons_succ]
            refine heldM_grow (w1 := k3) hm3F ?_
            clear hHeld
            have hHeld : HeldM (fun j => j = gi ∨ j = gt ∨ B ≤ j) k3 k3 := HeldM.refl _ _
            have hT3 := hT2.moved hm3 (fun e => by have e2 : B ≤ gt := e; have := HN.out; omega)
            have hR3 := hR2.moved hm3 (fun e => by have e2 : B ≤ g2 := e; have := HN.out; omega)
            have hoS3 : OwnR spRec 49 B k3 (.slice sa NK sq) LS := hoS2.moved (Moved.of_grown (F := fun j => (Value.slice oa k oq).ownBlock = some j) hg3 (fun _ e => e)) (fun j hj e => own_ne (by decide) hoS2 ho2 hj e)
            have cg : k3.cell? ⟨gt, 1, none⟩ = some (.slice oa k oq) := hT3.cell_at rfl
            have lg := hT3.loose 1
            refine take_at (v := ?_) 6 31 rfl rfl (by kernel_rfl) (by kernel_rfl) (by kernel_rfl) (fun _ _ _ h => h) hHeld (Or.inl ⟨by rfl, ?_⟩) rfl ?_
            rotate_left
            · intro wq hSw
              go_simp
              try with_reducible rfl
            try simp only [List.set_cons_zero, List.set_cons_succ]
            refine wpAnyH_ready (rs := [7]) (by kernel_rfl) (by simp) ?_
            refine AllReadyH.cons rfl (fun K hK => ?_) AllReadyH.nil
            go_simp
            obtain ⟨k4, hk4⟩ : ∃ x, x = k3.setCell ⟨gt, 1, none⟩ (.slice oa' (k + 1) oq') := ⟨_, rfl⟩
            rw [← hk4]
            have hm4 : Moved (fun j => j = gt) k3 k4 := by rw [hk4]; exact Moved.put (F := fun j => j = gt) (Moved.refl _ _) (.inl rfl) _ _
            have hT4 : Has k4 gt 25 #[.slice sa NK sq, .slice oa' (k + 1) oq', .bool false] := by rw [hk4]; exact hT3.put 1 (.slice oa' (k + 1) oq')
            refine hK.out _ _ (HeldM.of (hm4.mono (fun _ e => .inr (.inl e)))) (fun _ => ?_)
            clear hK K cg lg hk4 hHeld
            refine wpAnyH_done (by kernel_rfl) ?_ _
            have hm24 : Moved (fun j => j = gt ∨ B ≤ j) k2 k4 := (hm3.mono (fun _ e => .inr e)).trans hm4 (fun _ e => .inl (.inl e))
            have hI4 := (hI1.below hbk2).moved hm24 (fun e => by have := HN.out; rcases e with e | e <;> omega) (fun j hj e => by have := HN.out; have := HN.out.2.2.2.2 j hj; rcases e with e | e <;> omega)
            have hR4 := hR3.moved hm4 (fun e => by have e2 : g2 = gt := e; have := HN.out; omega)
            have ho4 := ho3.moved hm4 (fun j hj e => by have e2 : j = gt := e; have := ho3.lt j hj; have := HN.out; omega)
            have hoS4 := hoS3.moved hm4 (fun j hj e => by have e2 : j = gt := e; have := hoS3.lt j hj; have := HN.out; omega)
            have hm04 : Moved (fun j => j = gi ∨ j = gt ∨ B ≤ j) ws k4 := (hm1F.trans (Moved.of_below (F := fun _ => False) hbk2) (fun _ e => e.elim)).trans hm24 (fun j e => .inl (.inr e))
            have hb4 := HB.out.1.trans (hm04.below (fun j e => by have := HN.out; rcases e with e | e | e <;> omega) HB.out.1.size)
            have hBr4 := Nat.le_trans HB.out.2 hm04.size
            rw [← HNX.out.2] at ho4
            rw [← HNX.out.1] at hI4
            clear hm1 hm1F hT1 hR1 ho1 hbk2 hX2 hm2F hT2 hR2 ho2 hBk2 ho3 hg3 hl3 hm3 hm3F hT3 hR3 hm4 hm24 hm04 hI1 hoS1 hoS2 hoS3
            have hk9 : M ≤ 8 := HM8.out
            go_wp2
            go_roundw
            case rel => exact ⟨k + 1, oa', oq', by omega, by go_num, hI4, hT4, ho4, hoS4, hR4, hb4, hBr4⟩
            case measure => (simp [intOf]; try omega)
          · go_simp
            go_at_call 35; refine HRC.out.mono ?_; rintro e k1 ⟨rfl, hI1, hm1⟩
            have hm1F : Moved (fun j => j = gi ∨ j = gt ∨ B ≤ j) ws k1 := hm1.mono (fun _ e => .inl e)
            refine hK.out _ _ (HeldM.of hm1F) (fun _ => ?_)
            clear hK K
            try simp only [Act.put, List.setIfInBounds_toArray, List.set_cons_zero, List.set_cons_succ]
            refine heldM_grow (w1 := k1) hm1F ?_
            clear hHeld
            have hHeld : HeldM (fun j => j = gi ∨ j = gt ∨ B ≤ j) k1 k1 := HeldM.refl _ _
            have hT1 := HT.out.moved hm1 (fun e => by have e2 : gt = gi := e; have := HN.out; omega)
            have hR1 := HR.out.moved hm1 (fun e => by have e2 : g2 = gi := e; have := HN.out; omega)
            have ho1 := HO.out.moved hm1 (fun j hj e => by have e2 : j = gi := e; have := HO.out.lt j hj; have := HN.out; omega)
            have hoS1 := HOS.out.moved hm1 (fun j hj e => by have e2 : j = gi := e; have := HOS.out.lt j hj; have := HN.out; omega)
            refine wpAnyH_ready (rs := [1, 4]) (by kernel_rfl) (by simp) ?_
            refine AllReadyH.cons rfl (fun K hK => ?_) (AllReadyH.cons rfl (fun K hK => ?_) AllReadyH.nil)
            · have cg : k1.cell? ⟨gt, 1, none⟩ = some (.slice oa k oq) := hT1.cell_at rfl
              go_simp
              refine hK.out _ _ hHeld (fun _ => ?_)
              clear hK K cg
              try simp only [Act.put, List.setIfInBounds_toArray, List.set_cons_zero, List.set_cons_succ]
              refine wpAnyH_ready (rs := [4]) (by kernel_rfl) (by simp) ?_
              refine AllReadyH.cons rfl (fun K hK => ?_) AllReadyH.nil
              refine step_build_row (by rfl) (.tmp 28) 23 rfl 52 Tryd.underlying23 info_coin (by decide) (by decide) cs HSZ.out (by first | rfl | simp [Act.eval]) ?_
              obtain ⟨k2, hk2⟩ : ∃ x, x = k1.alloc (.cells cs 52) := ⟨_, rfl⟩
              rw [← hk2]
              have hbk2 : Below k1.heap.size k1 k2 := by rw [hk2]; exact (Below.refl _ _).alloc (Nat.le_refl _) _
              have hX2 : Recs coRec k2 (some ⟨k1.heap.size, 0, none⟩) 1 [X] := by rw [hk2]; exact recs_one HX.out.1 HX.out.2.1
              have hm2F : Moved (fun j => j = gi ∨ j = gt ∨ B ≤ j) k1 k2 := Moved.of_below hbk2
              refine hK.out _ _ (HeldM.of hm2F) (fun _ => ?_)
              clear hK K
              try simp only [Act.put]
              try simp only [List.setIfInBounds_toArray]
              try simp only [List.set_cons_zero, List.set_cons_succ]
              refine heldM_grow (w1 := k2) hm2F ?_
              clear hHeld
              have hHeld : HeldM (fun j => j = gi ∨ j = gt ∨ B ≤ j) k2 k2 := HeldM.refl _ _
              obtain ⟨g9, hg9⟩ : ∃ g, g = k1.heap.size := ⟨_, rfl⟩
              rw [← hg9] at hX2 ⊢
              clear hk2 hg9
              have hT2 := hT1.under hbk2 hT1.lt
              have hR2 := hR1.under hbk2 hR1.lt
              have ho2 := ho1.below hbk2
              have hoS2 := hoS1.below hbk2
              have hBk2 : B ≤ k2.heap.size := Nat.le_trans (Nat.le_trans HB.out.2 hm1.size) hbk2.size
              refine wpAnyH_ready (rs := [5]) (by kernel_rfl) (by simp) ?_
              refine AllReadyH.cons rfl (fun K hK => ?_) AllReadyH.nil
              refine step_append_recs (R := coRec) (by rfl) (.tmp 26) (.tmp 29) 23 rfl 52 Tryd.underlying23 info_coin rfl (by decide) B _ L0 (by first | rfl | simp [Act.eval]) ho2 (some ⟨g9, 0, none⟩) 1 1 [X] (by first | rfl | simp [Act.eval]) hX2 (fun e => by cases e) (by have := HX.out.2.2; have := HS1.out.2.2; have := HM8.out; omega) hBk2 ?_
              intro va k3 ho3 hg3 hl3
              obtain ⟨oa', oq', rfl, _⟩ := ho3.shape (K := k + 1) (by rw [List.length_append, HX.out.2.2]; rfl)
              have hm3 : Moved (fun j => B ≤ j) k2 k3 := Moved.of_grown hg3 (fun j e => ho2.lt j e)
              have hm3F : Moved (fun j => j = gi ∨ j = gt ∨ B ≤ j) k2 k3 := hm3.mono (fun _ e => .inr (.inr e))
              refine hK.out _ _ (HeldM.of hm3F) (fun _ => ?_)
              clear hK K
              try simp only [Act.put]
              try simp only [List.setIfInBounds_toArray]
              try simp only [List.set_cons_zero, List.set_cons_succ]
              refine heldM_grow (w1 := k3) hm3F ?_
              clear hHeld
              have hHeld : HeldM (fun j => j = gi ∨ j = gt ∨ B ≤ j) k3 k3 := HeldM.refl _ _
              have hT3 := hT2.moved hm3 (fun e => by have e2 : B ≤ gt := e; have := HN.out; omega)
              have hR3 := hR2.moved hm3 (fun e => by have e2 : B ≤ g2 := e; have := HN.out; omega)
              have hoS3 : OwnR spRec 49 B k3 (.slice sa NK sq) LS := hoS2.moved (Moved.of_grown (F := fun j => (Value.slice oa k oq).ownBlock = some j) hg3 (fun _ e => e)) (fun j hj e => own_ne (by decide) hoS2 ho2 hj e)
              have cg : k3.cell? ⟨gt, 1, none⟩ = some (.slice oa k oq) := hT3.cell_at rfl
              have lg := hT3.loose 1
              refine take_at (v := ?_) 6 31 rfl rfl (by kernel_rfl) (by kernel_rfl) (by kernel_rfl) (fun _ _ _ h => h) hHeld (Or.inl ⟨by rfl, ?_⟩) rfl ?_
              rotate_left
              · intro wq hSw
                go_simp
                try with_reducible rfl
              try simp only [List.set_cons_zero, List.set_cons_succ]
              refine wpAnyH_ready (rs := [7]) (by kernel_rfl) (by simp) ?_
              refine AllReadyH.cons rfl (fun K hK => ?_) AllReadyH.nil
              go_simp
              obtain ⟨k4, hk4⟩ : ∃ x, x = k3.setCell ⟨gt, 1, none⟩ (.slice oa' (k + 1) oq') := ⟨_, rfl⟩
              rw [← hk4]
              have hm4 : Moved (fun j => j = gt) k3 k4 := by rw [hk4]; exact Moved.put (F := fun j => j = gt) (Moved.refl _ _) (.inl rfl) _ _
              have hT4 : Has k4 gt 25 #[.slice sa NK sq, .slice oa' (k + 1) oq', .bool false] := by rw [hk4]; exact hT3.put 1 (.slice oa' (k + 1) oq')
              refine hK.out _ _ (HeldM.of (hm4.mono (fun _ e => .inr (.inl e)))) (fun _ => ?_)
              clear hK K cg lg hk4 hHeld
              refine wpAnyH_done (by kernel_rfl) ?_ _
              have hm24 : Moved (fun j => j = gt ∨ B ≤ j) k2 k4 := (hm3.mono (fun _ e => .inr e)).trans hm4 (fun _ e => .inl (.inl e))
              have hI4 := (hI1.below hbk2).moved hm24 (fun e => by have := HN.out; rcases e with e | e <;> omega) (fun j hj e => by have := HN.out; have := HN.out.2.2.2.2 j hj; rcases e with e | e <;> omega)
              have hR4 := hR3.moved hm4 (fun e => by have e2 : g2 = gt := e; have := HN.out; omega)
              have ho4 := ho3.moved hm4 (fun j hj e => by have e2 : j = gt := e; have := ho3.lt j hj; have := HN.out; omega)
              have hoS4 := hoS3.moved hm4 (fun j hj e => by have e2 : j = gt := e; have := hoS3.lt j hj; have := HN.out; omega)
              have hm04 : Moved (fun j => j = gi ∨ j = gt ∨ B ≤ j) ws k4 := (hm1F.trans (Moved.of_below (F := fun _ => False) hbk2) (fun _ e => e.elim)).trans hm24 (fun j e => .inl (.inr e))
              have hb4 := HB.out.1.trans (hm04.below (fun j e => by have := HN.out; rcases e with e | e | e <;> omega) HB.out.1.size)
              have hBr4 := Nat.le_trans HB.out.2 hm04.size
              rw [← HNX.out.2] at ho4
              rw [← HNX.out.1] at hI4
              clear hm1 hm1F hT1 hR1 ho1 hbk2 hX2 hm2F hT2 hR2 ho2 hBk2 ho3 hg3 hl3 hm3 hm3F hT3 hR3 hm4 hm24 hm04 hI1 hoS1 hoS2 hoS3
              have hk9 : M ≤ 8 := HM8.out
              go_wp2
              go_roundw
              case rel => exact ⟨k + 1, oa', oq', by omega, by go_num, hI4, hT4, ho4, hoS4, hR4, hb4, hBr4⟩
              case measure => (simp [intOf]; try omega)
            · refine step_build_row (by rfl) (.tmp 28) 23 rfl 52 Tryd.underlying23 info_coin (by decide) (by decide) cs HSZ.out (by first | rfl | simp [Act.eval]) ?_
              obtain ⟨k2, hk2⟩ : ∃ x, x = k1.alloc (.cells cs 52) := ⟨_, rfl⟩
              rw [← hk2]
              have hbk2 : Below k1.heap.size k1 k2 := by rw [hk2]; exact (Below.refl _ _).alloc (Nat.le_refl _) _
              have hX2 : Recs coRec k2 (some ⟨k1.heap.size, 0, none⟩) 1 [X] := by rw [hk2]; exact recs_one HX.out.1 HX.out.2.1
              have hm2F : Moved (fun j => j = gi ∨ j = gt ∨ B ≤ j) k1 k2 := Moved.of_below hbk2
              refine hK.out _ _ (HeldM.of hm2F) (fun _ => ?_)
              clear hK K
              try simp only [Act.put]
              try simp only [List.setIfInBounds_toArray]
              try simp only [List.set_cons_zero, List.set_cons_succ]
              refine heldM_grow (w1 := k2) hm2F ?_
              clear hHeld
              have hHeld : HeldM (fun j => j = gi ∨ j = gt ∨ B ≤ j) k2 k2 := HeldM.refl _ _
              obtain ⟨g9, hg9⟩ : ∃ g, g = k1.heap.size := ⟨_, rfl⟩
              rw [← hg9] at hX2 ⊢
              clear hk2 hg9
              have hT2 := hT1.under hbk2 hT1.lt
              have hR2 := hR1.under hbk2 hR1.lt
              have ho2 := ho1.below hbk2
              have hoS2 := hoS1.below hbk2
              refine wpAnyH_ready (rs := [1]) (by kernel_rfl) (by simp) ?_
              refine AllReadyH.cons rfl (fun K hK => ?_) AllReadyH.nil
              have cg : k2.cell? ⟨gt, 1, none⟩ = some (.slice oa k oq) := hT2.cell_at rfl
              go_simp
              refine hK.out _ _ hHeld (fun _ => ?_)
              clear hK K cg
              try simp only [Act.put, List.setIfInBounds_toArray, List.set_cons_zero, List.set_cons_succ]
              have hBk2 : B ≤ k2.heap.size := Nat.le_trans (Nat.le_trans HB.out.2 hm1.size) hbk2.size
              refine wpAnyH_ready (rs := [5]) (by kernel_rfl) (by simp) ?_
              refine AllReadyH.cons rfl (fun K hK => ?_) AllReadyH.nil
              refine step_append_recs (R := coRec) (by rfl) (.tmp 26) (.tmp 29) 23 rfl 52 Tryd.underlying23 info_coin rfl (by decide) B _ L0 (by first | rfl | simp [Act.eval]) ho2 (some ⟨g9, 0, none⟩) 1 1 [X] (by first | rfl | simp [Act.eval]) hX2 (fun e => by cases e) (by have := HX.out.2.2; have := HS1.out.2.2; have := HM8.out; omega) hBk2 ?_
              intro va k3 ho3 hg3 hl3
              obtain ⟨oa', oq', rfl, _⟩ := ho3.shape (K := k + 1) (by rw [List.length_append, HX.out.2.2]; rfl)
              have hm3 : Moved (fun j => B ≤ j) k2 k3 := Moved.of_grown hg3 (fun j e => ho2.lt j e)
              have hm3F : Moved (fun j => j = gi ∨ j = gt ∨ B ≤ j) k2 k3 := hm3.mono (fun _ e => .inr (.inr e))
              refine hK.out _ _ (HeldM.of hm3F) (fun _ => ?_)
              clear hK K
              try simp only [Act.put]
              try simp only [List.setIfInBounds_toArray]
              try simp only [List.set_cons_zero, List.set_cons_succ]
              refine heldM_grow (w1 := k3) hm3F ?_
              clear hHeld
              have hHeld : HeldM (fun j => j = gi ∨ j = gt ∨ B ≤ j) k3 k3 := HeldM.refl _ _
              have hT3 := hT2.moved hm3 (fun e => by have e2 : B ≤ gt := e; have := HN.out; omega)
              have hR3 := hR2.moved hm3 (fun e => by have e2 : B ≤ g2 := e; have := HN.out; omega)
              have hoS3 : OwnR spRec 49 B k3 (.slice sa NK sq) LS := hoS2.moved (Moved.of_grown (F := fun j => (Value.slice oa k oq).ownBlock = some j) hg3 (fun _ e => e)) (fun j hj e => own_ne (by decide) hoS2 ho2 hj e)
              have cg : k3.cell? ⟨gt, 1, none⟩ = some (.slice oa k oq) := hT3.cell_at rfl
              have lg := hT3.loose 1
              refine take_at (v := ?_) 6 31 rfl rfl (by kernel_rfl) (by kernel_rfl) (by kernel_rfl) (fun _ _ _ h => h) hHeld (Or.inl ⟨by rfl, ?_⟩) rfl ?_
              rotate_left
              · intro wq hSw
                go_simp
                try with_reducible rfl
              try simp only [List.set_cons_zero, List.set_cons_succ]
              refine wpAnyH_ready (rs := [7]) (by kernel_rfl) (by simp) ?_
              refine AllReadyH.cons rfl (fun K hK => ?_) AllReadyH.nil
              go_simp
              obtain ⟨k4, hk4⟩ : ∃ x, x = k3.setCell ⟨gt, 1, none⟩ (.slice oa' (k + 1) oq') := ⟨_, rfl⟩
              rw [← hk4]
              have hm4 : Moved (fun j => j = gt) k3 k4 := by rw [hk4]; exact Moved.put (F := fun j => j = gt) (Moved.refl _ _) (.inl rfl) _ _
              have hT4 : Has k4 gt 25 #[.slice sa NK sq, .slice oa' (k + 1) oq', .bool false] := by rw [hk4]; exact hT3.put 1 (.slice oa' (k + 1) oq')
              refine hK.out _ _ (HeldM.of (hm4.mono (fun _ e => .inr (.inl e)))) (fun _ => ?_)
              clear hK K cg lg hk4 hHeld
              refine wpAnyH_done (by kernel_rfl) ?_ _
              have hm24 : Moved (fun j => j = gt ∨ B ≤ j) k2 k4 := (hm3.mono (fun _ e => .inr e)).trans hm4 (fun _ e => .inl (.inl e))
              have hI4 := (hI1.below hbk2).moved hm24 (fun e => by have := HN.out; rcases e with e | e <;> omega) (fun j hj e => by have := HN.out; have := HN.out.2.2.2.2 j hj; rcases e with e | e <;> omega)
              have hR4 := hR3.moved hm4 (fun e => by have e2 : g2 = gt := e; have := HN.out; omega)
              have ho4 := ho3.moved hm4 (fun j hj e => by have e2 : j = gt := e; have := ho3.lt j hj; have := HN.out; omega)
              have hoS4 := hoS3.moved hm4 (fun j hj e => by have e2 : j = gt := e; have := hoS3.lt j hj; have := HN.out; omega)
              have hm04 : Moved (fun j => j = gi ∨ j = gt ∨ B ≤ j) ws k4 := (hm1F.trans (Moved.of_below (F := fun _ => False) hbk2) (fun _ e => e.elim)).trans hm24 (fun j e => .inl (.inr e))
              have hb4 := HB.out.1.trans (hm04.below (fun j e => by have := HN.out; rcases e with e | e | e <;> omega) HB.out.1.size)
              have hBr4 := Nat.le_trans HB.out.2 hm04.size
              rw [← HNX.out.2] at ho4
              rw [← HNX.out.1] at hI4
              clear hm1 hm1F hT1 hR1 ho1 hbk2 hX2 hm2F hT2 hR2 ho2 hBk2 ho3 hg3 hl3 hm3 hm3F hT3 hR3 hm4 hm24 hm04 hI1 hoS1 hoS2 hoS3
              have hk9 : M ≤ 8 := HM8.out
              go_wp2
              go_roundw
              case rel => exact ⟨k + 1, oa', oq', by omega, by go_num, hI4, hT4, ho4, hoS4, hR4, hb4, hBr4⟩
              case measure => (simp [intOf]; try omega)
        · have hki : ¬ (k : Int) < (M : Int) := by omega
          obtain rfl : k = M := by omega
          clear hk hlt
          obtain ⟨LC, hLC⟩ : ∃ x, x = (Tx.rdCos s4 okA k).2.1 := ⟨_, rfl⟩
          obtain ⟨s5, hs5⟩ : ∃ x, x = (Tx.rdCos s4 okA k).1 := ⟨_, rfl⟩
          rw [← hLC] at ho
          rw [← hs5] at hI
          have HB2 := Lib.hid (show LC = (Tx.rdB l).2.1 ∧ s5 = (Tx.rdB l).1 ∧ LC.length = k from ⟨by rw [hLC, HS4.out.1, HS4.out.2, HA.out.2.2.1]; rfl, by rw [hs5, HS4.out.1, HS4.out.2, HA.out.2.2.1]; rfl, by rw [hLC]; exact (Tx.cos_flag s4 okA k).2.2⟩)
          clear hLC hs5
          obtain ⟨pf, hpf⟩ : ∃ x, x = Pk.rdNum s5 1 := ⟨_, rfl⟩
          have HPpf := Lib.hid hpf
          clear hpf
          have HF := Lib.hid (show pf = Tx.rdF l by rw [HPpf.out, HB2.out.2.1]; rfl)
          have HV := Lib.hid (show Tx.rdOk l ↔ ((∀ x, x ∈ LS → ¬ Tx.offN x) ∧ (∀ x, x ∈ LC → ¬ Tx.offV x) ∧ pf.2.toNat ≤ 1 ∧ Pk.atEnd pf.1 = true) by rw [Tx.ok_iff, HA.out.1, HB2.out.1, HF.out])
          obtain ⟨fb, hfb⟩ : ∃ b : Bool, b = decide (pf.2 = 1#64) := ⟨_, rfl⟩
          have HT := Lib.hid (show Tx.rdT l = ⟨LS, LC, fb⟩ by rw [Tx.rdT, hfb, HA.out.1, HB2.out.1, HF.out])
          obtain ⟨y, hy⟩ : ∃ y : Int, y = nb64 pf.2 := ⟨_, rfl⟩
          have hyf : (y == 1) = fb := by
            rw [hfb, hy, Bool.eq_iff_iff, beq_iff_eq, decide_eq_true_iff]
            constructor
            · intro e
              apply BitVec.eq_of_toNat_eq
              have e2 : (pf.2.toNat : Int) = 1 := e
              show pf.2.toNat = 1
              omega
            · intro e
              rw [e]
              rfl
          have HY := Lib.hid (show y = (pf.2.toNat : Int) from hy)
          obtain ⟨s6, hs6⟩ : ∃ x, x = pf.1 := ⟨_, rfl⟩
          have HNM := Lib.hid (show Calls Tryd.prog 36 #[.pointer (some ⟨gi, 0, none⟩), .int .i64 1] wr (fun e w' => e = .returned (.int .u64 y) ∧ InS w' gi r s6 ∧ Moved (inF gi) wr w') from (inNum_any gi r s5 1 wr hI).mono (fun e w' h => by rw [hy, hs6, HPpf.out]; exact h))
          rw [← hs6] at HV
          clear hfb hy hs6 hI HPpf
          go_upto_region 12 with (go_at_call 36; refine HNM.out.mono ?_; rintro e w8 ⟨rfl, hI, hm8⟩)
          replace hT := hT.moved hm8 (fun e => by have e2 : gt = gi := e; have := HN.out; omega)
          replace ho := ho.moved hm8 (fun k hk e => by have e2 : k = gi := e; have := ho.lt k hk; have := HN.out; omega)
          replace hoS := hoS.moved hm8 (fun k hk e => by have e2 : k = gi := e; have := hoS.lt k hk; have := HN.out; omega)
          replace hR := hR.moved hm8 (fun e => by have e2 : g2 = gi := e; have := HN.out; omega)
          replace hb := hb.trans (hm8.below (fun k e => by have e2 : k = gi := e; have := HN.out; omega) hb.size)
          replace hBr := Nat.le_trans hBr hm8.size
          clear hm8 HNM
          have cg : w8.cell? ⟨gt, 2, none⟩ = some (.bool false) := hT.cell_at rfl
          have lg := hT.loose 2
          go_upto_region 13 with fail
          clear cg lg
          obtain ⟨w9, hw9⟩ : ∃ x, x = w8.setCell ⟨gt, 2, none⟩ (.bool fb) := ⟨_, rfl⟩
          rw [← hw9]
          have hm9 : Moved (fun j => j = gt) w8 w9 := by rw [hw9]; exact Moved.put (F := fun j => j = gt) (Moved.refl _ _) (.inl rfl) _ _
          replace hT : Has w9 gt 25 #[.slice sa NK sq, .slice oa k oq, .bool fb] := by rw [hw9]; exact hT.put 2 (.bool fb)
          replace hI := hI.moved hm9 (fun e => by have e2 : gi = gt := e; have := HN.out; omega) (fun j hj e => by have e2 : j = gt := e; have := HN.out.2.2.2.2 j hj; have := HN.out; omega)
          replace hR := hR.moved hm9 (fun e => by have e2 : g2 = gt := e; have := HN.out; omega)
          replace ho := ho.moved hm9 (fun j hj e => by have e2 : j = gt := e; have := ho.lt j hj; have := HN.out; omega)
          replace hoS := hoS.moved hm9 (fun j hj e => by have e2 : j = gt := e; have := hoS.lt j hj; have := HN.out; omega)
          replace hb := hb.trans (hm9.below (fun j e => by have e2 : j = gt := e; have := HN.out; omega) hb.size)
          clear hw9 hm9 hyf
          have hS9 := (hoS.recs).1
          have hC9 := (ho.recs).1
          have d0 : w9.cell? ⟨gt, 0, none⟩ = some (.slice sa NK sq) := hT.cell_at rfl
          obtain ⟨ae, hae⟩ : ∃ b : Bool, Pk.atEnd s6 = b := ⟨_, rfl⟩
          have HAE := Lib.hid hae
          clear hae
          cases ae
          · go_upto_region 14 with (go_at_call 37; refine (inEnd_no gi r s6 w9 hI HAE.out).mono ?_; rintro e wq ⟨rfl, rfl⟩)
            have HE := Lib.hid (show ¬ Tx.rdOk l from fun h => by have h9 := (HV.out.1 h).2.2.2; rw [HAE.out] at h9; cases h9)
            have hRZ := hR.moved (Moved.refl (fun _ => False) w9) (fun e => e)
            go_wp2_with (refine wpList_store_mid rfl 25 (.tmp 2) (.tmp 55) rfl g2 0 zTx rfl rfl (hRZ.there 0 3 (Nat.le_refl _)) (by kernel_rfl) (vRec.all_one ⟨none, 0, 0, none, 0, 0, ⟨[], [], false⟩⟩) ?_)
            obtain ⟨wZ, hwZ⟩ : ∃ x, x = w9.setCells g2 0 [.slice none 0 0, .slice none 0 0, .bool false] := ⟨_, rfl⟩
            have hE : Has wZ g2 25 zTx := by rw [hwZ]; exact hRZ.whole_cs (cs2 := zTx) rfl
            rw [← hwZ]
            refine bodyPost_ret (results_cell_slot rfl _ _ g2 rfl _ _ (hE.load_var Tryd.underlying25 rfl (by kernel_rfl)) rfl) rfl ⟨none, 0, 0, none, 0, 0, ?_, ?_, ?_⟩
            · rw [if_neg HE.out, Tx.rdV, if_neg HE.out]
              rfl
            · rw [Tx.rdV, if_neg HE.out]
              exact ⟨OwnR.nil _ _ _ _, OwnR.nil _ _ _ _⟩
            · rw [hwZ]
              exact below_setAll (by have := HN.out; omega) _ 0 (hb)
          · by_cases hy1 : 1 < y
            · go_upto_region 14 with (go_at_call 37; refine (inEnd_yes gi r s6 w9 hI HAE.out).mono ?_; rintro e wq ⟨rfl, rfl⟩)
              have HE := Lib.hid (show ¬ Tx.rdOk l from fun h => by have h9 := (HV.out.1 h).2.2.1; have := HY.out; omega)
              have hRZ := hR.moved (Moved.refl (fun _ => False) w9) (fun e => e)
              go_wp2_with (refine wpList_store_mid rfl 25 (.tmp 2) (.tmp 55) rfl g2 0 zTx rfl rfl (hRZ.there 0 3 (Nat.le_refl _)) (by kernel_rfl) (vRec.all_one ⟨none, 0, 0, none, 0, 0, ⟨[], [], false⟩⟩) ?_)
              obtain ⟨wZ, hwZ⟩ : ∃ x, x = w9.setCells g2 0 [.slice none 0 0, .slice none 0 0, .bool false] := ⟨_, rfl⟩
              have hE : Has wZ g2 25 zTx := by rw [hwZ]; exact hRZ.whole_cs (cs2 := zTx) rfl
              rw [← hwZ]
              refine bodyPost_ret (results_cell_slot rfl _ _ g2 rfl _ _ (hE.load_var Tryd.underlying25 rfl (by kernel_rfl)) rfl) rfl ⟨none, 0, 0, none, 0, 0, ?_, ?_, ?_⟩
              · rw [if_neg HE.out, Tx.rdV, if_neg HE.out]
                rfl
              · rw [Tx.rdV, if_neg HE.out]
                exact ⟨OwnR.nil _ _ _ _, OwnR.nil _ _ _ _⟩
              · rw [hwZ]
                exact below_setAll (by have := HN.out; omega) _ 0 (hb)
            · obtain ⟨v1, hv1⟩ : ∃ v : Bool, v = true ↔ ∃ s, s ∈ LS ∧ (Tx.offN s) := ⟨decide (∃ s, s ∈ LS ∧ (Tx.offN s)), by simp⟩
              have HV1 := Lib.hid hv1
              clear hv1
              cases v1
              · obtain ⟨v2, hv2⟩ : ∃ v : Bool, v = true ↔ ∃ s, s ∈ LC ∧ (Tx.offV s) := ⟨decide (∃ s, s ∈ LC ∧ (Tx.offV s)), by simp⟩
                have HV2 := Lib.hid hv2
                clear hv2
                cases v2
                · have HG := Lib.hid (show Tx.rdOk l from HV.out.2 ⟨fun x hx hp => Bool.false_ne_true (HV1.out.2 ⟨x, hx, hp⟩), fun x hx hp => Bool.false_ne_true (HV2.out.2 ⟨x, hx, hp⟩), by have := HY.out; omega, HAE.out⟩)
                  go_upto_region 15 with (first
                    | (go_at_call 41; refine (has_read2 oa k oq LC wA (hC9.below hbA) _ HV2.out).mono ?_; rintro e wB ⟨rfl, hbB⟩)
                    | (go_at_call 38; refine (has_read1 sa NK sq LS w9 hS9 _ HV1.out).mono ?_; rintro e wA ⟨rfl, hbA⟩; have hTA := hT.under hbA hT.lt; have cA : wA.cell? ⟨gt, 1, none⟩ = some (.slice oa k oq) := hTA.cell_at rfl)
                    | (go_at_call 37; refine (inEnd_yes gi r s6 w9 hI HAE.out).mono ?_; rintro e wq ⟨rfl, rfl⟩))
                  have hB9 := hbA.trans (hbB.mono hbA.size)
                  have hTZ := hT.under hB9 hT.lt
                  have hRZ := hR.under hB9 hR.lt
                  have lT := hTZ.load_agg (P := Tryd.prog) (t := 25) Tryd.underlying25 rfl (by kernel_rfl)
                  go_wp2_with (first
                    | (refine wpList_store_mid rfl 25 (.tmp 2) (.tmp 57) rfl g2 0 #[.slice sa NK sq, .slice oa k oq, .bool fb] rfl rfl (hRZ.there 0 3 (Nat.le_refl _)) (by kernel_rfl) (vRec.all_one ⟨sa, NK, sq, oa, k, oq, ⟨[], [], fb⟩⟩) ?_)
                    | (refine wpList_load_run rfl 25 (.tmp 5) rfl _ _ rfl lT ?_))
                  obtain ⟨wZ, hwZ⟩ : ∃ x, x = wB.setCells g2 0 [.slice sa NK sq, .slice oa k oq, .bool fb] := ⟨_, rfl⟩
                  have hE : Has wZ g2 25 #[.slice sa NK sq, .slice oa k oq, .bool fb] := by rw [hwZ]; exact hRZ.whole_cs (cs2 := #[.slice sa NK sq, .slice oa k oq, .bool fb]) rfl
                  have hmZ : Moved (fun j => j = g2) wB wZ := by rw [hwZ]; exact Moved.putAll (F := fun j => j = g2) (.inl rfl) _ 0 (Moved.refl _ _)
                  have hZS := (hoS.below hB9).moved hmZ (fun j hj e => by have e2 : j = g2 := e; have := hoS.lt j hj; have := HN.out; omega)
                  have hZC := (ho.below hB9).moved hmZ (fun j hj e => by have e2 : j = g2 := e; have := ho.lt j hj; have := HN.out; omega)
                  have hlo : w.heap.size ≤ B := by have := HN.out; omega
                  rw [← hwZ]
                  refine bodyPost_ret (results_cell_slot rfl _ _ g2 rfl _ _ (hE.load_var Tryd.underlying25 rfl (by kernel_rfl)) rfl) rfl ⟨sa, NK, sq, oa, k, oq, ?_, ?_, ?_⟩
                  · rw [if_pos HG.out, Tx.rdV, if_pos HG.out, HT.out]
                    rfl
                  · rw [Tx.rdV, if_pos HG.out, HT.out]
                    exact ⟨hZS.low hlo, hZC.low hlo⟩
                  · rw [hwZ]
                    exact below_setAll (by have := HN.out; omega) _ 0 (hb.trans (hB9.mono hb.size))
                · have HP2 := Lib.hid (HV2.out.1 rfl)
                  clear HV2
                  go_upto_region 14 with (first
                    | (go_at_call 41; refine (has_read2 oa k oq LC wA (hC9.below hbA) _ ⟨fun _ => HP2.out, fun _ => rfl⟩).mono ?_; rintro e wB ⟨rfl, hbB⟩)
                    | (go_at_call 38; refine (has_read1 sa NK sq LS w9 hS9 _ HV1.out).mono ?_; rintro e wA ⟨rfl, hbA⟩; have hTA := hT.under hbA hT.lt; have cA : wA.cell? ⟨gt, 1, none⟩ = some (.slice oa k oq) := hTA.cell_at rfl)
                    | (go_at_call 37; refine (inEnd_yes gi r s6 w9 hI HAE.out).mono ?_; rintro e wq ⟨rfl, rfl⟩))
                  have HE := Lib.hid (show ¬ Tx.rdOk l from fun h => by obtain ⟨x, hx, hp⟩ := HP2.out; exact (HV.out.1 h).2.1 x hx hp)
                  have hRZ := hR.under (hbA.trans (hbB.mono hbA.size)) hR.lt
                  go_wp2_with (refine wpList_store_mid rfl 25 (.tmp 2) (.tmp 55) rfl g2 0 zTx rfl rfl (hRZ.there 0 3 (Nat.le_refl _)) (by kernel_rfl) (vRec.all_one ⟨none, 0, 0, none, 0, 0, ⟨[], [], false⟩⟩) ?_)
                  obtain ⟨wZ, hwZ⟩ : ∃ x, x = wB.setCells g2 0 [.slice none 0 0, .slice none 0 0, .bool false] := ⟨_, rfl⟩
                  have hE : Has wZ g2 25 zTx := by rw [hwZ]; exact hRZ.whole_cs (cs2 := zTx) rfl
                  rw [← hwZ]
                  refine bodyPost_ret (results_cell_slot rfl _ _ g2 rfl _ _ (hE.load_var Tryd.underlying25 rfl (by kernel_rfl)) rfl) rfl ⟨none, 0, 0, none, 0, 0, ?_, ?_, ?_⟩
                  · rw [if_neg HE.out, Tx.rdV, if_neg HE.out]
                    rfl
                  · rw [Tx.rdV, if_neg HE.out]
                    exact ⟨OwnR.nil _ _ _ _, OwnR.nil _ _ _ _⟩
                  · rw [hwZ]
                    exact below_setAll (by have := HN.out; omega) _ 0 (hb.trans ((hbA.trans (hbB.mono hbA.size)).mono hb.size))
              · have HP1 := Lib.hid (HV1.out.1 rfl)
                clear HV1
                go_upto_region 14 with (first
                  | (go_at_call 38; refine (has_read1 sa NK sq LS w9 hS9 _ ⟨fun _ => HP1.out, fun _ => rfl⟩).mono ?_; rintro e wA ⟨rfl, hbA⟩; have hTA := hT.under hbA hT.lt; have cA : wA.cell? ⟨gt, 1, none⟩ = some (.slice oa k oq) := hTA.cell_at rfl)
                  | (go_at_call 37; refine (inEnd_yes gi r s6 w9 hI HAE.out).mono ?_; rintro e wq ⟨rfl, rfl⟩))
                have HE := Lib.hid (show ¬ Tx.rdOk l from fun h => by obtain ⟨x, hx, hp⟩ := HP1.out; exact (HV.out.1 h).1 x hx hp)
                have hRZ := hR.under hbA hR.lt
                go_wp2_with (refine wpList_store_mid rfl 25 (.tmp 2) (.tmp 55) rfl g2 0 zTx rfl rfl (hRZ.there 0 3 (Nat.le_refl _)) (by kernel_rfl) (vRec.all_one ⟨none, 0, 0, none, 0, 0, ⟨[], [], false⟩⟩) ?_)
                obtain ⟨wZ, hwZ⟩ : ∃ x, x = wA.setCells g2 0 [.slice none 0 0, .slice none 0 0, .bool false] := ⟨_, rfl⟩
                have hE : Has wZ g2 25 zTx := by rw [hwZ]; exact hRZ.whole_cs (cs2 := zTx) rfl
                rw [← hwZ]
                refine bodyPost_ret (results_cell_slot rfl _ _ g2 rfl _ _ (hE.load_var Tryd.underlying25 rfl (by kernel_rfl)) rfl) rfl ⟨none, 0, 0, none, 0, 0, ?_, ?_, ?_⟩
                · rw [if_neg HE.out, Tx.rdV, if_neg HE.out]
                  rfl
                · rw [Tx.rdV, if_neg HE.out]
                  exact ⟨OwnR.nil _ _ _ _, OwnR.nil _ _ _ _⟩
                · rw [hwZ]
                  exact below_setAll (by have := HN.out; omega) _ 0 (hb.trans (hbA.mono hb.size))
end Go.Proofs.YtpbijcchdjppmaaDoor
