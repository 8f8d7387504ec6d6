/- package digest: the parts and the padding, one after the other -/
import Derived.Test.YtcedecljbgailaaDoorDgN
import Derived.Test.YtcedecljbgailaaDoorLz
import Derived.Shelf.Abstract
import Derived.Shelf.RegionOpen
import Derived.WalkKit
import Derived.OwnWalkIn
import Derived.TacticsInMore
import Derived.LoopNIn
import Derived.LoopIn
namespace Go.Proofs.YtcedecljbgailaaDoor
open Go Go.RowKit Go.Shelf Go.ChangeShapes Go.WideShapes
attribute [local go_sem] Oper.semAt_some
/-- bytes that lie in w0, or in a block from C on -/
def Src (C : Nat) (w0 W : World) (a : Option Addr) (n : Nat) (l : List (BitVec 8)) : Prop := Bytes8 w0 a n l ∨ ∃ g o, C ≤ g ∧ g < W.heap.size ∧ a = some ⟨g, o, none⟩ ∧ Bytes8 W a n l
theorem Src.bytes {C n : Nat} {w0 W : World} {a : Option Addr} {l : List (BitVec 8)} (h : Src C w0 W a n l) (hb : Below w0.heap.size w0 W) : Bytes8 W a n l := by
  rcases h with h | ⟨g, o, _, _, _, h⟩
  · exact h.below hb
  · exact h
theorem bytes_block {w w' : World} {g o n : Nat} {l : List (BitVec 8)} (h : Bytes8 w (some ⟨g, o, none⟩) n l) (hk : w'.heap[g]? = w.heap[g]?) : Bytes8 w' (some ⟨g, o, none⟩) n l := by
  refine ⟨h.1, h.2.1, fun i hi => ?_⟩
  obtain ⟨x, e, hx⟩ := h.2.2 i hi
  injection e with e
  subst e
  refine ⟨_, rfl, ?_⟩
  rw [Addr.add_mid] at hx ⊢
  rw [World.cell?_of_block (w := w) hk]
  exact hx
theorem Src.keeps {C n : Nat} {w0 W W' : World} {a : Option Addr} {l : List (BitVec 8)} (h : Src C w0 W a n l) (hk : Keeps C W W') : Src C w0 W' a n l := by
  rcases h with h | ⟨g, o, hC, hg, rfl, h⟩
  · exact Or.inl h
  · exact Or.inr ⟨g, o, hC, Nat.lt_of_lt_of_le hg hk.1, rfl, bytes_block h (hk.2 g hC hg)⟩
theorem Src.own {B C n : Nat} {w0 W W' : World} {row : Option Nat} {a : Option Addr} {l : List (BitVec 8)} (h : Src C w0 W a n l) (hg : W.grownBy W' row) (hr : ∀ r, row = some r → B ≤ r ∧ ∃ o : Obj, W.heap[r]? = some o ∧ o.isCells = false) : Src C w0 W' a n l := by
  rcases h with h | ⟨g, o, hC, hgs, rfl, h⟩
  · exact Or.inl h
  · refine Or.inr ⟨g, o, hC, Nat.lt_of_lt_of_le hgs hg.size, rfl, h.1, h.2.1, fun i hi => ?_⟩
    obtain ⟨x, e, hx⟩ := h.2.2 i hi
    exact ⟨x, e, cell_kept hx hg (fun r e => (hr r e).2)⟩
/-- a slice: where it lies, its length, its capacity -/
abbrev Sl3 := Option Addr × Nat × Nat
def encS (x : Sl3) : Array Value := #[.slice x.1 x.2.1 x.2.2]
/-- the parts and the padding -/
def Dg.parts (LL : List (List (BitVec 8))) : List (List (BitVec 8)) := LL ++ [Dg.pd LL.flatten.length]
def Dg.off (LL : List (List (BitVec 8))) (k : Nat) : Nat := ((Dg.parts LL).take k).flatten.length
theorem Dg.parts_flat (LL : List (List (BitVec 8))) : (Dg.parts LL).flatten = Dg.pad LL.flatten := by
  rw [Dg.pad_pd]; unfold Dg.parts; simp
theorem Dg.parts_at (LL : List (List (BitVec 8))) {k : Nat} (h : k < LL.length) : (Dg.parts LL).getD k [] = LL.getD k [] := by
  unfold Dg.parts
  rw [List.getD_eq_getElem?_getD, List.getD_eq_getElem?_getD, List.getElem?_append_left h]
theorem Dg.parts_last (LL : List (List (BitVec 8))) : (Dg.parts LL).getD LL.length [] = Dg.pd LL.flatten.length := by
  unfold Dg.parts
  rw [List.getD_eq_getElem?_getD, List.getElem?_append_right (Nat.le_refl _), Nat.sub_self]
  rfl
theorem take_snoc {α : Type} (L : List (List α)) {k : Nat} (h : k < L.length) : (L.take (k + 1)).flatten = (L.take k).flatten ++ L.getD k [] := by
  rw [List.take_succ_eq_append_getElem h, List.flatten_append, List.getD_eq_getElem?_getD, List.getElem?_eq_getElem h]
  simp
theorem Dg.off_step (LL : List (List (BitVec 8))) {k : Nat} (h : k ≤ LL.length) : Dg.off LL (k + 1) = Dg.off LL k + ((Dg.parts LL).getD k []).length := by
  unfold Dg.off
  rw [take_snoc _ (by simp [Dg.parts]; omega), List.length_append]
theorem Dg.off_le (LL : List (List (BitVec 8))) {k : Nat} (h : k ≤ LL.length) : Dg.off LL k ≤ LL.flatten.length := by
  unfold Dg.off Dg.parts
  rw [List.take_append_of_le_length h]
  conv => rhs; rw [← List.take_append_drop k LL, List.flatten_append, List.length_append]
  omega
theorem Dg.off_end (LL : List (List (BitVec 8))) : Dg.off LL LL.length = LL.flatten.length := by
  unfold Dg.off Dg.parts
  rw [List.take_append_of_le_length (Nat.le_refl _), List.take_length]
theorem Dg.off_all (LL : List (List (BitVec 8))) : Dg.off LL (LL.length + 1) = (Dg.pad LL.flatten).length := by
  unfold Dg.off
  rw [← Dg.parts_flat, show LL.length + 1 = (Dg.parts LL).length by simp [Dg.parts], List.take_length]
/-- what the iterator yields at place k -/
def RdP (w0 : World) (LL : List (List (BitVec 8))) (C k : Nat) (W : World) (x : Sl3) (k' : Nat) : Prop :=
  k' = k + 1 ∧ k ≤ LL.length ∧ x.2.1 ≤ x.2.2 ∧ Src C w0 W x.1 x.2.1 ((Dg.parts LL).getD k [])
/-- the iterator's box, and all that lay in w0 -/
def GdP (w0 : World) (Bx : Nat) (a : Option Addr) (n c : Nat) (W : World) : Prop := Below w0.heap.size w0 W ∧ Has W Bx 65 #[.slice a n c]
theorem padded_any (a : Option Addr) (n c : Nat) (w : World) :
    Calls Tryd.prog 43 #[.slice a n c] w fun e w' =>
      e = .returned (.func (.func 52) #[] #[.pointer (some ⟨w.heap.size, 0, none⟩)]) ∧ w' = w.alloc (.cells #[.slice a n c] 65) := by
  go_enter Tryd.func43, Tryd.ntmps43
  go_wp2
  go_ret
  exact ⟨rfl, rfl⟩
set_option maxRecDepth 100000 in
set_option maxHeartbeats 4000000 in
theorem padded_iter (m : Nat) (hm : 1 ≤ m) (Bx : Nat) (a : Option Addr) (n c : Nat) (LL : List (List (BitVec 8))) (w0 w : World) (hP : Parts w0 a n LL) (hfl : LL.flatten.length ≤ 1000000) (hnn : n ≤ 1000000) :
    IterK Fence.wide m Tryd.prog 52 #[.pointer (some ⟨Bx, 0, none⟩)] encS (GdP w0 Bx a n c) 0 (RdP w0 LL) (fun k => k = n + 1) w := by
  intro lp J W hW hJ hG hY h0
  have hb := (hG 0 W h0).2.cell_at (i := 0) rfl
  have HL := Lib.hid (And.intro hP.1 (And.intro hfl hnn))
  have hlenL : LL.length = n := hP.1
  refine callsIn_of_wp Tryd.func52 rfl trivial ?_ rfl
  simp only [Tryd.ntmps52, List.size_toArray, List.length_cons, List.length_nil, Nat.reduceAdd, Nat.reduceSub, Array.replicate_succ, Array.replicate_zero, List.push_toArray, List.append_toArray, List.nil_append, List.cons_append]
  gi_wp2
  gi_loopw [8, 3] (fun i s wr => ∃ k : Nat, k ≤ n ∧ i = .int .i64 (k : Int) ∧ s = .int .u64 (nb64 (BitVec.ofNat 64 (Dg.off LL k))) ∧ J k wr ∧ W.heap.size ≤ wr.heap.size) (fun i _ _ => n - (intOf i).toNat)
  case atStart => exact ⟨0, Nat.zero_le _, rfl, rfl, h0, Nat.le_refl _⟩
  case round =>
    clear hb h0
    obtain ⟨k, hk, rfl, rfl, hJs, hsz⟩ := hrel
    by_cases hlt : k < n
    · have hlti : (k : Int) < (n : Int) := by omega
      have hk0 : (0 : Int) ≤ (k : Int) := by omega
      obtain ⟨y, ad, pm, pc, rfl, hy, hby, hpc, _⟩ := hP.2.2 k hlt
      have hc : wr.cell? (y.add k) = some (.slice ad pm pc) := by
        rw [(hG k wr hJs).1.cell (isSome_lt (w := w0) (by rw [hy]; rfl))]; exact hy
      have hpml : ((Dg.parts LL).getD k []).length = pm := by rw [Dg.parts_at LL (by omega)]; exact hby.1
      obtain ⟨fn, tmps, assign, body, hy2, hR⟩ := hY k (ad, pm, pc) (k + 1) wr hJs hsz ⟨rfl, by omega, hpc, Or.inl (by rw [Dg.parts_at LL (by omega)]; exact hby)⟩
      dsimp only [encS] at hy2
      have hcv := nat_to_u64 pm
      have HO := Lib.hid (show BitVec.ofNat 64 (Dg.off LL k) + BitVec.ofNat 64 pm = BitVec.ofNat 64 (Dg.off LL (k + 1)) by rw [Dg.off_step LL (by omega), hpml, BitVec.ofNat_add])
      obtain ⟨O, hO⟩ : ∃ O, O = BitVec.ofNat 64 (Dg.off LL k) := ⟨_, rfl⟩
      rw [← hO] at HO ⊢
      obtain ⟨D, hD⟩ : ∃ O, O = BitVec.ofNat 64 pm := ⟨_, rfl⟩
      rw [← hD] at HO hcv
      clear hO hD hby hpml
      gi_wp2
      refine hR.mono ?_
      rintro e W3 ⟨rfl, hJ3, hk3⟩
      gi_wp2
      go_roundw
      case rel => exact ⟨k + 1, by omega, by go_num, by rw [HO.out], hJ3, Nat.le_trans hsz hk3.1⟩
      case measure => (simp [intOf]; try omega)
    · have hkn : k = n := by omega
      subst hkn
      have hlti : ¬ (k : Int) < (k : Int) := by omega
      have HO := Lib.hid (show BitVec.ofNat 64 (Dg.off LL k) = BitVec.ofNat 64 LL.flatten.length by rw [← hlenL, Dg.off_end])
      obtain ⟨O, hO⟩ : ∃ O, O = BitVec.ofNat 64 (Dg.off LL k) := ⟨_, rfl⟩
      rw [← hO] at HO ⊢
      have HLT := Lib.hid hlenL
      clear hO hlenL
      obtain ⟨M, hM⟩ : ∃ M, M = 1 + Dg.zs LL.flatten.length + 8 := ⟨_, rfl⟩
      have hpad := padding_any LL.flatten.length HL.out.2.1 O HO.out wr
      rw [← hM] at hpad
      have HPD := Lib.hid hpad
      have HM := Lib.hid (show (Dg.pd LL.flatten.length).length = M ∧ M ≤ 1000000 by
        rw [Dg.pd_len, hM]
        have : Dg.zs LL.flatten.length < 64 := Nat.mod_lt _ (by omega)
        exact ⟨rfl, by omega⟩)
      have HL2 := Lib.hid (show (Dg.parts LL).getD k [] = Dg.pd LL.flatten.length by rw [← HLT.out, Dg.parts_last])
      obtain ⟨pl, hpl⟩ : ∃ pl, pl = Dg.pd LL.flatten.length := ⟨_, rfl⟩
      rw [← hpl] at HPD HM HL2
      clear hM hpad hpl
      gi_wp2_with (refine ⟨trivial, ?_⟩; (gi_at_call 53; refine (callsIn_wide.2 HPD.out).mono ?_; rintro e wP ⟨rfl, hPd, hbP⟩; have hJP := hJ _ _ _ hJs (hbP.mono hsz); have hszP : W.heap.size ≤ wP.heap.size := Nat.le_trans hsz hbP.size; obtain ⟨fn, tmps, assign, body, hy2, hR⟩ := hY k (some ⟨wr.heap.size, 0, none⟩, M, M) (k + 1) wP hJP hszP ⟨rfl, by have := HLT.out; omega, Nat.le_refl _, Or.inr ⟨wr.heap.size, 0, hsz, hPd.lt, rfl, by rw [HL2.out]; exact bytes_has hPd HM.out.1 HM.out.2⟩⟩; dsimp only [encS] at hy2))
      refine hR.mono ?_
      rintro e W3 ⟨rfl, hJ3, hk3⟩
      gi_wp2
      go_end0
      exact ⟨⟨_, rfl⟩, k + 1, rfl, hJ3, Nat.le_trans hszP hk3.1⟩
end Go.Proofs.YtcedecljbgailaaDoor
