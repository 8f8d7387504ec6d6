/- what package tx answers, as a premise; the chapter's example -/
import Derived.Test.YtpbijcchdjppmaaTxR
import Derived.Test.YtpbijcchdjppmaaEr
import Derived.Test.YtpbijcchdjppmaaPkM
namespace Go.Proofs.Ytpbijcchdjppmaa
open Go Go.RowKit Go.ChangeShapes Go.WideShapes
namespace Tx
/-- a spend's bytes, a coin's, a transaction's -/
def encSp (all : Bool) (s : Sp) : List (BitVec 8) := s.h ++ Pk.le (BitVec.ofInt 64 s.n) 4 ++ (if all = true then Pk.text s.key ++ Pk.le s.sl 8 else [])
def encCo (c : Co) : List (BitVec 8) := Pk.le (BitVec.ofInt 64 c.v) 8 ++ Pk.le c.lock 8
def enc (all : Bool) (t : T) : List (BitVec 8) := Pk.count t.sp.length ++ t.sp.flatMap (encSp all) ++ Pk.count t.co.length ++ t.co.flatMap encCo ++ [if t.firm = true then 1#8 else 0#8]
def weight (t : T) : Int := 3 * ((enc false t).length : Int) + ((enc true t).length : Int)
/-- the chapter's example -/
def t0 : T := ⟨[⟨List.replicate 32 0#8, 0, [], 0#64⟩], [⟨0, 0#64⟩], false⟩
theorem t0_base : (enc false t0).length = 55 := by decide +kernel
theorem t0_weight : weight t0 = 229 := by decide +kernel
theorem t0_check : check t0 = 0 := by decide +kernel
theorem t0_small : Small t0 := ⟨by decide, by decide, fun s hs => by
  have : s = ⟨List.replicate 32 0#8, 0, [], 0#64⟩ := by simpa [t0] using hs
  subst this
  decide⟩
end Tx
/-- bytes that a call answers -/
def BytesOut (l : List (BitVec 8)) (w0 : World) (e : Ending) (w' : World) : Prop :=
  ∃ (x : Option Addr) (k c : Nat), e = .returned (.slice x k c) ∧ Bytes8 w' x k l ∧ k ≤ c ∧ (x = none → c = 0) ∧ Below w0.heap.size w0 w'
/-- package tx's calls that the chapter's example needs -/
structure TxA : Prop where
  check : ∀ (a : Option Addr) (n q : Nat) (b : Option Addr) (m r : Nat) (t : Tx.T) (w : World), TxAt w a n q b m r t → Tx.Small t → Calls Try.prog 11 #[txv a n q b m r t.firm] w fun e w' => e = .returned (errn (Tx.check t)) ∧ Below w.heap.size w w'
  base : ∀ (a : Option Addr) (n q : Nat) (b : Option Addr) (m r : Nat) (t : Tx.T) (w : World), TxAt w a n q b m r t → Tx.Small t → Calls Try.prog 22 #[txv a n q b m r t.firm] w (BytesOut (Tx.enc false t) w)
  bytes : ∀ (a : Option Addr) (n q : Nat) (b : Option Addr) (m r : Nat) (t : Tx.T) (w : World), TxAt w a n q b m r t → Tx.Small t → Calls Try.prog 18 #[txv a n q b m r t.firm] w (BytesOut (Tx.enc true t) w)
  weight : ∀ (a : Option Addr) (n q : Nat) (b : Option Addr) (m r : Nat) (t : Tx.T) (w : World), TxAt w a n q b m r t → Tx.Small t → Calls Try.prog 21 #[txv a n q b m r t.firm] w fun e w' => e = .returned (.int .i64 (Tx.weight t)) ∧ Below w.heap.size w w'
/-- and those that need no digest and read nothing -/
structure TxOk : Prop where
  al : TxA
  out : ∀ (a : Option Addr) (n q : Nat) (b : Option Addr) (m r : Nat) (t : Tx.T) (w : World), TxAt w a n q b m r t → Tx.Small t → Calls Try.prog 8 #[txv a n q b m r t.firm] w fun e w' => e = .returned (.tuple #[.int .i64 (Am.total (Tx.vals t.co) 0).1, errn (Am.total (Tx.vals t.co) 0).2]) ∧ Below w.heap.size w w'
  same : ∀ (a : Option Addr) (n q : Nat) (b : Option Addr) (m r : Nat) (t : Tx.T) (a' : Option Addr) (n' q' : Nat) (b' : Option Addr) (m' r' : Nat) (u : Tx.T) (w : World), TxAt w a n q b m r t → TxAt w a' n' q' b' m' r' u → Tx.Small t → Tx.Small u → Calls Try.prog 13 #[txv a n q b m r t.firm, txv a' n' q' b' m' r' u.firm] w fun e w' => e = .returned (.bool (decide (t = u))) ∧ Below w.heap.size w w'
  copy : ∀ (a : Option Addr) (n q : Nat) (b : Option Addr) (m r : Nat) (t : Tx.T) (w : World), TxAt w a n q b m r t → Tx.Small t → Calls Try.prog 20 #[txv a n q b m r t.firm] w (CopyPost n m t w)
set_option maxRecDepth 100000 in
set_option maxHeartbeats 4000000 in
theorem alive10 (ok : TxA) (w : World) :
    Calls Try.prog 6 #[] w fun e w' => e = .returned (.bool true) ∧ Below w.heap.size w w' := by
  go_enter Try.func6, Try.ntmps6
  go_upto_region 2 with fail
  obtain ⟨W3, hW3⟩ : ∃ x, x = ((w.alloc (.cells zSp 54)).alloc (.cells zCo 56)).alloc (.cells #[.slice (some ⟨w.heap.size, 0, none⟩) 1 1, .slice (some ⟨w.heap.size + 1, 0, none⟩) 1 1, .bool false] 25) := ⟨_, rfl⟩
  have hB : Below w.heap.size w W3 := by
    rw [hW3]
    exact (((Below.refl _ w).alloc (Nat.le_refl _) _).alloc (by simp) _).alloc (by simp; omega) _
  have h0 : Has W3 w.heap.size 54 zSp := by rw [hW3]; exact ((Has.fresh w _ _).past _).past _
  have h1 : Has W3 (w.heap.size + 1) 56 zCo := by rw [hW3]; exact (Has.fresh_at _ _ _ (by simp)).past _
  have h2 : Has W3 (w.heap.size + 1 + 1) 25 #[.slice (some ⟨w.heap.size, 0, none⟩) 1 1, .slice (some ⟨w.heap.size + 1, 0, none⟩) 1 1, .bool false] := by rw [hW3]; exact Has.fresh_at _ _ _ (by simp)
  rw [← hW3]
  clear hW3
  have er : spRec.row Tx.t0.sp = zSp.toList := by rfl
  have ec : coRec.row Tx.t0.co = zCo.toList := by rfl
  have hT : TxAt W3 (some ⟨w.heap.size, 0, none⟩) 1 1 (some ⟨w.heap.size + 1, 0, none⟩) 1 1 Tx.t0 :=
    ⟨recs_fresh (R := spRec) (fun s hs => by
        have : s = ⟨List.replicate 32 0#8, 0, [], 0#64⟩ := by simpa [Tx.t0] using hs
        subst this
        exact ⟨rfl, by constructor <;> decide, by show 0 ≤ maxLen; unfold maxLen; omega⟩) h0 (by show 1 ≤ maxLen; unfold maxLen; omega) (fun j u hj => by rw [er] at hj; rw [← Array.getElem?_toList]; exact hj),
      recs_fresh (R := coRec) (fun c hc => by
        have : c = ⟨0, 0#64⟩ := by simpa [Tx.t0] using hc
        subst this
        constructor <;> decide) h1 (by show 1 ≤ maxLen; unfold maxLen; omega) (fun j u hj => by rw [ec] at hj; rw [← Array.getElem?_toList]; exact hj),
      Nat.le_refl _, Nat.le_refl _, (fun e => by cases e), (fun e => by cases e)⟩
  clear h0 h1 er ec
  have lX := h2.load_agg (P := Try.prog) (t := 25) Try.underlying25 rfl (by kernel_rfl)
  obtain ⟨a, ha⟩ : ∃ a : Option Addr, a = some ⟨w.heap.size, 0, none⟩ := ⟨_, rfl⟩
  obtain ⟨b, hb⟩ : ∃ b : Option Addr, b = some ⟨w.heap.size + 1, 0, none⟩ := ⟨_, rfl⟩
  obtain ⟨g, hg⟩ : ∃ g, g = w.heap.size + 1 + 1 := ⟨_, rfl⟩
  rw [← ha, ← hb] at hT
  rw [← hg, ← ha, ← hb] at lX h2
  rw [← hg, ← ha, ← hb]
  clear ha hb hg
  have q0 : W3.cell? ⟨g, 0, none⟩ = some (.slice a 1 1) := h2.cell_at rfl
  have q1 : W3.cell? ⟨g, 1, none⟩ = some (.slice b 1 1) := h2.cell_at rfl
  have q2 : W3.cell? ⟨g, 2, none⟩ = some (.bool false) := h2.cell_at rfl
  have HX := Lib.hid (And.intro hT h2)
  clear hT h2
  go_wp2_with (first
    | (go_at_call 11; refine (ok.check a 1 1 b 1 1 Tx.t0 w5 (HX.out.1.below hB5) Tx.t0_small).mono ?_; rw [Tx.t0_check, show errn 0 = Value.nilIface from rfl]; rintro e w6 ⟨rfl, hb6⟩; have hB6 := hB5.trans (hb6.mono hB5.size))
    | (go_at_call 22; refine (ok.base a 1 1 b 1 1 Tx.t0 w4 (HX.out.1.below hb4) Tx.t0_small).mono ?_; rintro e w5 ⟨x5, k5, c5, rfl, hby5, hk5, hc5, hb5⟩; have hB5 := hb4.trans (hb5.mono hb4.size); have h5 := HX.out.2.under hB5 HX.out.2.lt; have s0 : w5.cell? ⟨g, 0, none⟩ = some (.slice a 1 1) := h5.cell_at rfl; have s1 : w5.cell? ⟨g, 1, none⟩ = some (.slice b 1 1) := h5.cell_at rfl; have s2 : w5.cell? ⟨g, 2, none⟩ = some (.bool false) := h5.cell_at rfl; obtain rfl : k5 = 55 := (hby5.1.symm.trans Tx.t0_base); clear hby5 hk5 hc5)
    | (go_at_call 21; refine (ok.weight a 1 1 b 1 1 Tx.t0 W3 HX.out.1 Tx.t0_small).mono ?_; rw [Tx.t0_weight]; rintro e w4 ⟨rfl, hb4⟩; have h4 := HX.out.2.under hb4 HX.out.2.lt; have r0 : w4.cell? ⟨g, 0, none⟩ = some (.slice a 1 1) := h4.cell_at rfl; have r1 : w4.cell? ⟨g, 1, none⟩ = some (.slice b 1 1) := h4.cell_at rfl; have r2 : w4.cell? ⟨g, 2, none⟩ = some (.bool false) := h4.cell_at rfl)
    | (refine wpList_load_run rfl 25 (.tmp 1) rfl _ _ rfl lX ?_))
  go_ret
  exact ⟨rfl, hB.trans (hB6.mono hB.size)⟩
end Go.Proofs.Ytpbijcchdjppmaa
