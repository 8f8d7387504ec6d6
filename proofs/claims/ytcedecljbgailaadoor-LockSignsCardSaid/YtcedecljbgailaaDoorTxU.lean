/- the reference's Bytes, Base, Weight -/
import Derived.Test.YtcedecljbgailaaDoorTxT
import Derived.Test.YtcedecljbgailaaDoorLz
namespace Go.Proofs.YtcedecljbgailaaDoor
open Go Go.RowKit Go.ChangeShapes Go.WideShapes
theorem Tx.encSp_len (all : Bool) (s : Tx.Sp) (h : s.h.length = 32) (hk : s.key.length ≤ 5000) : (Tx.encSp all s).length ≤ 5060 := by
  unfold Tx.encSp
  cases all
  · simp [Pk.le_len, h]
  · have := Pk.count_le (s.key.length : Int)
    simp [Pk.le_len, h, Pk.text]
    omega
theorem Tx.flat_len {α : Type} (f : α → List (BitVec 8)) (k : Nat) : ∀ l : List α, (∀ x, x ∈ l → (f x).length ≤ k) → (l.flatMap f).length ≤ k * l.length
  | [], _ => by simp
  | x :: l, h => by
    have ih := Tx.flat_len f k l (fun y hy => h y (List.mem_cons_of_mem _ hy))
    have h1 := h x List.mem_cons_self
    rw [List.flatMap_cons, List.length_append, List.length_cons, Nat.mul_add, Nat.mul_one]
    omega
theorem Tx.enc_len (all : Bool) (t : Tx.T) (hs : Tx.Small t) (hh : ∀ s, s ∈ t.sp → s.h.length = 32) : (Tx.enc all t).length ≤ 200000 := by
  have h1 := Tx.flat_len (Tx.encSp all) 5060 t.sp (fun s hx => Tx.encSp_len all s (hh s hx) (hs.2.2 s hx))
  have h2 := Tx.flat_len Tx.encCo 16 t.co (fun c _ => by simp [Tx.encCo, Pk.le_len])
  have h3 := Pk.count_le (t.sp.length : Int)
  have h4 := Pk.count_le (t.co.length : Int)
  have h5 := hs.1
  have h6 := hs.2.1
  unfold Tx.enc
  simp only [List.length_append, List.length_cons, List.length_nil]
  have h7 : 5060 * t.sp.length ≤ 5060 * 30 := Nat.mul_le_mul_left _ h5
  have h8 : 16 * t.co.length ≤ 16 * 30 := Nat.mul_le_mul_left _ h6
  omega
set_option maxRecDepth 100000 in
set_option maxHeartbeats 4000000 in
theorem rbase_any (a : Option Addr) (n q : Nat) (b : Option Addr) (m r : Nat) (t : Tx.T) (w : World) (ht : TxAt w a n q b m r t) (hs : Tx.Small t) :
    Calls Tryd.prog 39 #[txv a n q b m r t.firm] w (BytesPost8 5 w.heap.size (Tx.enc false t) w) := by
  obtain ⟨w1, hw1⟩ : ∃ x, x = w.alloc (.cells #[.slice a n q, .slice b m r, .bool t.firm] 38) := ⟨_, rfl⟩
  have hb1 : Below w.heap.size w w1 := by rw [hw1]; exact (Below.refl _ _).alloc (Nat.le_refl _) _
  have hX : Has w1 w.heap.size 38 #[.slice a n q, .slice b m r, .bool t.firm] := by rw [hw1]; exact Has.fresh _ _ _
  have lX := hX.load_agg (P := Tryd.prog) (t := 38) Tryd.underlying38 rfl (by kernel_rfl)
  have HW := Lib.hid hw1
  have HT := Lib.hid (ht.below hb1)
  have HS := Lib.hid hs
  clear hw1 ht hs hX
  go_enter Tryd.func39, Tryd.ntmps39
  go_upto_region 1 with fail
  rw [← HW.out]
  go_wp2_with (first
    | (go_at_call 47; refine (rput_false a n q b m r t w1 HT.out HS.out).mono ?_; rintro e w2 ⟨v, rfl, ho, hb2⟩)
    | (refine wpList_load_run rfl 38 (.tmp 1) rfl _ _ rfl lX ?_))
  go_ret
  exact ⟨v, rfl, ho.low hb1.size, hb1.trans (hb2.mono hb1.size)⟩
end Go.Proofs.YtcedecljbgailaaDoor
