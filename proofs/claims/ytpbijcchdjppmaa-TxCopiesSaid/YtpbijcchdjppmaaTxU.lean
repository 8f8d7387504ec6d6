/- the reference's Bytes, Base, Weight -/
import Derived.Test.YtpbijcchdjppmaaTxT
import Derived.Test.YtpbijcchdjppmaaHe
import Derived.Test.YtpbijcchdjppmaaSm
namespace Go.Proofs.Ytpbijcchdjppmaa
open Go Go.RowKit Go.ChangeShapes Go.WideShapes
theorem Tx.encSp_len (all : Bool) (s : Tx.Sp) (h : s.h.length = 32) (hk : s.key.length ≤ 5000) : (Tx.encSp all s).length ≤ 5060 := by
  unfold Tx.encSp
  cases all
  · simp [Pk.le_len, h]
  · have := Pk.count_le (s.key.length : Int)
    simp [Pk.le_len, h, Pk.text]
    omega
theorem Tx.flat_len {α : Type} (f : α → List (BitVec 8)) (k : Nat) : ∀ l : List α, (∀ x, x ∈ l → (f x).length ≤ k) → (l.flatMap f).length ≤ k * l.length
  | [], _ => by simp
  | x :: l, h => by
    have ih := Tx.flat_len f k l (fun y hy => h y (List.mem_cons_of_mem _ hy))
    have h1 := h x List.mem_cons_self
    rw [List.flatMap_cons, List.length_append, List.length_cons, Nat.mul_add, Nat.mul_one]
    omega
theorem Tx.enc_len (all : Bool) (t : Tx.T) (hs : Tx.Small t) (hh : ∀ s, s ∈ t.sp → s.h.length = 32) : (Tx.enc all t).length ≤ 200000 := by
  have h1 := Tx.flat_len (Tx.encSp all) 5060 t.sp (fun s hx => Tx.encSp_len all s (hh s hx) (hs.2.2 s hx))
  have h2 := Tx.flat_len Tx.encCo 16 t.co (fun c _ => by simp [Tx.encCo, Pk.le_len])
  have h3 := Pk.count_le (t.sp.length : Int)
  have h4 := Pk.count_le (t.co.length : Int)
  have h5 := hs.1
  have h6 := hs.2.1
  unfold Tx.enc
  simp only [List.length_append, List.length_cons, List.length_nil]
  have h7 : 5060 * t.sp.length ≤ 5060 * 30 := Nat.mul_le_mul_left _ h5
  have h8 : 16 * t.co.length ≤ 16 * 30 := Nat.mul_le_mul_left _ h6
  omega
end Go.Proofs.Ytpbijcchdjppmaa
