/- SipShorts over the premise -/
import Derived.Test.YtenoholdealphaaSiK
import Derived.Test.YtenoholdealphaaAp
import Derived.Test.YtenoholdealphaaWo
import Derived.Deep.Cut
import Derived.Test.YtenoholdealphaaFa
namespace Go.Proofs.Ytenoholdealphaa
open Go Go.RowKit Go.ChangeShapes Go.WideShapes
theorem info_word32 : (Try.prog.info? 35).map (fun i => (i.zero, i.size, i.bytes)) = some (some (.int .u32 0), 1, 4) := by kernel_rfl
theorem fresh_shapeK' {T : TypeId} {B K : Nat} {w : World} {v : Value} {l : List (BitVec 32)} (h : Fresh T B w v l) (hK : l.length = K) : ∃ a c, v = .slice a K c ∧ K ≤ c ∧ (a = none → c = 0) ∧ Words32 w a K l := by
  obtain ⟨a, c, rfl, h'⟩ := id h
  obtain ⟨_, h1, h2⟩ := h.words
  subst hK
  exact ⟨a, c, rfl, h1, h.cap0, h2⟩
theorem own_below {T : TypeId} {B : Nat} {w w' : World} {v : Value} {l : List (BitVec 32)} (h : OwnW T B w v l) (hb : Below w.heap.size w w') : OwnW T B w' v l := by
  refine ⟨h.1, ?_⟩
  rcases h.2 with hn | ⟨G, cap, cur, rfl, h1, h2, rest⟩
  · exact .inl hn
  · exact .inr ⟨G, cap, cur, rfl, h1, (hb.block _ (Array.getElem?_eq_some_iff.1 h2).1).trans h2, rest⟩
theorem Si.short_ne (k0 k1 : BitVec 64) (l : List (BitVec 8)) : Si.short k0 k1 l ≠ 0 := by
  unfold Si.short
  generalize Si.hash k0 k1 l = x
  intro h
  have e := congrArg BitVec.toNat h
  rw [BitVec.toNat_setWidth, BitVec.toNat_add, BitVec.toNat_umod] at e
  simp only [BitVec.toNat_ofNat, Nat.reducePow, Nat.reduceMod] at e
  rw [show (0 : BitVec 32).toNat = 0 from rfl] at e
  omega
set_option maxRecDepth 100000 in
set_option maxHeartbeats 4000000 in
theorem sipShortsMain (ok : SipOk) (W : World) (k0 k1 : BitVec 64) (a : Option Addr) (n c : Nat) (L : List (List (BitVec 8))) (hR : Rows8 32 W a n L) (hnc : n ≤ c) (hn : n ≤ 30) :
    Calls Try.prog 4 #[.agg #[.int .u64 (nb64 k0), .int .u64 (nb64 k1)], .slice a n c] W fun e w' => e = .returned (.bool true) ∧ Below W.heap.size W w' := by
  have g1 : ¬ (30 : Int) < (n : Int) := by omega
  have HL := Lib.hid (And.intro hR.1 (And.intro hR.2.2.1 hnc))
  go_enter Try.func4, Try.ntmps4
  go_upto_region 1 with fail
  obtain ⟨W1, hW1⟩ : ∃ x, x = W.alloc (.cells #[.int .u64 (nb64 k0), .int .u64 (nb64 k1)] 29) := ⟨_, rfl⟩
  rw [← hW1]
  have hS1 : Has W1 W.heap.size 29 #[.int .u64 (nb64 k0), .int .u64 (nb64 k1)] := by rw [hW1]; exact Has.fresh _ _ _
  have hT1 : Below W.heap.size W W1 := by rw [hW1]; exact (Below.refl _ _).alloc (Nat.le_refl _) _
  clear hW1
  go_upto_region 6 with (first | (go_at_call 7; refine (alive06 ok W1).mono ?_; rintro e w2 ⟨rfl, hb2⟩))
  have hS2 := hS1.under hb2 hS1.lt
  have hT2 := hT1.trans (hb2.mono hT1.size)
  have hoE : OwnW 35 w2.heap.size (w2.alloc (.cells #[] 35)) (.slice (some ⟨w2.heap.size, 0, none⟩) 0 0) [] := OwnW.empty (Nat.le_refl _) (Has.fresh w2 _ _)
  have hBE : Below w2.heap.size w2 (w2.alloc (.cells #[] 35)) := (Below.refl _ _).alloc (Nat.le_refl _) _
  generalize w2.alloc (.cells #[] 35) = w3 at hoE hBE ⊢
  go_wp2_with fail
  go_loopw [5, 17] (fun bv iv wr => ∃ i : Nat, i ≤ n ∧ iv = .int .i64 i ∧ OwnW 35 w2.heap.size wr bv ((L.take i).map (Si.short k0 k1)) ∧ Below w2.heap.size w2 wr) (fun _ iv _ => n - (intOf iv).toNat)
  case atStart => exact ⟨0, Nat.zero_le _, rfl, by simpa using hoE, hBE⟩
  case round =>
    clear hoE hBE
    obtain ⟨i, hi, rfl, ho, hb⟩ := hrel
    have hTr := hT2.trans (hb.mono hT2.size)
    have hSr := hS2.under hb hS2.lt
    by_cases hlt : i < n
    · obtain ⟨x, rfl, hx⟩ := (hR.below hTr).load (P := Try.prog) Try.underlying34 (by kernel_rfl) hlt
      obtain ⟨l, hl⟩ : ∃ l, l = L.getD i [] := ⟨_, rfl⟩
      rw [← hl] at hx
      have hll : l.length = 32 := by rw [hl]; exact hR.len hlt
      have HH := Lib.hid (And.intro hl hll)
      clear hl hll
      have hii : (i : Int) < (n : Int) := by omega
      have hi0 : (0 : Int) ≤ (i : Int) := by omega
      go_upto_region 8 with fail
      have hth := there_new wr 34 HH.out.2
      have hsz := size_hash' HH.out.2
      have hone := one_hash l
      have HT := Lib.hid (And.intro hth (And.intro hsz hone))
      clear hth hsz hone
      go_upto_region 9 with (first
        | (refine wpList_store_mid rfl 34 (.tmp 7) (.tmp 20) rfl wr.heap.size 0 (blist l).toArray rfl rfl HT.out.1 HT.out.2.1 HT.out.2.2 ?_)
        | (refine wpList_load_run rfl 34 (.tmp 19) rfl _ _ rfl hx ?_))
      obtain ⟨w4, hw4⟩ : ∃ x, x = (wr.alloc (.cells z32 34)).setCells wr.heap.size 0 (blist l) := ⟨_, rfl⟩
      rw [← hw4]
      obtain ⟨hG4, hB4⟩ := hash_new HH.out.2 hw4
      clear hw4 HT
      have hS4 := hSr.under hB4 hSr.lt
      have s0 : w4.cell? ⟨W.heap.size, 0, none⟩ = some (.int .u64 (nb64 k0)) := hS4.cell_at rfl
      have s1 : w4.cell? ⟨W.heap.size, 1, none⟩ = some (.int .u64 (nb64 k1)) := hS4.cell_at rfl
      have hx4 := Has.load_bytes (P := Try.prog) Try.underlying34 (by kernel_rfl) HH.out.2 hG4
      obtain ⟨X, hX⟩ : ∃ X, X = Si.short k0 k1 l := ⟨_, rfl⟩
      have hX0 : (X == 0#32) = false := by rw [hX]; exact beq_false_of_ne (Si.short_ne _ _ _)
      have HX := Lib.hid hX
      clear hX
      go_upto_region 10 with (first
        | (refine wpList_load_run rfl 34 (.tmp 7) rfl _ _ rfl hx4 ?_)
        | (go_at_call 10; refine (sshort_any k0 k1 l HH.out.2 w4).mono ?_; rw [← HX.out]; rintro e w5 ⟨rfl, hb5⟩))
      have hS5 := hS4.under hb5 hS4.lt
      have hG5 := hG4.under hb5 hG4.lt
      clear s0 s1 hx4
      have s0 : w5.cell? ⟨W.heap.size, 0, none⟩ = some (.int .u64 (nb64 k0)) := hS5.cell_at rfl
      have s1 : w5.cell? ⟨W.heap.size, 1, none⟩ = some (.int .u64 (nb64 k1)) := hS5.cell_at rfl
      have hx5 := Has.load_bytes (P := Try.prog) Try.underlying34 (by kernel_rfl) HH.out.2 hG5
      go_upto_region 12 with (first
        | (refine wpList_load_run rfl 34 (.tmp 7) rfl _ _ rfl hx5 ?_)
        | (go_at_call 11; refine (ok.short k0 k1 l w5 HH.out.2).mono ?_; rw [← HX.out]; rintro e w6 ⟨rfl, hb6⟩))
      have hb46 := hB4.trans ((hb5.trans (hb6.mono hb5.size)).mono hB4.size)
      have ho6 := own_below ho hb46
      have hbr6 := hb.trans (hb46.mono hb.size)
      have hle : ((L.take i).map (Si.short k0 k1)).length + 1 ≤ 1099511627776 := by rw [List.length_map, List.length_take]; omega
      have HN := Lib.hid (show (L.take (i + 1)).map (Si.short k0 k1) = (L.take i).map (Si.short k0 k1) ++ [X] by
        rw [List.take_succ_eq_append_getElem (by rw [HL.out.1]; exact hlt), List.map_append, HX.out, HH.out.1, List.getD_eq_getElem?_getD, List.getElem?_eq_getElem (by rw [HL.out.1]; exact hlt)]
        rfl)
      go_wp2_with (first
        | (at_builtin; refine wpList_append_word rfl (.tmp 33) (.tmp 35) 32 rfl 35 Try.underlying32 info_word32 w2.heap.size _ _ rfl ho6 X rfl hle hbr6.size ?_; intro v7 w7 h7 h8))
      go_roundw
      case rel => exact ⟨i + 1, by omega, by go_num, by rw [HN.out]; exact h7, below_own_row (hbr6.alloc hbr6.size _) h8 ho6.lt⟩
      case measure => (simp [intOf]; try omega)
    · have hin : i = n := by omega
      subst hin
      have hii : ¬ (i : Int) < (i : Int) := by omega
      have hti : L.take i = L := List.take_of_length_le (by rw [HL.out.1]; exact Nat.le_refl _)
      rw [hti] at ho
      clear hti
      obtain ⟨va, vc, rfl, hvc, _, hvw⟩ := fresh_shapeK' ho.fresh (show (L.map (Si.short k0 k1)).length = i by rw [List.length_map, HL.out.1])
      have s0 : wr.cell? ⟨W.heap.size, 0, none⟩ = some (.int .u64 (nb64 k0)) := hSr.cell_at rfl
      have s1 : wr.cell? ⟨W.heap.size, 1, none⟩ = some (.int .u64 (nb64 k1)) := hSr.cell_at rfl
      go_wp2_with (first
        | (go_at_call 12; refine (words_same _ _ i _ i _ _ _ w5 hw5 (hvw.below hb5) rfl).mono ?_; rintro e w6 ⟨rfl, hd6⟩)
        | (go_at_call 13; refine (ok.shorts k0 k1 a i c L wr (hR.below hTr) HL.out.2.2 (by omega)).mono ?_; rintro e w5 ⟨⟨a5, c5, rfl, hw5⟩, hb5⟩))
      go_ret
      exact ⟨rfl, (hTr.trans (hb5.mono hTr.size)).trans (hd6.below _)⟩
theorem sipShortsWalkK (ok : SipOk) {H : Type} {enc : TypeId × Value → H} (W : World) (base : Nat) (v0 : Value) (d0 : DataW H) (p0 : List MemPlace) (v1 : Value) (d1 : DataW H) (p1 : List MemPlace)
    (o0 : Value.okWide Try.prog W .any base 29 v0) (o1 : Value.okWide Try.prog W .any base 31 v1)
    (h0 : DataW.Trod enc Try.prog W 0 (fun _ => true) true 29 v0 d0 p0) (h1 : DataW.Trod enc Try.prog W 0 (fun _ => true) true 31 v1 d1 p1) :
    Calls Try.prog 4 #[v0, v1] W fun e w' => e = .returned (.bool true) ∧ Below W.heap.size W w' := by
  obtain ⟨cs, rfl, hl, hf⟩ := arg_fields Try.underlying29 (by kernel_rfl) (by kernel_rfl) o0 h0
  match cs, hl with
  | [b0, b1], _ =>
    obtain ⟨n0, y0, t0⟩ := hf 0 _ b0 rfl rfl
    obtain ⟨n1, y1, t1⟩ := hf 1 _ b1 rfl rfl
    obtain ⟨k0, rfl⟩ := field_u64 Try.underlying22 t0
    obtain ⟨k1, rfl⟩ := field_u64 Try.underlying22 t1
    obtain ⟨a, n, c, L, rfl, hR, hnc, _⟩ := arg_rows8 Try.underlying31 Try.underlying34 Try.underlying5 (by kernel_rfl) (by kernel_rfl) o1 h1
    clear o0 h0 o1 h1
    have hmx : n ≤ 9223372036854775807 := hR.2.1
    by_cases g1 : (30 : Int) < (n : Int)
    · go_enter Try.func4, Try.ntmps4
      have hB1 : Below W.heap.size W (W.alloc (.cells #[.int .u64 (nb64 k0), .int .u64 (nb64 k1)] 29)) := (Below.refl _ _).alloc (Nat.le_refl _) _
      go_wp2_with (first | (go_at_call 7; refine (alive06 ok _).mono ?_; rintro e w1 ⟨rfl, hb1⟩))
      go_ret
      exact ⟨rfl, hB1.trans (hb1.mono hB1.size)⟩
    · exact sipShortsMain ok W k0 k1 a n c L hR hnc (by omega)
end Go.Proofs.Ytenoholdealphaa
