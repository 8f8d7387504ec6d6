/- the law's long -/
import Derived.Test.YtndcpclichpkaaaPkS
namespace Go.Proofs.Ytndcpclichpkaaa
open Go Go.RowKit Go.ChangeShapes Go.WideShapes
/-- few things, of short texts -/
def Pk.Short (L : List Pk.Th) : Prop := L.length ≤ 41 ∧ ∀ t, t ∈ L → t.s.length ≤ 3000
def LongPost (L : List Pk.Th) (w0 : World) (e : Ending) (w' : World) : Prop := ∃ b, e = .returned (.bool b) ∧ (b = false → Pk.Short L) ∧ Below w0.heap.size w0 w'
set_option maxRecDepth 100000 in
set_option maxHeartbeats 4000000 in
theorem long_any (a : Option Addr) (n c : Nat) (L : List Pk.Th) (w : World) (h : Things w a n L) :
    Calls Try.prog 8 #[.slice a n c] w (LongPost L w) := by
  have HH := Lib.hid h
  have hmx : n ≤ 9223372036854775807 := h.2.1
  clear h
  go_enter Try.func8, Try.ntmps8
  go_wp2
  go_loopw [3, 8] (fun sv iv wr => ∃ (i s : Nat), i ≤ n ∧ i ≤ 41 ∧ s ≤ 3000 ∧ iv = .int .i64 i ∧ sv = .int .i64 s ∧ RowKit.Hid (∀ (j : Nat) (t : Pk.Th), j < i → L[j]? = some t → t.s.length ≤ 3000) ∧ Below w.heap.size w wr) (fun _ iv _ => n - (intOf iv).toNat)
  case atStart => exact ⟨0, 0, Nat.zero_le _, by omega, by omega, rfl, rfl, Lib.hid (fun j t hj => by omega), Below.refl _ _⟩
  case round =>
    obtain ⟨i, s, hi, hi41, hs3, rfl, rfl, HA, hb⟩ := hrel
    by_cases hlt : i < n
    · have hii : (i : Int) < (n : Int) := by omega
      have hL := HH.out.1
      obtain ⟨t, ht⟩ : ∃ t, L[i]? = some t := ⟨_, List.getElem?_eq_getElem (by omega)⟩
      have hok := HH.out.2.2.1 t (List.mem_of_getElem? ht)
      obtain ⟨x, rfl, hx⟩ := (HH.out.below hb).load ht
      have HOK := Lib.hid hok
      have HT := Lib.hid ht
      clear hok ht hL
      go_upto_region 5 with (first
        | (refine wpList_store_mid rfl 33 (.tmp 5) (.tmp 12) rfl wr.heap.size 0 (thCells t).toArray rfl rfl (there_thing _ _ HOK.out.2.2.2) (size_thing HOK.out.2.2.2) (thCells_one t) ?_)
        | (refine wpList_load_run rfl 33 (.tmp 11) rfl _ _ rfl hx ?_))
      obtain ⟨w5, hw5⟩ : ∃ x, x = (wr.alloc (.cells zTh 33)).setCells wr.heap.size 0 (thCells t) := ⟨_, rfl⟩
      obtain ⟨hth, hb5⟩ := thing_new HOK.out.2.2.2 hw5
      rw [← hw5]
      clear hw5 hx
      have c3 := hth.str
      have hsz := strB_size t.s
      have hB5 := hb.trans (hb5.mono hb.size)
      obtain ⟨m, hm⟩ : ∃ m, m = t.s.length := ⟨_, rfl⟩
      rw [← hm] at hsz
      have HM := Lib.hid hm
      clear hm
      by_cases h10 : (10000 : Int) < (m : Int)
      · go_wp2
        all_goals
          go_ret
          exact ⟨_, rfl, (fun e => by cases e), hB5⟩
      · by_cases hi40 : (40 : Int) < (i : Int)
        · go_wp2
          go_ret
          exact ⟨_, rfl, (fun e => by cases e), hB5⟩
        · by_cases hs2 : (3000 : Int) < (s : Int) + (m : Int)
          · go_wp2
            go_ret
            exact ⟨_, rfl, (fun e => by cases e), hB5⟩
          · have HA2 := Lib.hid (show ∀ (j : Nat) (u : Pk.Th), j < i + 1 → L[j]? = some u → u.s.length ≤ 3000 from fun j u hj hu => by
              rcases Nat.lt_or_ge j i with h | h
              · exact HA.out j u h hu
              · have e : j = i := by omega
                rw [e, HT.out] at hu
                injection hu with hu
                rw [← hu, ← HM.out]
                omega)
            go_wp2
            go_roundw
            case rel => exact ⟨i + 1, s + m, by omega, by omega, by omega, by go_num, by go_num, HA2, hB5⟩
            case measure => (simp [intOf]; try omega)
    · have hin : i = n := by omega
      subst hin
      have hii : ¬ (i : Int) < (i : Int) := by omega
      have HS := Lib.hid (show Pk.Short L from ⟨by have := HH.out.1; omega, fun t ht => by
        obtain ⟨j, hj, e⟩ := List.mem_iff_getElem.1 ht
        exact HA.out j t (by have := HH.out.1; omega) (by rw [List.getElem?_eq_getElem hj, e])⟩)
      go_wp2
      go_ret
      exact ⟨_, rfl, fun _ => HS.out, hb⟩
end Go.Proofs.Ytndcpclichpkaaa
