/- the reference's ReadNum -/
import Derived.Test.YtpbijcchdjppmaaPkT
import Derived.Test.YtpbijcchdjppmaaPkE
import Derived.Test.YtpbijcchdjppmaaAg
namespace Go.Proofs.Ytpbijcchdjppmaa
open Go Go.RowKit Go.ChangeShapes Go.WideShapes
/-- a reader as a value -/
def InV (W : World) (s : Pk.Rd) (v : Value) : Prop := match s with
  | none => v = .agg #[.slice none 0 0, .bool true]
  | some B => ∃ a n c, v = .agg #[.slice a n c, .bool false] ∧ Bytes8 W a n B ∧ n ≤ c ∧ (a = none → c = 0)
theorem InV.below {W W' : World} {s : Pk.Rd} {v : Value} (h : InV W s v) (hb : Below W.heap.size W W') : InV W' s v := by
  cases s with
  | none => exact h
  | some B =>
    obtain ⟨a, n, c, h1, h2, h3⟩ := h
    exact ⟨a, n, c, h1, h2.below hb, h3⟩
theorem results_cell_tmp {P : Program} {fn : Func} {p q : Tmp} {ty : TypeId} (h : fn.results = #[.cell p ty, .tmp q]) (tmps : Array Value) (w : World) (g : Nat) (hp : tmps.getD p undef = .pointer (some ⟨g, 0, none⟩))
    (v u : Value) (hq : tmps.getD q undef = u) (hv : (loadVar ty ⟨g, 0, none⟩).run P w = .ok v w) : (results fn tmps).run P w = .ok (.tuple #[v, u]) w := by
  rw [Array.getD_eq_getD_getElem?] at hp hq
  simp only [results, h]
  simp [hp, hq, hv, asAddr]
theorem size_in : (Try.prog.info? 79).map (·.size) = some 2 := by kernel_rfl
def wrongV : Value := .agg #[.slice none 0 0, .bool true]
theorem in_load {w : World} {g : Nat} {v b : Value} (h : Has w g 79 #[v, b]) : (loadVar 79 ⟨g, 0, none⟩).run Try.prog w = .ok (.agg #[v, b]) w :=
  h.load_var Try.underlying79 rfl size_in
theorem rwrong_any (w : World) : Calls Try.prog 66 #[] w fun e w' => e = .returned wrongV ∧ Below w.heap.size w w' := by
  go_enter Try.func66, Try.ntmps66
  go_wp2
  exact bodyPost_ret (results_one_cell rfl _ _ w.heap.size rfl _ (in_load (Has.fresh _ _ _))) rfl ⟨rfl, (Below.refl _ _).alloc (Nat.le_refl _) _⟩
theorem in_one (v b : Value) (hv : v.oneCell' = true) (hb : b.oneCell' = true) : (#[v, b] : Array Value).all (·.oneCell') = true := by simp [hv, hb]
theorem in_size (v b : Value) : (Try.prog.info? 79).map (·.size) = some (#[v, b] : Array Value).size := size_in
set_option maxRecDepth 100000 in
set_option maxHeartbeats 4000000 in
theorem rreadNum_bad (a : Option Addr) (n c : Nat) (z : Int) (w : World) :
    Calls Try.prog 43 #[.agg #[.slice a n c, .bool true], .int .i64 z] w fun e w' => e = .returned (.tuple #[wrongV, .int .u64 0]) ∧ Below w.heap.size w w' := by
  have hA : Has ((w.alloc (.cells #[.slice a n c, .bool true] 79)).alloc (.cells #[.slice none 0 0, .bool false] 79)) w.heap.size 79 #[.slice a n c, .bool true] := (Has.fresh _ _ _).past _
  have hR : Has ((w.alloc (.cells #[.slice a n c, .bool true] 79)).alloc (.cells #[.slice none 0 0, .bool false] 79)) (w.heap.size + 1) 79 #[.slice none 0 0, .bool false] := Has.fresh_at _ _ _ (by simp)
  have hB : Below w.heap.size w ((w.alloc (.cells #[.slice a n c, .bool true] 79)).alloc (.cells #[.slice none 0 0, .bool false] 79)) := ((Below.refl _ _).alloc (Nat.le_refl _) _).alloc (by simp) _
  go_enter Try.func43, Try.ntmps43
  go_wp2_with (first
    | (refine wpList_store_mid rfl 79 (.tmp 4) (.tmp 23) rfl (w.heap.size + 1) 0 #[.slice none 0 0, .bool true] rfl rfl hth (in_size _ _) (in_one _ _ rfl rfl) ?_)
    | (go_at_call 66; refine (rwrong_any _).mono ?_; rintro e w3 ⟨rfl, hb3⟩; have hR3 := hR.under hb3 hR.lt; have hth := hR3.there 0 2 (Nat.le_refl _)))
  have hE := hR3.whole_cs (cs2 := #[.slice none 0 0, .bool true]) rfl
  exact bodyPost_ret (results_cell_tmp rfl _ _ (w.heap.size + 1) rfl _ _ rfl (in_load hE)) rfl ⟨rfl, below_setAll (by omega) _ 0 (hB.trans (hb3.mono hB.size))⟩
set_option maxRecDepth 100000 in
set_option maxHeartbeats 4000000 in
theorem rreadNum_no (a : Option Addr) (n c : Nat) (z : Int) (w : World) (hz : ¬ (Pk.okSize z ∧ z ≤ n)) :
    Calls Try.prog 43 #[.agg #[.slice a n c, .bool false], .int .i64 z] w fun e w' => e = .returned (.tuple #[wrongV, .int .u64 0]) ∧ Below w.heap.size w w' := by
  have hA : Has ((w.alloc (.cells #[.slice a n c, .bool false] 79)).alloc (.cells #[.slice none 0 0, .bool false] 79)) w.heap.size 79 #[.slice a n c, .bool false] := (Has.fresh _ _ _).past _
  have hR : Has ((w.alloc (.cells #[.slice a n c, .bool false] 79)).alloc (.cells #[.slice none 0 0, .bool false] 79)) (w.heap.size + 1) 79 #[.slice none 0 0, .bool false] := Has.fresh_at _ _ _ (by simp)
  have hB : Below w.heap.size w ((w.alloc (.cells #[.slice a n c, .bool false] 79)).alloc (.cells #[.slice none 0 0, .bool false] 79)) := ((Below.refl _ _).alloc (Nat.le_refl _) _).alloc (by simp) _
  have hN := fun w => rnum8_any 0#64 z w
  obtain ⟨m, hm⟩ : ∃ m, m = (Pk.num 0#64 z).length := ⟨_, rfl⟩
  have HM := Lib.hid hm
  have HN := Lib.hid hN
  have hz0 : m = 0 ∨ 0 < m ∧ ¬ (z ≤ n) := by
    unfold Pk.num at hm
    by_cases h : Pk.okSize z
    · rw [if_pos h, Pk.le_len] at hm
      right
      exact ⟨by unfold Pk.okSize at h; omega, fun h2 => hz ⟨h, h2⟩⟩
    · rw [if_neg h] at hm
      exact .inl hm
  clear hm hN hz
  rcases hz0 with hm0 | ⟨hm0, hzn⟩
  · have hmi : ((m : Int) == 0) = true := by simp [hm0]
    have hmi2 : (m : Int) = 0 := by omega
    have H0 := Lib.hid hm0
    clear hm0
    go_enter Try.func43, Try.ntmps43
    go_wp2_with (first
      | (refine wpList_store_mid rfl 79 (.tmp 4) (.tmp 23) rfl (w.heap.size + 1) 0 #[.slice none 0 0, .bool true] rfl rfl hth (in_size _ _) (in_one _ _ rfl rfl) ?_)
      | (go_at_call 66; refine (rwrong_any _).mono ?_; rintro e w3 ⟨rfl, hb3⟩; have hR3 := hR2.under hb3 hR2.lt; have hth := hR3.there 0 2 (Nat.le_refl _))
      | (go_at_call 67; refine (HN.out _).mono ?_; rintro e w2 ⟨v2, rfl, hv2, hb2⟩; obtain ⟨a2, c2, rfl, _, _, _⟩ := hv2.shape HM.out.symm; have hR2 := hR.under hb2 hR.lt; have hA2 := hA.under hb2 hA.lt; have hB2 := hB.trans (hb2.mono hB.size); have cA0 := hA2.cell_at (i := 0) (v := .slice a n c) rfl))
    have hE := hR3.whole_cs (cs2 := #[.slice none 0 0, .bool true]) rfl
    exact bodyPost_ret (results_cell_tmp rfl _ _ (w.heap.size + 1) rfl _ _ rfl (in_load hE)) rfl ⟨rfl, below_setAll (by omega) _ 0 (hB2.trans (hb3.mono hB2.size))⟩
  · have hmi : ((m : Int) == 0) = false := by simp; omega
    have hmi2 : ¬ ((m : Int) = 0) := by omega
    have hzi : (n : Int) < z := by omega
    have H0 := Lib.hid hm0
    clear hm0 hzn
    go_enter Try.func43, Try.ntmps43
    go_wp2_with (first
      | (refine wpList_store_mid rfl 79 (.tmp 4) (.tmp 23) rfl (w.heap.size + 1) 0 #[.slice none 0 0, .bool true] rfl rfl hth (in_size _ _) (in_one _ _ rfl rfl) ?_)
      | (go_at_call 66; refine (rwrong_any _).mono ?_; rintro e w3 ⟨rfl, hb3⟩; have hR3 := hR2.under hb3 hR2.lt; have hth := hR3.there 0 2 (Nat.le_refl _))
      | (go_at_call 67; refine (HN.out _).mono ?_; rintro e w2 ⟨v2, rfl, hv2, hb2⟩; obtain ⟨a2, c2, rfl, _, _, _⟩ := hv2.shape HM.out.symm; have hR2 := hR.under hb2 hR.lt; have hA2 := hA.under hb2 hA.lt; have hB2 := hB.trans (hb2.mono hB.size); have cA0 := hA2.cell_at (i := 0) (v := .slice a n c) rfl))
    have hE := hR3.whole_cs (cs2 := #[.slice none 0 0, .bool true]) rfl
    exact bodyPost_ret (results_cell_tmp rfl _ _ (w.heap.size + 1) rfl _ _ rfl (in_load hE)) rfl ⟨rfl, below_setAll (by omega) _ 0 (hB2.trans (hb3.mono hB2.size))⟩
end Go.Proofs.Ytpbijcchdjppmaa
