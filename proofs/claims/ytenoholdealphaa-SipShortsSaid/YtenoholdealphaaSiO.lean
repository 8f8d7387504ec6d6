/- package sip: Short, Shorts, Joint; SipOk of the landed code -/
import Derived.Test.YtenoholdealphaaSiZ
import Derived.Test.YtenoholdealphaaSiK
import Derived.Test.YtenoholdealphaaAp
import Derived.Test.YtenoholdealphaaHe
namespace Go.Proofs.Ytenoholdealphaa
open Go Go.RowKit Go.ChangeShapes Go.WideShapes
theorem u32_wrap1 (x : BitVec 32) : IntKind.u32.wrap (nb32 x + 1) = nb32 (x + 1#32) := by
  rw [IntKind.wrap_u32']
  simp only [nb32, BitVec.toNat_add, BitVec.toNat_ofNat]
  omega
theorem info_word6 : (Try.prog.info? 35).map (fun i => (i.zero, i.size, i.bytes)) = some (some (.int .u32 0), 1, 4) := by kernel_rfl
theorem make_words6 (n : Nat) (hn : n ≤ 1099511627776) (w : World) :
    (Instr.makeSlice 32 (.int .i64 (n : Int)) (.int .i64 (n : Int))).run Try.prog w = .ok (.slice (some ⟨w.heap.size, 0, none⟩) n n) (w.alloc (.cells (wcells n fun _ => 0) 35)) := by
  rw [run_make_row' 32 35 _ 4 Try.underlying32 info_word6 rfl .i64 .i64 n (by omega) (by omega) w, wcells_made]
theorem Si.short_eq (x : BitVec 64) : (x % 4294967295#64).setWidth 32 + 1#32 = (x % 4294967295#64 + 1#64).setWidth 32 := by
  apply BitVec.eq_of_toNat_eq
  simp only [BitVec.toNat_add, BitVec.toNat_setWidth, BitVec.toNat_umod, BitVec.toNat_ofNat]
  omega
theorem size_salt : (Try.prog.info? 27).map (·.size) = some 2 := by kernel_rfl
set_option maxRecDepth 100000 in
set_option maxHeartbeats 4000000 in
theorem sipjoint_any (a b : BitVec 64) (w : World) :
    Calls Try.prog 14 #[.int .u64 (nb64 a), .int .u64 (nb64 b)] w fun e w' => e = .returned (.agg #[.int .u64 (nb64 (if a ≤ b then a else b)), .int .u64 (nb64 (if a ≤ b then b else a))]) ∧ Below w.heap.size w w' := by
  have main : ∀ x y : BitVec 64, (if a ≤ b then a else b) = x → (if a ≤ b then b else a) = y → (∀ w, (Builtin.min_ #[22, 22] 22 #[.int .u64 (nb64 a), .int .u64 (nb64 b)]).run Try.prog w = .ok (.int .u64 (nb64 x)) w) → (∀ w, (Builtin.max_ #[22, 22] 22 #[.int .u64 (nb64 a), .int .u64 (nb64 b)]).run Try.prog w = .ok (.int .u64 (nb64 y)) w) →
      Calls Try.prog 14 #[.int .u64 (nb64 a), .int .u64 (nb64 b)] w fun e w' => e = .returned (.agg #[.int .u64 (nb64 x), .int .u64 (nb64 y)]) ∧ Below w.heap.size w w' := by
    intro x y hx hy hmin hmax
    clear hx hy
    go_enter Try.func14, Try.ntmps14
    go_wp2
    have hE := Has.fresh w 27 #[.int .u64 (nb64 x), .int .u64 (nb64 y)]
    exact bodyPost_ret (results_one_cell rfl _ _ w.heap.size rfl _ (run_loadVar_mid _ _ 0 27 _ _ hE.range Try.underlying27 rfl size_salt)) rfl ⟨rfl, (Below.refl _ _).alloc (Nat.le_refl _) _⟩
  refine main _ _ rfl rfl (fun w => ?_) (fun w => ?_)
  · by_cases hab : a ≤ b
    · have hn : ¬ nb64 b < nb64 a := by simp only [nb64]; have := BitVec.le_def.1 hab; omega
      rw [if_pos hab]
      go_simp
      try (intro h; omega)
    · have hn : nb64 b < nb64 a := by simp only [nb64]; rw [BitVec.le_def] at hab; omega
      rw [if_neg hab]
      go_simp
      try (intro h; omega)
  · by_cases hab : a ≤ b
    · have hn : nb64 a ≤ nb64 b := by simp only [nb64]; have := BitVec.le_def.1 hab; omega
      rw [if_pos hab]
      go_simp
      try (intro h; omega)
    · have hn : ¬ nb64 a ≤ nb64 b := by simp only [nb64]; rw [BitVec.le_def] at hab; omega
      rw [if_neg hab]
      go_simp
      try (intro h; omega)
set_option maxRecDepth 100000 in
set_option maxHeartbeats 4000000 in
theorem sipshort_any (k0 k1 : BitVec 64) (l : List (BitVec 8)) (hl : l.length = 32) (w : World) :
    Calls Try.prog 11 #[.agg #[.int .u64 (nb64 k0), .int .u64 (nb64 k1)], .agg (blist l).toArray] w fun e w' => e = .returned (.int .u32 (nb32 (Si.short k0 k1 l))) ∧ Below w.heap.size w w' := by
  have HL := Lib.hid hl
  clear hl
  go_enter Try.func11, Try.ntmps11
  go_upto_region 1 with fail
  have hS : Has ((w.alloc (.cells #[.int .u64 (nb64 k0), .int .u64 (nb64 k1)] 27)).alloc (.cells (blist l).toArray 34)) w.heap.size 27 #[.int .u64 (nb64 k0), .int .u64 (nb64 k1)] := (Has.fresh w _ _).past _
  have hG : Has ((w.alloc (.cells #[.int .u64 (nb64 k0), .int .u64 (nb64 k1)] 27)).alloc (.cells (blist l).toArray 34)) (w.heap.size + 1) 34 (blist l).toArray := Has.fresh_at _ _ _ (by simp)
  have hB : Below w.heap.size w ((w.alloc (.cells #[.int .u64 (nb64 k0), .int .u64 (nb64 k1)] 27)).alloc (.cells (blist l).toArray 34)) := ((Below.refl _ _).alloc (Nat.le_refl _) _).alloc (by simp) _
  generalize ((w.alloc (.cells #[.int .u64 (nb64 k0), .int .u64 (nb64 k1)] 27)).alloc (.cells (blist l).toArray 34)) = w0 at hS hG hB ⊢
  have hby : Bytes8 w0.drew (some ⟨w.heap.size + 1, 0, none⟩) 32 l := ⟨HL.out, by unfold maxLen; omega, fun i hi => ⟨_, rfl, by
    rw [Addr.add_mid, Nat.zero_add]
    exact hG.draw.cell_at (by rw [List.getElem?_toArray]; exact blist_at l i (by rw [HL.out]; exact hi))⟩⟩
  have hSd := hS.draw
  refine wp_region_held_drew (S := Held w0.drew) (by kernel_rfl) (Held.refl _) (fun hHeld => ?_)
  refine take_at (v := ?_) 0 5 rfl rfl (by kernel_rfl) (by kernel_rfl) (by kernel_rfl) (fun _ _ _ h => h) hHeld (Or.inl ⟨by rfl, ?_⟩) rfl ?_
  rotate_left
  · intro wq hSw
    have hst := (hSd.under hSw hSd.lt).cell_at (i := 0) (v := .int .u64 (nb64 k0)) rfl
    have hst2 := (hSd.under hSw hSd.lt).cell_at (i := 1) (v := .int .u64 (nb64 k1)) rfl
    go_simp
    try with_reducible rfl
  simp only [List.set_cons_zero, List.set_cons_succ]
  refine take_at (v := ?_) 1 6 rfl rfl (by kernel_rfl) (by kernel_rfl) (by kernel_rfl) (fun _ _ _ h => h) hHeld (Or.inl ⟨by rfl, ?_⟩) rfl ?_
  rotate_left
  · intro wq hSw
    go_simp
    try with_reducible rfl
  simp only [List.set_cons_zero, List.set_cons_succ]
  refine wpAnyH_ready (rs := [2]) (by kernel_rfl) (by simp) ?_
  refine AllReadyH.cons rfl (fun K hK => ?_) AllReadyH.nil
  go_simp
  go_at_call 8; refine (siphash_any k0 k1 _ 32 32 l w0.drew hby (by omega)).mono ?_; rintro e w3 ⟨rfl, hb3⟩
  refine hK.out _ _ (Held.of hb3) (fun _ => ?_)
  clear hK K
  try simp only [Act.put, List.setIfInBounds_toArray, List.set_cons_zero, List.set_cons_succ]
  refine held_grow (w1 := w3) (Held.of hb3) ?_
  clear hHeld
  have hHeld : Held w3 w3 := Held.refl _
  refine take_at (v := ?_) 3 8 rfl rfl (by kernel_rfl) (by kernel_rfl) (by kernel_rfl) (fun _ _ _ h => h) hHeld (Or.inl ⟨by rfl, ?_⟩) rfl ?_
  rotate_left
  · intro wq hSw
    go_simp
    try with_reducible rfl
  simp only [List.set_cons_zero, List.set_cons_succ]
  refine take_at (v := ?_) 4 9 rfl rfl (by kernel_rfl) (by kernel_rfl) (by kernel_rfl) (fun _ _ _ h => h) hHeld (Or.inl ⟨by rfl, ?_⟩) rfl ?_
  rotate_left
  · intro wq hSw
    go_simp
    try with_reducible rfl
  simp only [List.set_cons_zero, List.set_cons_succ]
  refine take_at (v := ?_) 5 10 rfl rfl (by kernel_rfl) (by kernel_rfl) (by kernel_rfl) (fun _ _ _ h => h) hHeld (Or.inl ⟨by rfl, ?_⟩) rfl ?_
  rotate_left
  · intro wq hSw
    go_simp
    try with_reducible rfl
  simp only [List.set_cons_zero, List.set_cons_succ]
  refine take_at (v := ?_) 6 4 rfl rfl (by kernel_rfl) (by kernel_rfl) (by kernel_rfl) (fun _ _ _ h => h) hHeld (Or.inl ⟨by rfl, ?_⟩) rfl ?_
  rotate_left
  · intro wq hSw
    go_simp
    try with_reducible rfl
  simp only [List.set_cons_zero, List.set_cons_succ]
  refine wpAnyH_done (by kernel_rfl) ?_ _
  go_wp2_with fail
  go_ret
  refine ⟨?_, hB.drew.trans (hb3.mono hB.size)⟩
  rw [u32_wrap1, Si.short_eq]
  rfl
/-- the short ids of the first i -/
def Si.ids (k0 k1 : BitVec 64) (L : List (List (BitVec 8))) (i j : Nat) : BitVec 32 := if j < i then Si.short k0 k1 (L.getD j []) else 0
set_option maxRecDepth 100000 in
set_option maxHeartbeats 4000000 in
theorem sipshorts_any (k0 k1 : BitVec 64) (a : Option Addr) (n c : Nat) (L : List (List (BitVec 8))) (w : World) (hR : Rows8 32 w a n L) (hnc : n ≤ c) (hn : n ≤ 1000) :
    Calls Try.prog 13 #[.agg #[.int .u64 (nb64 k0), .int .u64 (nb64 k1)], .slice a n c] w fun e w' => (∃ a' c', e = .returned (.slice a' n c') ∧ Words32 w' a' n (L.map (Si.short k0 k1))) ∧ Below w.heap.size w w' := by
  have HL := Lib.hid (And.intro hR.1 (And.intro hR.2.2.1 hnc))
  have hmk := make_words6 n (by omega)
  go_enter Try.func13, Try.ntmps13
  go_upto_region 2 with fail
  obtain ⟨w0, hw0⟩ : ∃ x, x = (w.alloc (.cells #[.int .u64 (nb64 k0), .int .u64 (nb64 k1)] 27)).alloc (.cells (wcells n fun _ => 0#32) 35) := ⟨_, rfl⟩
  rw [← hw0]
  have hS0 : Has w0 w.heap.size 27 #[.int .u64 (nb64 k0), .int .u64 (nb64 k1)] := by rw [hw0]; exact (Has.fresh _ _ _).past _
  have hG0 : Has w0 (w.heap.size + 1) 35 (wcells n (Si.ids k0 k1 L 0)) := by rw [hw0]; exact Has.fresh_at _ _ _ (by simp)
  have hB0 : Below w.heap.size w w0 := by rw [hw0]; exact ((Below.refl _ _).alloc (Nat.le_refl _) _).alloc (by simp) _
  clear hw0 hmk
  go_wp2_with fail
  go_loopw [13] (fun iv wr => ∃ i : Nat, i ≤ n ∧ iv = .int .i64 i ∧ Has wr w.heap.size 27 #[.int .u64 (nb64 k0), .int .u64 (nb64 k1)] ∧ Has wr (w.heap.size + 1) 35 (wcells n (Si.ids k0 k1 L i)) ∧ Below w.heap.size w wr) (fun iv _ => n - (intOf iv).toNat)
  case atStart => exact ⟨0, Nat.zero_le _, rfl, hS0, hG0, hB0⟩
  case round =>
    clear hS0 hG0 hB0
    obtain ⟨i, hi, rfl, hS, hG, hB⟩ := hrel
    by_cases hlt : i < n
    · obtain ⟨x, rfl, hx⟩ := (hR.below hB).load (P := Try.prog) Try.underlying34 (by kernel_rfl) hlt
      obtain ⟨l, hl⟩ : ∃ l, l = L.getD i [] := ⟨_, rfl⟩
      rw [← hl] at hx
      have hll : l.length = 32 := by rw [hl]; exact hR.len hlt
      have HH := Lib.hid (And.intro hl hll)
      clear hl hll
      have hii : (i : Int) < (n : Int) := by omega
      have hi0 : (0 : Int) ≤ (i : Int) := by omega
      go_upto_region 4 with fail
      have hth := there_new wr 34 HH.out.2
      have hsz := size_hash' HH.out.2
      have hone := one_hash l
      have HT := Lib.hid (And.intro hth (And.intro hsz hone))
      clear hth hsz hone
      go_upto_region 5 with (first
        | (refine wpList_store_mid rfl 34 (.tmp 7) (.tmp 17) rfl wr.heap.size 0 (blist l).toArray rfl rfl HT.out.1 HT.out.2.1 HT.out.2.2 ?_)
        | (refine wpList_load_run rfl 34 (.tmp 16) rfl _ _ rfl hx ?_))
      obtain ⟨w4, hw4⟩ : ∃ x, x = (wr.alloc (.cells z32 34)).setCells wr.heap.size 0 (blist l) := ⟨_, rfl⟩
      rw [← hw4]
      obtain ⟨hG4, hB4⟩ := hash_new HH.out.2 hw4
      clear hw4 HT
      have hS4 := hS.under hB4 hS.lt
      have hI4 := hG.under hB4 hG.lt
      have s0 : w4.cell? ⟨w.heap.size, 0, none⟩ = some (.int .u64 (nb64 k0)) := hS4.cell_at rfl
      have s1 : w4.cell? ⟨w.heap.size, 1, none⟩ = some (.int .u64 (nb64 k1)) := hS4.cell_at rfl
      have hx4 := Has.load_bytes (P := Try.prog) Try.underlying34 (by kernel_rfl) HH.out.2 hG4
      obtain ⟨X, hX⟩ : ∃ X, X = Si.short k0 k1 l := ⟨_, rfl⟩
      have HX := Lib.hid hX
      clear hX
      go_upto_region 6 with (first
        | (refine wpList_load_run rfl 34 (.tmp 7) rfl _ _ rfl hx4 ?_)
        | (go_at_call 11; refine (sipshort_any k0 k1 l HH.out.2 w4).mono ?_; rw [← HX.out]; rintro e w5 ⟨rfl, hb5⟩; have hI5 := hI4.under hb5 hI4.lt; have c5 := hI5.cell_at (wcells_at _ hlt); have f5 := hI5.loose i))
      have hS6 := (hS4.under hb5 hS4.lt).aside (p := ⟨w.heap.size + 1, i, none⟩) (by show w.heap.size ≠ w.heap.size + 1; omega) (.int .u32 (nb32 X))
      have hI6 := hI5.put i (.int .u32 (nb32 X))
      rw [wcells_put (Si.ids k0 k1 L i) (Si.ids k0 k1 L (i + 1)) i X (by unfold Si.ids; rw [if_pos (by omega), HX.out, HH.out.1]) (fun j _ hj => by
        unfold Si.ids
        by_cases h : j < i
        · rw [if_pos h, if_pos (by omega)]
        · rw [if_neg h, if_neg (by omega)])] at hI6
      have hB6 := ((hB.trans (hB4.mono hB.size)).trans (hb5.mono (Nat.le_trans hB.size hB4.size))).setCell (p := ⟨w.heap.size + 1, i, none⟩) (by show w.heap.size ≤ w.heap.size + 1; omega) (.int .u32 (nb32 X))
      generalize w5.setCell ⟨w.heap.size + 1, i, none⟩ (.int .u32 (nb32 X)) = w6 at hS6 hI6 hB6 ⊢
      clear c5 f5
      go_wp2_with fail
      go_roundw
      case rel => exact ⟨i + 1, by omega, by go_num, hS6, hI6, hB6⟩
      case measure => (simp [intOf]; try omega)
    · have hin : i = n := by omega
      have HI := Lib.hid hin
      have hii : ¬ (i : Int) < (n : Int) := by omega
      clear hin
      go_wp2_with fail
      go_ret
      refine ⟨⟨some ⟨w.heap.size + 1, 0, none⟩, ⟨n, rfl⟩, by rw [List.length_map, HL.out.1], by unfold maxLen; omega, fun j hj => ⟨_, rfl, ?_⟩⟩, hB⟩
      rw [Addr.add_mid, Nat.zero_add, hG.cell_at (wcells_at _ hj)]
      unfold Si.ids
      rw [HI.out, if_pos hj, List.getD_eq_getElem?_getD, List.getD_eq_getElem?_getD, List.getElem?_map, List.getElem?_eq_getElem (by rw [HL.out.1]; exact hj)]
      rfl
theorem sipOk : SipOk where
  hash k0 k1 ad n cp l w h hnc _ := siphash_any k0 k1 ad n cp l w h hnc
  short k0 k1 l w hl := sipshort_any k0 k1 l hl w
  shorts k0 k1 a n c L w hR hnc hn := sipshorts_any k0 k1 a n c L w hR hnc hn
  joint := sipjoint_any
end Go.Proofs.Ytenoholdealphaa
