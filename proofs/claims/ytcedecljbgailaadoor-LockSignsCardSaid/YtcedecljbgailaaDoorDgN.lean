/- package digest: padding -/
import Derived.Test.YtcedecljbgailaaDoorDgJ
namespace Go.Proofs.YtcedecljbgailaaDoor
open Go Go.RowKit Go.ChangeShapes Go.WideShapes
theorem bytes_has {w : World} {g m : Nat} {T : TypeId} {l : List (BitVec 8)} (h : Has w g T (blist l).toArray) (hl : l.length = m) (hm : m ≤ 1000000) : Bytes8 w (some ⟨g, 0, none⟩) m l :=
  ⟨hl, by unfold maxLen; omega, fun i hi => ⟨_, rfl, by
    rw [Addr.add_mid, Nat.zero_add]
    exact h.cell_at (by rw [List.getElem?_toArray]; exact blist_at l i (by omega))⟩⟩
/-- what follows a message of n bytes -/
def Dg.pd (n : Nat) : List (BitVec 8) := [128#8] ++ List.replicate (Dg.zs n) 0#8 ++ (List.range 8).map (Dg.be (n * 8))
theorem Dg.pad_pd (l : List (BitVec 8)) : Dg.pad l = l ++ Dg.pd l.length := by unfold Dg.pad Dg.pd; simp
theorem Dg.pd_len (n : Nat) : (Dg.pd n).length = 1 + Dg.zs n + 8 := by simp [Dg.pd]; omega
/-- the padding on the way: e of the last bytes written -/
def Dg.pdF (Y : BitVec 64) (M e j : Nat) : BitVec 8 := if j = 0 then 128#8 else if M - e ≤ j then (Y >>> (8 * (M - 1 - j))).setWidth 8 else 0
theorem pdF_zero (Y : BitVec 64) (M : Nat) (hM : 0 < M) : (bcells M fun _ => 0).setIfInBounds 0 (.int .u8 128) = bcells M (Dg.pdF Y M 0) :=
  cellsOf_put _ _ 0 _ (by rfl) (fun j hj h0 => by
    unfold Dg.pdF
    rw [if_neg h0, if_neg (by omega)])
theorem pdF_step (Y : BitVec 64) (M e i : Nat) (he : e + 1 < M) (hi : i = M - 1 - e) (x : BitVec 64) (hx : x = Y >>> (8 * e)) : (bcells M (Dg.pdF Y M e)).setIfInBounds i (.int .u8 (nb8 (x.setWidth 8))) = bcells M (Dg.pdF Y M (e + 1)) :=
  cellsOf_put _ _ i _ (by
    unfold Dg.pdF
    rw [if_neg (by omega), if_pos (by omega), hx, show M - 1 - i = e by omega]) (fun j hj h0 => by
    unfold Dg.pdF
    by_cases h1 : j = 0
    · rw [if_pos h1, if_pos h1]
    · rw [if_neg h1, if_neg h1]
      by_cases h2 : M - e ≤ j
      · rw [if_pos h2, if_pos (by omega)]
      · rw [if_neg h2, if_neg (by omega)])
theorem shr_shr (Y : BitVec 64) (a b : Nat) : (Y >>> a) >>> b = Y >>> (a + b) := (BitVec.shiftRight_add Y a b).symm
theorem pdF_end (n e : Nat) (he : e ≤ 8) (h0 : BitVec.ofNat 64 (n * 8) >>> (8 * e) = 0#64) : bcells (1 + Dg.zs n + 8) (Dg.pdF (BitVec.ofNat 64 (n * 8)) (1 + Dg.zs n + 8) e) = (blist (Dg.pd n)).toArray := by
  obtain ⟨z, hz⟩ : ∃ z, z = Dg.zs n := ⟨_, rfl⟩
  apply Array.ext'
  apply List.ext_getElem?
  intro j
  rw [Array.getElem?_toList]
  by_cases h : j < 1 + Dg.zs n + 8
  · rw [bcells_at _ h, blist_at _ j (by rw [Dg.pd_len]; exact h)]
    congr 3
    unfold cb Dg.pd Dg.pdF
    rw [← hz] at h ⊢
    rw [List.getD_eq_getElem?_getD]
    by_cases h1 : j = 0
    · subst h1; rfl
    · rw [if_neg h1]
      by_cases h2 : j < 1 + z
      · rw [if_neg (by omega), List.getElem?_append_left (by simp; omega), List.getElem?_append_right (by simp; omega), List.getElem?_replicate, if_pos (by simp; omega)]
        rfl
      · rw [List.getElem?_append_right (by simp; omega)]
        obtain ⟨k, hk⟩ : ∃ k, k = j - (1 + z) := ⟨_, rfl⟩
        rw [show j - ([128#8] ++ List.replicate z 0#8).length = k by simp; omega, List.getElem?_map, List.getElem?_range (by omega)]
        show _ = Dg.be (n * 8) k
        unfold Dg.be
        rw [show 1 + z + 8 - 1 - j = 7 - k by omega, show 56 - 8 * k = 8 * (7 - k) by omega]
        by_cases h3 : 1 + z + 8 - e ≤ j
        · rw [if_pos h3]
        · rw [if_neg h3, show 8 * (7 - k) = 8 * e + (8 * (7 - k) - 8 * e) by omega, ← shr_shr, h0]
          simp
  · rw [Array.getElem?_eq_none (by simp [bcells, cellsOf_size]; omega), List.getElem?_eq_none (by rw [blist_length, Dg.pd_len]; omega)]
theorem make_bytes_u64 (n : Nat) (hn : n ≤ 1099511627776) (w : World) :
    (Instr.makeSlice 58 (.int .u64 (n : Int)) (.int .u64 (n : Int))).run Tryd.prog w = .ok (.slice (some ⟨w.heap.size, 0, none⟩) n n) (w.alloc (.cells (bcells n fun _ => 0) 5)) := by
  rw [run_make_row' 58 5 _ 1 Tryd.underlying58 info_byte rfl .u64 .u64 n (by omega) (by omega) w]
  have : madeCells #[.int .u8 0] n = bcells n fun _ => 0 := by
    apply Array.ext_getElem?
    intro j
    rw [← Array.getElem?_toList, toList_madeCells_one, List.getElem?_replicate]
    rcases Nat.lt_or_ge j n with h | h
    · rw [if_pos h, bcells_at _ h]; rfl
    · rw [if_neg (by omega), Array.getElem?_eq_none (by unfold bcells; rw [cellsOf_size]; exact h)]
  rw [this]
set_option maxRecDepth 100000 in
set_option maxHeartbeats 4000000 in
theorem padding_any (n : Nat) (hn : n ≤ 1000000) (x : BitVec 64) (hx : x = BitVec.ofNat 64 n) (w : World) :
    Calls Tryd.prog 53 #[.int .u64 (nb64 x)] w fun e w' =>
      e = .returned (.slice (some ⟨w.heap.size, 0, none⟩) (1 + Dg.zs n + 8) (1 + Dg.zs n + 8)) ∧ Has w' w.heap.size 5 (blist (Dg.pd n)).toArray ∧ Below w.heap.size w w' := by
  obtain ⟨z, hz⟩ : ∃ z, z = Dg.zs n := ⟨_, rfl⟩
  rw [← hz]
  have hz64 : z < 64 := by rw [hz]; exact Nat.mod_lt _ (by omega)
  have hxn : nb64 x = (n : Int) := by rw [hx]; simp only [nb64, BitVec.toNat_ofNat]; omega
  obtain ⟨Y, hY⟩ : ∃ Y, Y = BitVec.ofNat 64 (n * 8) := ⟨_, rfl⟩
  have h3 : (IntKind.u64.wrap (-IntKind.u64.wrap (IntKind.u64.wrap ((n : Int) + 1) + 8))).tmod 64 = (z : Int) := by
    obtain ⟨q, hq⟩ : ∃ q : Nat, q = 18446744073709551616 - (n + 9) := ⟨_, rfl⟩
    have e1 : IntKind.u64.wrap (-IntKind.u64.wrap (IntKind.u64.wrap ((n : Int) + 1) + 8)) = (q : Int) := by rw [IntKind.wrap_u64, IntKind.wrap_u64, IntKind.wrap_u64]; omega
    rw [e1, hz]; unfold Dg.zs
    rw [show (q : Int).tmod 64 = ((q % 64 : Nat) : Int) from rfl, hq]
    omega
  obtain ⟨p, hp⟩ : ∃ p : Nat, p = 1 + z := ⟨_, rfl⟩
  have h5 : IntKind.u64.wrap (1 + (z : Int)) = (p : Int) := by rw [IntKind.wrap_u64]; omega
  obtain ⟨M, hM⟩ : ∃ M : Nat, M = 1 + z + 8 := ⟨_, rfl⟩
  rw [← hM]
  have h6 : IntKind.u64.wrap ((p : Int) + 8) = (M : Int) := by rw [IntKind.wrap_u64]; omega
  have h7 : IntKind.u64.wrap ((n : Int) * 8) = nb64 Y := by rw [IntKind.wrap_u64, hY]; simp only [nb64, BitVec.toNat_ofNat]; omega
  have h8 : IntKind.i64.wrap ((M : Int) - 1) = ((M - 1 : Nat) : Int) := by rw [IntWalk.i64_in _ (by omega)]; omega
  have hmk := make_bytes_u64 M (by omega) w
  have hM0 : (0 : Int) < (M : Int) := by omega
  have HN := Lib.hid (And.intro hz (And.intro hY (And.intro hn (And.intro hM hz64))))
  rw [hxn]
  have H3 := Lib.hid h3
  clear hz hY hn hp hx hxn hz64 hM h3
  go_enter Tryd.func53, Tryd.ntmps53
  go_upto_region 2 with fail
  rw [H3.out]
  go_upto_region 3 with fail
  have hP0 := Has.fresh w 5 (bcells M fun _ => 0)
  have cP := hP0.cell_at (bcells_at (fun _ => (0 : BitVec 8)) (show 0 < M by have := HN.out; omega))
  have fP := hP0.loose 0
  have hB0 : Below w.heap.size w (w.alloc (.cells (bcells M fun _ => 0) 5)) := (Below.refl _ _).alloc (Nat.le_refl _) _
  generalize w.alloc (.cells (bcells M fun _ => 0) 5) = w0 at hP0 cP fP hB0 ⊢
  go_upto_region 4 with fail
  have hP := hP0.put 0 (.int .u8 128)
  rw [pdF_zero Y M (by have := HN.out; omega)] at hP
  have hB := hB0.setCell (p := ⟨w.heap.size, 0, none⟩) (Nat.le_refl _) (.int .u8 128)
  generalize w0.setCell ⟨w.heap.size, 0, none⟩ (.int .u8 128) = wB at hP hB ⊢
  clear hmk hP0 cP fP hB0 h5 h6
  go_wp2_with fail
  go_loopw [5, 6] (fun xv iv wr => ∃ e : Nat, e ≤ 8 ∧ iv = .int .i64 ((M : Int) - 1 - e) ∧ xv = .int .u64 (nb64 (Y >>> (8 * e))) ∧ Has wr w.heap.size 5 (bcells M (Dg.pdF Y M e)) ∧ Below w.heap.size w wr) (fun _ iv _ => (intOf iv).toNat)
  case atStart => exact ⟨0, Nat.zero_le _, by go_num, by simp, hP, hB⟩
  case round =>
    clear hP hB
    obtain ⟨e, he, rfl, rfl, hP, hB⟩ := hrel
    obtain ⟨X, hX⟩ : ∃ X, X = Y >>> (8 * e) := ⟨_, rfl⟩
    rw [← hX]
    obtain ⟨i, hi⟩ : ∃ i : Nat, i = M - 1 - e := ⟨_, rfl⟩
    have hMn : 9 ≤ M := by have := HN.out; omega
    have hii : (M : Int) - 1 - e = (i : Int) := by omega
    rw [hii]
    by_cases h0 : X = 0#64
    · have h0' : ¬ (X ≠ 0#64) := by simpa using h0
      have HE := Lib.hid (show bcells M (Dg.pdF Y M e) = (blist (Dg.pd n)).toArray by
        rw [HN.out.2.2.2.1, HN.out.1, HN.out.2.1]
        exact pdF_end n e he (by rw [← HN.out.2.1, ← hX]; exact h0))
      rw [HE.out] at hP
      clear hX hi hii h0
      go_wp2_with fail
      go_ret
      exact ⟨rfl, hP, hB⟩
    · have he8 : e < 8 := by
        rcases Nat.lt_or_ge e 8 with h | h
        · exact h
        · exfalso
          apply h0
          rw [hX, show e = 8 by omega]
          exact BitVec.ushiftRight_eq_zero (by omega)
      have hi0 : (0 : Int) ≤ (i : Int) := by omega
      have hiM : (i : Int) < (M : Int) := by omega
      have hiw : IntKind.i64.wrap ((i : Int) - 1) = (i : Int) - 1 := IntWalk.i64_in _ (by have := HN.out; omega)
      have cP := hP.cell_at (bcells_at (Dg.pdF Y M e) (show i < M by omega))
      have fP := hP.loose i
      have HX := Lib.hid (And.intro hX (And.intro hi (show X >>> 8 = Y >>> (8 * (e + 1)) by rw [hX, shr_shr]; rfl)))
      clear hX hi
      have h0n : X ≠ 0#64 := h0
      go_wp2_with fail
      have hP2 := hP.put i (.int .u8 (nb8 (X.setWidth 8)))
      rw [pdF_step Y M e i (by omega) HX.out.2.1 X HX.out.1] at hP2
      have hB2 := hB.setCell (p := ⟨w.heap.size, i, none⟩) (Nat.le_refl _) (.int .u8 (nb8 (X.setWidth 8)))
      go_roundw
      case rel => exact ⟨e + 1, by omega, by have := HX.out.2.1; go_num, by rw [HX.out.2.2], hP2, hB2⟩
      case measure => (simp [intOf]; try omega)
end Go.Proofs.YtcedecljbgailaaDoor
