/- law 13: acts as arguments; long (mkchm.py) · law 13: long (mkchn.py) · law 13: sets compared (mkchq.py) · law 13: what Connect does to the worth and the length of a set (pure); append of records, by their bytes · append of one record to a slice that is as large as the reach allows -/
import Derived.Test.YtdfplenniamnoaaGreatDoorJ34
import Derived.Test.YtdfplenniamnoaaGreatDoorJ29
import Derived.Test.YtdfplenniamnoaaGreatDoorJ30
/-! law 13: acts as arguments; long (mkchm.py) -/
namespace Go.Proofs.YtdfplenniamnoaaGreatDoor
open Go Go.RowKit Go.ChangeShapes Go.WideShapes
namespace Ch
/-- an act -/
structure Ac where
  kind : Int
  a : Option Addr
  n : Nat
  q : Nat
  vs : List Tx.V
  b : B
end Ch
def ac13Cells (x : Ch.Ac) : List Value := [.int .i64 x.kind, .slice x.a x.n x.q] ++ bkCells x.b
structure Ch.Ac.At (W : World) (x : Ch.Ac) : Prop where
  kind : -9223372036854775808 ≤ x.kind ∧ x.kind < 9223372036854775808
  ts : Txs W x.a x.n x.vs
  nq : x.n ≤ x.q ∧ (x.a = none → x.q = 0)
  b : x.b.At W
theorem Ch.Ac.At.below {w w' : World} {x : Ch.Ac} (h : x.At w) (hb : Below w.heap.size w w') : x.At w' := ⟨h.kind, h.ts.below hb, h.nq, h.b.below hb⟩
theorem ac13Cells_len {x : Ch.Ac} (h : x.b.prev.length = 32) : (ac13Cells x).length = 36 := by unfold ac13Cells; rw [List.length_append, bkCells_len h]; rfl
def ac13In (W : World) : Rec Ch.Ac where
  k := 36
  cells := ac13Cells
  ok := fun x => x.At W
  pos := by omega
  len t h := ac13Cells_len h.b.p
  one x v hv := by
    unfold ac13Cells at hv
    rcases List.mem_append.1 hv with h | h
    · simp at h
      rcases h with rfl | rfl <;> rfl
    · exact bkRec.one x.b v h
abbrev zAct : Array Value := #[.int .i64 0, .slice none 0 0, .int .u8 0, .int .u8 0, .int .u8 0, .int .u8 0, .int .u8 0, .int .u8 0, .int .u8 0, .int .u8 0, .int .u8 0, .int .u8 0, .int .u8 0, .int .u8 0, .int .u8 0, .int .u8 0, .int .u8 0, .int .u8 0, .int .u8 0, .int .u8 0, .int .u8 0, .int .u8 0, .int .u8 0, .int .u8 0, .int .u8 0, .int .u8 0, .int .u8 0, .int .u8 0, .int .u8 0, .int .u8 0, .int .u8 0, .int .u8 0, .int .u8 0, .int .u8 0, .int .i64 0, .slice none 0 0]
theorem size_act13 (W : World) : (Tryz.prog.info? 81).map (·.size) = some (ac13In W).k := by kernel_rfl
theorem info_act13 (W : World) : (Tryz.prog.info? 81).map (fun i => (i.zero, i.size, i.bytes)) = some (some (.agg zAct), (ac13In W).k, 96) := by kernel_rfl
section
variable {H : Type} {enc : TypeId × Value → H} {W : World}
set_option maxRecDepth 100000 in
theorem open_block {fuel : Nat} {cs : List Value} {x : DataW H × List MemPlace} (h : DataW.trod enc Tryz.prog W 0 (fun _ => true) true fuel 79 cs = some x) : ∃ b : Ch.B, cs = bkCells b ∧ b.At W := by
  obtain ⟨xs, m, _, _, hlen, hxl, hg⟩ := DataW.trod_struct Tryz.underlying79 h
  have hl : cs.length = 34 := hlen.trans (by kernel_rfl)
  have hx3 : xs.length = 3 := hxl
  have c0 : Tryz.prog.cellsOf 34 = 32 := by kernel_rfl
  have c1 : Tryz.prog.cellsOf 3 = 1 := by kernel_rfl
  have c2 : Tryz.prog.cellsOf 77 = 1 := by kernel_rfl
  have g0 : DataW.trod enc Tryz.prog W 0 (fun _ => true) true m 34 ((cs.drop 0).take (Tryz.prog.cellsOf 34)) = xs[0]? := hg 0 _ rfl
  have g1 : DataW.trod enc Tryz.prog W 0 (fun _ => true) true m 3 ((cs.drop 32).take (Tryz.prog.cellsOf 3)) = xs[1]? := hg 1 _ rfl
  have g2 : DataW.trod enc Tryz.prog W 0 (fun _ => true) true m 77 ((cs.drop 33).take (Tryz.prog.cellsOf 77)) = xs[2]? := hg 2 _ rfl
  rw [List.getElem?_eq_getElem (by omega)] at g0 g1 g2
  rw [c0] at g0
  rw [c1] at g1
  rw [c2] at g2
  obtain ⟨l, e0, l0⟩ := open_bytes32 Tryz.underlying34 Tryz.underlying5 (by kernel_rfl) c0 g0
  obtain ⟨z1, e1, _, b1⟩ := DataW.trod_int Tryz.underlying3 g1
  have h33 : ∃ d, (cs.drop 33).take 1 = [d] := ⟨cs[33]'(by omega), by rw [List.drop_eq_getElem_cons (by omega)]; rfl⟩
  obtain ⟨d, e4⟩ := h33
  rw [e4] at g2
  obtain ⟨a, n, q, L, rfl, hL, hnq, h0⟩ := open_recs (R := vIn W) Tryz.underlying77 (by kernel_rfl) open_txv g2
  have k1 := bounds_i64 b1
  refine ⟨⟨l, z1, a, n, q, L⟩, ?_, ⟨l0, by dsimp only; omega, hL.txs (Below.refl _ _), hnq, h0⟩⟩
  have s0 : cs = cs.take 32 ++ cs.drop 32 := (List.take_append_drop 32 cs).symm
  have s1 : cs.drop 32 = (cs.drop 32).take 1 ++ cs.drop 33 := by rw [← List.drop_drop (i := 1) (j := 32)]; exact (List.take_append_drop 1 _).symm
  have s2 : cs.drop 33 = [.slice a n q] := by rw [← e4]; exact (List.take_of_length_le (by rw [List.length_drop]; omega)).symm
  rw [s0, s1, s2, e1, show cs.take 32 = blist l from e0]
  rfl
set_option maxRecDepth 100000 in
theorem open_act13 {fuel : Nat} {cs : List Value} {x : DataW H × List MemPlace} (h : DataW.trod enc Tryz.prog W 0 (fun _ => true) true fuel 81 cs = some x) : ∃ t : Ch.Ac, cs = ac13Cells t ∧ t.At W := by
  obtain ⟨xs, m, _, _, hlen, hxl, hg⟩ := DataW.trod_struct Tryz.underlying81 h
  have hl : cs.length = 36 := hlen.trans (by kernel_rfl)
  have hx3 : xs.length = 3 := hxl
  have c0 : Tryz.prog.cellsOf 3 = 1 := by kernel_rfl
  have c1 : Tryz.prog.cellsOf 77 = 1 := by kernel_rfl
  have c2 : Tryz.prog.cellsOf 79 = 34 := by kernel_rfl
  have g0 : DataW.trod enc Tryz.prog W 0 (fun _ => true) true m 3 ((cs.drop 0).take (Tryz.prog.cellsOf 3)) = xs[0]? := hg 0 _ rfl
  have g1 : DataW.trod enc Tryz.prog W 0 (fun _ => true) true m 77 ((cs.drop 1).take (Tryz.prog.cellsOf 77)) = xs[1]? := hg 1 _ rfl
  have g2 : DataW.trod enc Tryz.prog W 0 (fun _ => true) true m 79 ((cs.drop 2).take (Tryz.prog.cellsOf 79)) = xs[2]? := hg 2 _ rfl
  rw [List.getElem?_eq_getElem (by omega)] at g0 g1 g2
  rw [c0] at g0
  rw [c1] at g1
  rw [c2] at g2
  obtain ⟨z0, e0, _, b0⟩ := DataW.trod_int Tryz.underlying3 g0
  have h1 : ∃ d, (cs.drop 1).take 1 = [d] := ⟨cs[1]'(by omega), by rw [List.drop_eq_getElem_cons (by omega)]; rfl⟩
  obtain ⟨d, e4⟩ := h1
  rw [e4] at g1
  obtain ⟨a, n, q, L, rfl, hL, hnq, h0⟩ := open_recs (R := vIn W) Tryz.underlying77 (by kernel_rfl) open_txv g1
  obtain ⟨b, e2, hb⟩ := open_block g2
  have k0 := bounds_i64 b0
  refine ⟨⟨z0, a, n, q, L, b⟩, ?_, ⟨by dsimp only; omega, hL.txs (Below.refl _ _), ⟨hnq, h0⟩, hb⟩⟩
  have s0 : cs = cs.take 1 ++ cs.drop 1 := (List.take_append_drop 1 cs).symm
  have s1 : cs.drop 1 = (cs.drop 1).take 1 ++ cs.drop 2 := by rw [← List.drop_drop (i := 1) (j := 1)]; exact (List.take_append_drop 1 _).symm
  have s2 : cs.drop 2 = (cs.drop 2).take 34 := (List.take_of_length_le (by rw [List.length_drop]; omega)).symm
  rw [s0, s1, s2, e2, e4, show cs.take 1 = [.int .i64 z0] from e0]
  rfl
end
section
variable {H : Type} {enc : TypeId × Value → H} {W : World} {base : Nat} {v : Value} {d : DataW H} {p : List MemPlace}
set_option maxRecDepth 100000 in
theorem arg_acts13 (o : Value.okWide Tryz.prog W .any base 68 v) (h : DataW.Trod enc Tryz.prog W 0 (fun _ => true) true 68 v d p) :
    ∃ (a : Option Addr) (n c : Nat) (L : List Ch.Ac), v = .slice a n c ∧ Recs (ac13In W) W a n L ∧ n ≤ c ∧ (a = none → c = 0) := by
  obtain ⟨a, n, c, rfl⟩ := okWide_slice Tryz.underlying68 o
  obtain ⟨fuel, hf⟩ := h
  obtain ⟨a', n', c', L, e, hL, hnc, h0⟩ := open_recs (R := ac13In W) Tryz.underlying68 (by kernel_rfl) open_act13 hf
  have e2 : Value.slice a n c = Value.slice a' n' c' := by
    have e3 : (Value.slice a n c).cells.toList = [Value.slice a n c] := rfl
    first
      | exact e
      | (rw [e3] at e; exact (List.cons.inj e).1)
  injection e2 with e4 e5 e6
  subst e4
  subst e5
  subst e6
  exact ⟨a, n, c, L, rfl, hL, hnc, h0⟩
end
theorem ac_bk {x : Ch.Ac} (j : Nat) (v : Value) (h : (bkCells x.b)[j]? = some v) : (ac13Cells x).toArray[2 + j]? = some v := by
  rw [List.getElem?_toArray]
  unfold ac13Cells
  rw [List.getElem?_append_right (by simp)]
  simpa using h
theorem ac_kind {w : World} {g : Nat} {T : TypeId} {x : Ch.Ac} (h : Has w g T (ac13Cells x).toArray) : w.cell? ⟨g, 0, none⟩ = some (.int .i64 x.kind) := h.cell_at rfl
theorem ac_ts {w : World} {g : Nat} {T : TypeId} {x : Ch.Ac} (h : Has w g T (ac13Cells x).toArray) : w.cell? ⟨g, 1, none⟩ = some (.slice x.a x.n x.q) := h.cell_at rfl
theorem ac_bts {w : World} {g : Nat} {T : TypeId} {x : Ch.Ac} (h : Has w g T (ac13Cells x).toArray) (hl : x.b.prev.length = 32) : w.cell? ⟨g, 35, none⟩ = some (.slice x.b.a x.b.n x.b.q) :=
  h.cell_at (by rw [show (35 : Nat) = 2 + (32 + 1) from rfl]; exact ac_bk _ _ (by rw [bkCells_at hl]; rfl))
theorem act_load {W w : World} {x : Addr} {n i : Nat} {L : List Ch.Ac} {t : Ch.Ac} (h : Recs (ac13In W) w (some x) n L) (hi : L[i]? = some t) : (Instr.loadAt 81 (.pointer (some (x.add (i * 36))))).run Tryz.prog w = .ok (.agg (ac13Cells t).toArray) w :=
  h.load_at Tryz.underlying81 rfl (size_act13 W) hi
/-- what an act that is played may hold -/
structure Ch.Ac.Fine (x : Ch.Ac) : Prop where
  n : x.n ≤ 40
  bn : x.b.n ≤ 40
  sm : ∀ v, v ∈ x.vs → Tx.Small v.t
  bsm : ∀ v, v ∈ x.b.vs → Tx.Small v.t
def Long13Post (n : Nat) (L : List Ch.Ac) (w0 : World) (e : Ending) (w' : World) : Prop := ∃ b, e = .returned (.bool b) ∧ (b = false → n ≤ 30 ∧ L.length ≤ 40 ∧ ∀ x, x ∈ L → x.Fine) ∧ Below w0.heap.size w0 w'
theorem min100 (k : Nat) (w : World) : (Builtin.min_ #[3, 3] 3 #[.int .i64 (k : Int), .int .i64 100]).run Tryz.prog w = .ok (.int .i64 ((Nat.min k 100 : Nat) : Int)) w := by
  rw [run_min_int2]
  split <;> (show _ = _) <;> (first | (congr 2; show _ = ((min k 100 : Nat) : Int); omega) | skip)
end Go.Proofs.YtdfplenniamnoaaGreatDoor

/-! law 13: long (mkchn.py) -/
namespace Go.Proofs.YtdfplenniamnoaaGreatDoor
open Go Go.RowKit Go.ChangeShapes Go.WideShapes
set_option maxRecDepth 100000 in
set_option maxHeartbeats 8000000 in
theorem long13_any {W : World} (a : Option Addr) (n q : Nat) (b : Option Addr) (m r : Nat) (K : List Ch.Ac) (w : World) (hn : n ≤ maxLen) (h : Recs (ac13In W) w b m K) (hW : Below W.heap.size W w) :
    Calls Tryz.prog 28 #[.slice a n q, .slice b m r] w (Long13Post n K w) := by
  have HH := Lib.hid h
  have HW := Lib.hid hW
  have hmmx : m ≤ 9223372036854775807 := h.2.1
  have hnmx : n ≤ 9223372036854775807 := hn
  clear h hW hn
  go_enter Tryz.func28, Tryz.ntmps28
  go_wp2
  go_loopw [5, 10] (fun sv iv wr => ∃ (i s : Nat), i ≤ m ∧ i ≤ s ∧ s ≤ 40 ∧ iv = .int .i64 i ∧ sv = .int .i64 s ∧ RowKit.Hid (∀ (j : Nat) (x : Ch.Ac), j < i → K[j]? = some x → x.Fine) ∧ Below w.heap.size w wr) (fun _ iv _ => m - (intOf iv).toNat)
  case atStart => exact ⟨0, 0, Nat.zero_le _, by omega, by omega, rfl, rfl, Lib.hid (fun j x hj => by omega), Below.refl _ _⟩
  case round =>
    obtain ⟨i, s, hi, his, hs40, rfl, rfl, HA, hb⟩ := hrel
    by_cases hlt : i < m
    · have hii : (i : Int) < (m : Int) := by omega
      have hi0 : (0 : Int) ≤ (i : Int) := by omega
      obtain ⟨x, hx⟩ := HH.out.get hlt
      have hok : x.At W := HH.out.okay hx
      obtain ⟨y, rfl, _⟩ := HH.out.2.2.2 i x hx
      have hy := act_load (HH.out.below hb) hx
      have HX := Lib.hid hx
      have HOW := Lib.hid hok
      have HP := Lib.hid hok.b.p
      have hxn : x.n ≤ 9223372036854775807 := hok.ts.1.2.1
      have hxb : x.b.n ≤ 9223372036854775807 := hok.b.ts.1.2.1
      clear hx hok
      go_upto_region 5 with (first
        | (refine wpList_store_mid rfl 81 (.tmp 7) (.tmp 13) rfl wr.heap.size 0 (ac13Cells x).toArray rfl rfl ((ac13In W).there wr 81 (by kernel_rfl) HOW.out) ((ac13In W).size_eq (size_act13 W) HOW.out) ((ac13In W).all_one x) ?_)
        | (refine wpList_load_run rfl 81 (.tmp 12) rfl _ _ rfl hy ?_))
      obtain ⟨w5, hw5⟩ : ∃ u, u = (wr.alloc (.cells zAct 81)).setCells wr.heap.size 0 (ac13Cells x) := ⟨_, rfl⟩
      obtain ⟨hG, hb5⟩ := Rec.new (R := ac13In W) (by kernel_rfl) HOW.out hw5
      rw [← hw5]
      clear hw5 hy
      obtain ⟨g4, hg4⟩ : ∃ g, g = wr.heap.size := ⟨_, rfl⟩
      rw [← hg4] at hG ⊢
      have hB5 := hb.trans (hb5.mono hb.size)
      have HAT := Lib.hid (HOW.out.below (HW.out.trans (hB5.mono HW.out.size)))
      have c1 := ac_ts hG
      have c35 := ac_bts hG HP.out
      have HG := Lib.hid hG
      clear hg4 hb5 hG
      obtain ⟨u, hu⟩ : ∃ u, u = Nat.min x.n 100 := ⟨_, rfl⟩
      obtain ⟨v, hv⟩ : ∃ u, u = Nat.min x.b.n 100 := ⟨_, rfl⟩
      have hu1 : u ≤ 100 := by rw [hu]; exact Nat.min_le_right _ _
      have hv1 : v ≤ 100 := by rw [hv]; exact Nat.min_le_right _ _
      have m1 := fun (w : World) => min100 x.n w
      have m2 := fun (w : World) => min100 x.b.n w
      rw [← hu] at m1
      rw [← hv] at m2
      have HU := Lib.hid (show (u ≤ 40 → x.n ≤ 40) ∧ (v ≤ 40 → x.b.n ≤ 40) by rw [hu, hv]; unfold Nat.min; constructor <;> (intro h; omega))
      obtain ⟨z, hz⟩ : ∃ z, z = s + (1 + u + v) := ⟨_, rfl⟩
      have w1 : IntKind.i64.wrap (1 + (u : Int)) = 1 + (u : Int) := IntWalk.i64_in _ (by omega)
      have w2 : IntKind.i64.wrap (1 + (u : Int) + (v : Int)) = 1 + (u : Int) + (v : Int) := IntWalk.i64_in _ (by omega)
      have w3 : IntKind.i64.wrap ((s : Int) + (1 + (u : Int) + (v : Int))) = (z : Int) := by rw [hz]; have := IntWalk.i64_in ((s : Int) + (1 + (u : Int) + (v : Int))) (by omega); rw [this]; omega
      have HZ := Lib.hid hz
      clear hu hv hz
      go_upto_region 6 with fail
      by_cases h40 : (40 : Int) < (z : Int)
      · go_wp2
        go_ret
        exact ⟨_, rfl, (fun e => by cases e), hB5⟩
      · have HZ4 := Lib.hid (show z ≤ 40 by omega)
        clear m1 m2 w1 w2 w3
        go_wp2_with (first
          | (go_at_call 10; refine (large_any x.b.a x.b.n x.b.q x.b.vs w7 ((HAT.out.below hb7).b.ts)).mono ?_; rintro e w8 ⟨bm, rfl, hsm2, hb8⟩; have HSM2 := Lib.hid hsm2; clear hsm2; have hB8 := hB7.trans (hb8.mono hB7.size))
          | (go_at_call 10; refine (large_any x.a x.n x.q x.vs w5 HAT.out.ts).mono ?_; rintro e w7 ⟨bl, rfl, hsm, hb7⟩; have HSM := Lib.hid hsm; clear hsm; have hB7 := hB5.trans (hb7.mono hB5.size); have c35 : w7.cell? ⟨g4, 35, none⟩ = some (.slice x.b.a x.b.n x.b.q) := by (rw [hb7.cell (isSome_lt (by rw [c35]; rfl))]; exact c35)))
        all_goals try (go_ret; first | exact ⟨_, rfl, (fun e => by cases e), hB8⟩ | exact ⟨_, rfl, (fun e => by cases e), hB7⟩)
        have hblf : bl = false := by first | rfl | assumption | simp_all
        have hbmf : bm = false := by first | rfl | assumption | simp_all
        have HA2 := Lib.hid (show ∀ (j : Nat) (y : Ch.Ac), j < i + 1 → K[j]? = some y → y.Fine from fun j y hj hy => by
          rcases Nat.lt_or_ge j i with h | h
          · exact HA.out j y h hy
          · have e2 : j = i := by omega
            subst e2
            rw [HX.out] at hy
            injection hy with hy
            subst hy
            have h1 := HZ.out
            have h2 := HZ4.out
            exact ⟨HU.out.1 (by omega), HU.out.2 (by omega), (HSM.out hblf).2, (HSM2.out hbmf).2⟩)
        have hz2 : i + 1 ≤ z := by have h1 := HZ.out; omega
        have hz3 : z ≤ 40 := HZ4.out
        go_roundw
        case rel => exact ⟨i + 1, z, by omega, hz2, hz3, by go_num, rfl, HA2, hB8⟩
        case measure => (simp [intOf]; try omega)
    · have hii : ¬ (i : Int) < (m : Int) := by omega
      obtain rfl : i = m := by omega
      go_wp2
      go_ret
      refine ⟨_, rfl, fun e => ⟨?_, by rw [HH.out.1]; omega, fun x hx => ?_⟩, hb⟩
      · have e2 := of_decide_eq_false e
        omega
      · obtain ⟨j, hj⟩ := List.mem_iff_getElem?.1 hx
        exact HA.out j x (by have e := (List.getElem?_eq_some_iff.1 hj).1; rw [HH.out.1] at e; exact e) hj
end Go.Proofs.YtdfplenniamnoaaGreatDoor

/-! law 13: sets compared (mkchq.py) -/
namespace Go.Proofs.YtdfplenniamnoaaGreatDoor
open Go Go.RowKit Go.ChangeShapes Go.WideShapes
set_option maxRecDepth 100000 in
set_option maxHeartbeats 8000000 in
theorem same13 {w : World} {va vb : Value} {F G : Fp} {M N : Cs.Mp} (hM : SetG w va F M) (hN : SetG w vb G N) (he : ∀ q, Cs.look M q = Cs.look N q) (hl : M.length ≤ 1000000000) :
    Calls Tryz.prog 47 #[va, vb] w fun e w' => e = .returned (.bool true) ∧ Below w.heap.size w w' := by
  have hkM := (coinsOk2.keys hM).1
  have hkN := (coinsOk2.keys hN).1
  have hlN : N.length ≤ 1000000000 := by rw [← (Cs.perm_of_look hkM hkN he).length_eq]; exact hl
  have HE := Lib.hid he
  have HM := Lib.hid hM
  have HN := Lib.hid hN
  have HK := Lib.hid (And.intro hkM hkN)
  have HLM := Lib.hid hl
  have HLN := Lib.hid hlN
  clear hM hN he hl hkM hkN hlN
  go_enter Tryz.func47, Tryz.ntmps47
  go_upto_region 2 with (first
    | (go_at_call 26; refine (coinsOk2.points HM.out HLM.out).mono ?_; rintro e w1 ⟨pa, pn, pq, L, rfl, hra, hpw, hppa, hqa, hb1⟩)
    | (go_at_call 26; refine (coinsOk2.points (coinsOk2.below HN.out hb1) HLN.out).mono ?_; rintro e w2 ⟨qb, qn, qq, K, rfl, hrb, hpwb, hppb, hqb, hb2⟩))
  have hLK : L = K := Cs.points_same HK.out.1 HK.out.2 HE.out hppa hppb hqa hqb
  subst hLK
  have hqn : pn = qn := by rw [← hra.1, ← hrb.1]
  subst hqn
  have HSV := Lib.hid (And.intro (hra.below hb2) hrb)
  have HTB := Lib.hid (hb1.trans (hb2.mono hb1.size))
  have hpnx : pn ≤ 9223372036854775807 := hra.2.1
  clear hra hrb hpw hpwb hppa hppb hqa hqb hb1 hb2
  go_wp2
  go_loopw [23] (fun iv wr => ∃ i : Nat, i ≤ pn ∧ iv = .int .i64 i ∧ Below w2.heap.size w2 wr) (fun iv _ => pn - (intOf iv).toNat)
  case atStart => exact ⟨0, Nat.zero_le _, rfl, Below.refl _ _⟩
  case round =>
    obtain ⟨i, hi, rfl, hb⟩ := hrel
    by_cases hlt : i < pn
    · have hii : (i : Int) < (pn : Int) := by omega
      have hi0 : (0 : Int) ≤ (i : Int) := by omega
      obtain ⟨p, hp⟩ := HSV.out.1.get hlt
      obtain ⟨x, hax, _⟩ := HSV.out.1.2.2.2 i p hp
      subst hax
      obtain ⟨y, hbx, _⟩ := HSV.out.2.2.2.2 i p hp
      subst hbx
      have hya := (HSV.out.1.below hb).load_at Tryz.underlying36 rfl size_ptr hp
      have HP := Lib.hid (show Cs.ptOk p from HSV.out.1.okay hp)
      have HPI := Lib.hid hp
      obtain ⟨c, hc⟩ : ∃ c, c = (Cs.look M p).getD ⟨0, 0#64⟩ := ⟨_, rfl⟩
      obtain ⟨o, ho⟩ : ∃ o, o = (Cs.look M p).isSome := ⟨_, rfl⟩
      have HG1 := Lib.hid (show ∀ w', Below w2.heap.size w2 w' → Calls Tryz.prog 21 #[va, .agg (ptCells p.1 p.2).toArray] w' fun e w3 => e = .returned (.tuple #[.agg (coCells c).toArray, .bool o]) ∧ Below w'.heap.size w' w3 from fun w' h => by
        rw [hc, ho]
        exact coinsOk2.get (coinsOk2.below HM.out (HTB.out.trans (h.mono HTB.out.size))) p HP.out)
      have HG2 := Lib.hid (show ∀ w', Below w2.heap.size w2 w' → Calls Tryz.prog 21 #[vb, .agg (ptCells p.1 p.2).toArray] w' fun e w3 => e = .returned (.tuple #[.agg (coCells c).toArray, .bool o]) ∧ Below w'.heap.size w' w3 from fun w' h => by
        rw [hc, ho, HE.out p]
        exact coinsOk2.get (coinsOk2.below HN.out (HTB.out.trans (h.mono HTB.out.size))) p HP.out)
      clear hp hc ho
      go_upto_region 8 with (first
        | (refine wpList_store_mid rfl 39 (.tmp 8) (.tmp 33) rfl w6.heap.size 0 (coCells c).toArray rfl rfl ((Has.fresh w6 39 #[.int .i64 0, .int .u64 0]).there 0 2 (Nat.le_refl _)) (size_co c) (coRec.all_one c) ?_)
        | (go_at_call 21; refine (HG1.out wr hb).mono ?_; rintro e w6 ⟨rfl, hb6⟩)
        | (refine wpList_load_run rfl 36 (.tmp 30) rfl _ _ rfl hya ?_))
      obtain ⟨w7, hw7⟩ : ∃ u, u = (w6.alloc (.cells #[.int .i64 0, .int .u64 0] 39)).setCells w6.heap.size 0 (coCells c).toArray.toList := ⟨_, rfl⟩
      have hw7n : w7 = (w6.alloc (.cells #[.int .i64 0, .int .u64 0] 39)).setCells w6.heap.size 0 (coCells c) := hw7
      have hX7 : Has w7 w6.heap.size 39 (coCells c).toArray := by rw [hw7]; exact (Has.fresh w6 _ _).whole_cs rfl
      have hb67 : Below w6.heap.size w6 w7 := by rw [hw7]; exact below_setAll (Nat.le_refl _) _ 0 ((Below.refl _ _).alloc (Nat.le_refl _) _)
      first | rw [← hw7] | rw [← hw7n]
      obtain ⟨g7, hg7⟩ : ∃ g, g = w6.heap.size := ⟨_, rfl⟩
      rw [← hg7] at hX7 ⊢
      have hb27 := hb6.trans (hb67.mono hb6.size)
      have hT7 := hb.trans (hb27.mono hb.size)
      clear hya hw7 hw7n hg7
      have hyb := (HSV.out.2.below hT7).load_at Tryz.underlying36 rfl size_ptr HPI.out
      go_upto_region 9 with (first
        | (refine wpList_store_mid rfl 39 (.tmp 10) (.tmp 42) rfl w8.heap.size 0 (coCells c).toArray rfl rfl ((Has.fresh w8 39 #[.int .i64 0, .int .u64 0]).there 0 2 (Nat.le_refl _)) (size_co c) (coRec.all_one c) ?_)
        | (go_at_call 21; refine (HG2.out w7 hT7).mono ?_; rintro e w8 ⟨rfl, hb8⟩)
        | (refine wpList_load_run rfl 36 (.tmp 39) rfl _ _ rfl hyb ?_))
      obtain ⟨w9, hw9⟩ : ∃ u, u = (w8.alloc (.cells #[.int .i64 0, .int .u64 0] 39)).setCells w8.heap.size 0 (coCells c).toArray.toList := ⟨_, rfl⟩
      have hw9n : w9 = (w8.alloc (.cells #[.int .i64 0, .int .u64 0] 39)).setCells w8.heap.size 0 (coCells c) := hw9
      have hX9 : Has w9 w8.heap.size 39 (coCells c).toArray := by rw [hw9]; exact (Has.fresh w8 _ _).whole_cs rfl
      have hb89 : Below w8.heap.size w8 w9 := by rw [hw9]; exact below_setAll (Nat.le_refl _) _ 0 ((Below.refl _ _).alloc (Nat.le_refl _) _)
      first | rw [← hw9] | rw [← hw9n]
      obtain ⟨g9, hg9⟩ : ∃ g, g = w8.heap.size := ⟨_, rfl⟩
      rw [← hg9] at hX9 ⊢
      have hb79 := hb8.trans (hb89.mono hb8.size)
      have hT9 := hT7.trans (hb79.mono hT7.size)
      clear hyb hw9 hw9n hg9
      obtain ⟨ws, hws⟩ : ∃ u, u = w9.drew := ⟨_, rfl⟩
      have hbs : Below w9.heap.size w9 ws := by rw [hws]; exact (Below.refl _ _).drew
      have hTs := hT9.trans (hbs.mono hT9.size)
      have hX7s := (hX7.under hb79 hX7.lt).under hbs (hX7.under hb79 hX7.lt).lt
      have hX9s := hX9.under hbs hX9.lt
      have lA := fun (wq : World) (hSw : Held ws wq) => ((HSV.out.1.below hTs).below hSw.below).load_at Tryz.underlying36 rfl size_ptr HPI.out
      have lB := fun (wq : World) (hSw : Held ws wq) => ((HSV.out.2.below hTs).below hSw.below).load_at Tryz.underlying36 rfl size_ptr HPI.out
      have l7 := fun (wq : World) (hSw : Held ws wq) => (hX7s.under hSw.below hX7s.lt).load_agg (P := Tryz.prog) (t := 39) Tryz.underlying39 rfl (size_co c)
      have l9 := fun (wq : World) (hSw : Held ws wq) => (hX9s.under hSw.below hX9s.lt).load_agg (P := Tryz.prog) (t := 39) Tryz.underlying39 rfl (size_co c)
      have HEQ := Lib.hid (show ∀ w, (binOp .neq 36 (.agg (ptCells p.1 p.2).toArray) (.agg (ptCells p.1 p.2).toArray)).run Tryz.prog w = .ok (.bool false) w from fun w => (neq_point w p.1 p.1 p.2 p.2 HP.out.1 HP.out.1).trans (by rw [decide_eq_true (show p.1 = p.1 ∧ p.2 = p.2 from ⟨rfl, rfl⟩)]; rfl))
      have HEC := Lib.hid (show ∀ w, (binOp .neq 39 (.agg (coCells c).toArray) (.agg (coCells c).toArray)).run Tryz.prog w = .ok (.bool false) w from fun w => (neq_coin w c c).trans (by rw [decide_eq_true rfl]; rfl))
      refine wp_region_held_drew (S := Held ws) (by kernel_rfl) (by rw [hws]; exact Held.refl _) (fun hHeld => ?_)
      rw [← hws] at hHeld ⊢
      clear hws
      refine take_at (v := ?_) 0 44 rfl rfl (by kernel_rfl) (by kernel_rfl) (by kernel_rfl) (fun _ _ _ h => h) hHeld (Or.inl ⟨by rfl, ?_⟩) rfl ?_
      rotate_left
      · intro wq hSw
        go_simp
        try with_reducible rfl
      simp only [List.set_cons_zero, List.set_cons_succ]
      refine take_at (v := ?_) 1 45 rfl rfl (by kernel_rfl) (by kernel_rfl) (by kernel_rfl) (fun _ _ _ h => h) hHeld (Or.inl ⟨by rfl, ?_⟩) rfl ?_
      rotate_left
      · intro wq hSw
        go_simp
        try with_reducible rfl
      simp only [List.set_cons_zero, List.set_cons_succ]
      refine take_at (v := ?_) 2 46 rfl rfl (by kernel_rfl) (by kernel_rfl) (by kernel_rfl) (fun _ _ _ h => h) hHeld (Or.inl ⟨by rfl, ?_⟩) rfl ?_
      rotate_left
      · intro wq hSw
        go_simp
        try with_reducible rfl
      simp only [List.set_cons_zero, List.set_cons_succ]
      refine take_at 3 47 rfl rfl (by kernel_rfl) (by kernel_rfl) (by kernel_rfl) (fun _ _ _ h => h) hHeld (yieldsIf_load_agg (by rfl) 36 (.tmp 46) rfl _ _ (by rfl) (fun wq hSw => lA wq hSw)) rfl ?_
      simp only [List.set_cons_zero, List.set_cons_succ]
      refine take_at (v := ?_) 4 48 rfl rfl (by kernel_rfl) (by kernel_rfl) (by kernel_rfl) (fun _ _ _ h => h) hHeld (Or.inl ⟨by rfl, ?_⟩) rfl ?_
      rotate_left
      · intro wq hSw
        go_simp
        try with_reducible rfl
      simp only [List.set_cons_zero, List.set_cons_succ]
      refine take_at (v := ?_) 5 49 rfl rfl (by kernel_rfl) (by kernel_rfl) (by kernel_rfl) (fun _ _ _ h => h) hHeld (Or.inl ⟨by rfl, ?_⟩) rfl ?_
      rotate_left
      · intro wq hSw
        go_simp
        try with_reducible rfl
      simp only [List.set_cons_zero, List.set_cons_succ]
      refine take_at (v := ?_) 6 50 rfl rfl (by kernel_rfl) (by kernel_rfl) (by kernel_rfl) (fun _ _ _ h => h) hHeld (Or.inl ⟨by rfl, ?_⟩) rfl ?_
      rotate_left
      · intro wq hSw
        go_simp
        try with_reducible rfl
      simp only [List.set_cons_zero, List.set_cons_succ]
      refine take_at 7 51 rfl rfl (by kernel_rfl) (by kernel_rfl) (by kernel_rfl) (fun _ _ _ h => h) hHeld (yieldsIf_load_agg (by rfl) 36 (.tmp 50) rfl _ _ (by rfl) (fun wq hSw => lB wq hSw)) rfl ?_
      simp only [List.set_cons_zero, List.set_cons_succ]
      refine take_at (v := .bool false) 8 52 rfl rfl (by kernel_rfl) (by kernel_rfl) (by kernel_rfl) (fun _ _ _ h => h) hHeld (yieldsIf_bin (by rfl) .neq 36 (.tmp 47) (.tmp 51) _ rfl (ptCells p.1 p.2).toArray (ptCells p.1 p.2).toArray (by rfl) (by rfl) (by kernel_rfl) _ HEQ.out) rfl ?_
      simp only [List.set_cons_zero, List.set_cons_succ]
      refine take_at (v := ?_) 9 53 rfl rfl (by kernel_rfl) (by kernel_rfl) (by kernel_rfl) (fun _ _ _ h => h) hHeld (Or.inl ⟨by rfl, ?_⟩) rfl ?_
      rotate_left
      · intro wq hSw
        go_simp
        try with_reducible rfl
      simp only [List.set_cons_zero, List.set_cons_succ]
      refine take_at 10 54 rfl rfl (by kernel_rfl) (by kernel_rfl) (by kernel_rfl) (fun _ _ _ h => h) hHeld (yieldsIf_load_agg (by rfl) 39 (.tmp 8) rfl _ _ (by rfl) (fun wq hSw => l7 wq hSw)) rfl ?_
      simp only [List.set_cons_zero, List.set_cons_succ]
      refine take_at 11 55 rfl rfl (by kernel_rfl) (by kernel_rfl) (by kernel_rfl) (fun _ _ _ h => h) hHeld (yieldsIf_load_agg (by rfl) 39 (.tmp 10) rfl _ _ (by rfl) (fun wq hSw => l9 wq hSw)) rfl ?_
      simp only [List.set_cons_zero, List.set_cons_succ]
      refine take_at (v := .bool false) 12 56 rfl rfl (by kernel_rfl) (by kernel_rfl) (by kernel_rfl) (fun _ _ _ h => h) hHeld (yieldsIf_bin (by rfl) .neq 39 (.tmp 54) (.tmp 55) _ rfl (coCells c).toArray (coCells c).toArray (by rfl) (by rfl) (by kernel_rfl) _ HEC.out) rfl ?_
      simp only [List.set_cons_zero, List.set_cons_succ]
      refine take_at (v := ?_) 13 57 rfl rfl (by kernel_rfl) (by kernel_rfl) (by kernel_rfl) (fun _ _ _ h => h) hHeld (Or.inl ⟨by rfl, ?_⟩) rfl ?_
      rotate_left
      · intro wq hSw
        go_simp
        try with_reducible rfl
      simp only [List.set_cons_zero, List.set_cons_succ]
      refine wpAnyH_done (by kernel_rfl) ?_ _
      go_wp2
      go_roundw
      case rel => exact ⟨i + 1, by omega, by go_num, hTs⟩
      case measure => (simp [intOf]; try omega)
    · have hii : ¬ (i : Int) < (pn : Int) := by omega
      go_wp2
      go_ret
      exact ⟨rfl, HTB.out.trans (hb.mono HTB.out.size)⟩
end Go.Proofs.YtdfplenniamnoaaGreatDoor

/-! law 13: what Connect does to the worth and the length of a set (pure); append of records, by their bytes -/
namespace Go.Proofs.YtdfplenniamnoaaGreatDoor
open Go Go.RowKit Go.ChangeShapes Go.WideShapes
namespace Ch
theorem fee_sum {M : Cs.Mp} {id : List (BitVec 8)} {t : Tx.T} (h : Cs.doE M id t = 0) : Cs.feeV M t = vsum (Cs.spentOf M t) - vsum t.co := by
  obtain ⟨h1, _⟩ := Cs.do_parts h
  obtain ⟨c1, _, _, c4, _⟩ := Cs.fee_parts h1
  obtain ⟨_, _, k3⟩ := Cs.check_parts c1
  have e1 : (Cs.inT M t).1 = (Tx.vals (Cs.spentOf M t)).sum := by
    have := Cs.total_ok _ _ c4
    rw [Int.zero_add] at this
    exact this
  have e2 : (Cs.outT t).1 = (Tx.vals t.co).sum := by
    have := Cs.total_ok _ _ k3
    rw [Int.zero_add] at this
    exact this
  unfold Cs.feeV
  rw [if_pos h1, e1, e2]
  rfl
theorem doN_keys {M : Cs.Mp} {ts : List Tx.T} (h : Cs.Keys M) : ∀ i, Cs.Keys (doN M ts i)
  | 0 => h
  | i + 1 => by
    show Cs.Keys (match ts[i]? with | some t => Cs.doM (doN M ts i) (Tx.idOf false t) t | none => doN M ts i)
    cases ts[i]? with
    | some t => exact Cs.doM_keys (doN_keys h i) _ _
    | none => exact doN_keys h i
theorem take_feesOf {M : Cs.Mp} {ts : List Tx.T} {i : Nat} {t : Tx.T} (h : ts[i]? = some t) : feesOf (ts.take (i + 1)) (spN M ts (i + 1)) = feesOf (ts.take i) (spN M ts i) + (vsum (Cs.spentOf (doN M ts i) t) - vsum t.co) := by
  obtain ⟨h2, h3⟩ := List.getElem?_eq_some_iff.1 h
  rw [spN_step h, List.take_succ_eq_append_getElem h2, h3]
  exact feesOf_snoc (by rw [spN_len (Nat.le_of_lt h2), List.length_take]; omega) _ _
/-- the worth falls by the fees -/
theorem doN_worth {M : Cs.Mp} {ts : List Tx.T} (hM : Cs.Keys M) (hg : ∀ x, x ∈ M → Am.Good x.2.v) (hw : Am.Good (Cs.worth M)) : ∀ {i : Nat}, (∀ (j : Nat) (u : Tx.T), j < i → ts[j]? = some u → Cs.doE (doN M ts j) (Tx.idOf false u) u = 0) → i ≤ ts.length →
    Am.Good (Cs.worth (doN M ts i)) ∧ Cs.worth (doN M ts i) = Cs.worth M - feesOf (ts.take i) (spN M ts i)
  | 0, _, _ => ⟨hw, by rw [List.take_zero]; show Cs.worth M = Cs.worth M - 0; omega⟩
  | i + 1, hj, hl => by
    have ht := List.getElem?_eq_getElem (show i < ts.length by omega)
    obtain ⟨h1, h2⟩ := doN_worth hM hg hw (i := i) (fun j u h1 h2 => hj j u (by omega) h2) (by omega)
    have hd := hj i _ (by omega) ht
    have hg2 := doN_good hg (i := i + 1) hj hl
    have hk := doN_keys (ts := ts) hM i
    have h3 := Cs.do_worthT hk (Cs.doM_keys hk _ _) (by rw [doN_step ht] at hg2; exact hg2) hd (Cs.doM_is hk _ _) h1
    rw [take_feesOf ht, doN_step ht]
    refine ⟨h3.2.1, ?_⟩
    rw [h3.2.2, h2, fee_sum hd]
    omega
theorem doM_len (M : Cs.Mp) (id : List (BitVec 8)) (t : Tx.T) : (Cs.doM M id t).length ≤ M.length + t.co.length := by
  have h1 := Cs.putAll_len (Cs.ownL id t.co) (Cs.delAll M (t.sp.map Cs.pt))
  have h2 := Cs.delAll_len (t.sp.map Cs.pt) M
  have h3 : (Cs.ownL id t.co).length = t.co.length := by unfold Cs.ownL; simp
  show (Cs.putAll _ _).length ≤ _
  omega
theorem doN_len {M : Cs.Mp} {ts : List Tx.T} (hs : ∀ t, t ∈ ts → t.co.length ≤ 30) : ∀ i, (doN M ts i).length ≤ M.length + 30 * i
  | 0 => Nat.le_refl _
  | i + 1 => by
    have ih := doN_len (M := M) hs i
    cases ht : ts[i]? with
    | some t =>
      rw [doN_step ht]
      have h1 := doM_len (doN M ts i) (Tx.idOf false t) t
      have h2 := hs t (List.mem_of_getElem? ht)
      omega
    | none =>
      have : doN M ts (i + 1) = doN M ts i := by
        show (match ts[i]? with | some t => Cs.doM (doN M ts i) (Tx.idOf false t) t | none => doN M ts i) = _
        rw [ht]
      rw [this]
      omega
/-- what a good Connect says -/
theorem con_parts {M : Cs.Mp} {X : List L} {prev : List (BitVec 8)} {h : Int} {ts : List Tx.T} (e : conE M X prev h ts = 0) : ts.length ≤ 60 ∧ h = (X.length : Int) + 1 ∧ prev = tipOf X ∧ ∀ (j : Nat) (u : Tx.T), ts[j]? = some u → Cs.doE (doN M ts j) (Tx.idOf false u) u = 0 := by
  unfold conE at e
  by_cases h1 : chk h ts = 0
  · rw [if_pos h1] at e
    by_cases h2 : prev = tipOf X ∧ h = (X.length : Int) + 1
    · rw [if_pos h2] at e
      exact ⟨(chk_parts h1).2.1, h2.2, h2.1, runE_good e⟩
    · rw [if_neg h2] at e
      exact absurd e (by decide)
  · rw [if_neg h1] at e
    exact absurd e h1
end Ch
end Go.Proofs.YtdfplenniamnoaaGreatDoor

/-! append of one record to a slice that is as large as the reach allows -/
namespace Go.Proofs.YtdfplenniamnoaaGreatDoor
open Go Go.RowKit Go.ChangeShapes Go.WideShapes
theorem run_append_one {P : Program} (w : World) (base : Nat) (t ty e : TypeId) (i : TypeInfo) (z : Value) (ht : P.underlying t = some (.slice e)) (hi : P.info? e = some i) (hz : i.zero = some z) (hzs : z.cells.size = i.size) (hsz : 0 < i.size)
    (v : Value) (n : Nat) (xs : List Value) (hown : w.ownsRow base e i.size v n xs) (a : Addr) (c : Nat) (news : List Value) (hl : news.length = i.size) (hnews : ∀ j u, news[j]? = some u → w.cell? (a.add j) = some u) (h1 : ∀ u ∈ news, u.oneCell' = true)
    (h63 : n + 1 ≤ maxLen) (hbytes : n * i.bytes ≤ 140737488355328) (hb1 : i.bytes ≤ 140737488355328) (hbase : base ≤ w.heap.size) :
    ∃ v' w', (Builtin.append_ #[t, t] ty #[v, .slice (some a) 1 c]).run P w = .ok v' w' ∧ w'.ownsRow base e i.size v' (n + 1) (xs ++ news) ∧ w.grownBy w' v.ownBlock := by
  have hl1 : news.length = 1 * i.size := by rw [Nat.one_mul]; exact hl
  by_cases hb : (n + 1) * i.bytes ≤ 140737488355328
  · obtain ⟨v', w', h2, h3, h4, _⟩ := run_append_own_at (P := P) w base t ty e i z i.size i.bytes ht hi hz rfl rfl hzs hsz v n xs hown a 1 c news hl1 hnews h1 h63 hb hbase
    exact ⟨v', w', h2, h3, h4⟩
  have hlen := hown.1
  have hlen2 : (xs ++ news).length = (n + 1) * i.size := by rw [List.length_append, hlen, hl1, Nat.add_mul]
  have hcase := hown.2
  rcases hcase with ⟨h2, h3⟩ | ⟨g, cap, cur, rfl, hbg, hg, hnc, hcm, hcs, htake⟩
  · exfalso
    subst h3
    omega
  by_cases hroom : n + 1 ≤ cap
  · have hfit : n * i.size + news.length ≤ cur.size := by rw [hl1, hcs, ← Nat.add_mul]; exact Nat.mul_le_mul_right _ hroom
    have hr := run_append_room (P := P) w t ty e i ht hi g n cap cur hg a 1 c news hl1 hnews h1 hroom hfit
    refine ⟨_, _, hr, ⟨hlen2, .inr ⟨g, cap, _, rfl, hbg, setRow_heap w g cur _ e _ hg, hroom, hcm, ?_, ?_⟩⟩, rfl, rfl, rfl, by simp, fun k _ hk => setRow_other w g k _ (fun e => hk (by simp [Value.ownBlock, e]))⟩
    · simp only [List.size_toArray, List.length_append, List.length_take, List.length_drop, Array.length_toList]
      omega
    · rw [htake, ← hlen2]
      exact List.take_left
  · have hcn : cap = n := by omega
    subst hcn
    have hr := run_append_grow (P := P) w t ty e i z ht hi hz ⟨g, 0, none⟩ cap cap xs hlen (hown.cells (g := g) rfl) a 1 c news hl1 hnews (by omega) (by simp only [maxLen] at h63; omega) (growslice_fits_succ hbytes (by omega))
    refine ⟨_, _, hr, ⟨hlen2, .inr ⟨w.heap.size, _, _, rfl, hbase, _root_.Go.heap_alloc_new w.drew _, grownCap_ge w (cap + 1) cap e, grownCap_le_maxLen w (cap + 1) cap e h63, ?_, ?_⟩⟩, rfl, rfl, rfl, by simp, fun k hk _ => _root_.Go.heap_alloc_old w.drew _ hk⟩
    · have hge := grownCap_ge w (cap + 1) cap e
      simp only [Array.size_append, List.size_toArray, size_zeroCells, hzs, hlen, hl1, ← Nat.add_mul]
      congr 1
      omega
    · simp only [Array.toList_append, List.append_assoc]
      rw [← List.append_assoc, ← hlen2]
      exact List.take_left
/-- append(own, record) -/
theorem wpList_append_rec_one {α : Type} {R : Rec α} {P : Program} {w : World} {ops : Array Oper} {rest : List Oper} {o : Oper} {a : Act} {Q : Exit → Act → World → Prop} (hgd : o.guard = none) (s x : Operand) (t : TypeId)
    (ho : o.op = .call { callee := .builtin .append, args := #[s, x], argTypes := #[t, t] })
    (T : TypeId) (ht : P.underlying t = some (.slice T)) {z : Value} {by_ : Nat} (hinfo : (P.info? T).map (fun i => (i.zero, i.size, i.bytes)) = some (some z, R.k, by_)) (hzk : z.cells.size = R.k)
    (B : Nat) (v : Value) (L : List α) (hs : a.eval s = v) (hown : OwnR R T B w v L) (ad : Addr) (c : Nat) (y : α) (hx : a.eval x = .slice (some ad) 1 c) (hw : Recs R w (some ad) 1 [y])
    (hmx : L.length + 1 ≤ maxLen) (hbb : L.length * by_ ≤ 140737488355328) (hby : by_ ≤ 140737488355328) (hbase : B ≤ w.heap.size)
    (h : ∀ v' w', OwnR R T B w' v' (L ++ [y]) → w.grownBy w' v.ownBlock → wpList P ops Q rest (a.put o.dst v') w') : wpList P ops Q (o :: rest) a w :=
  wpList_plain hgd fun K hK => by
    obtain ⟨i0, hi, hz0, hz1, hz2⟩ := info_parts hinfo
    have hf := hw.flat
    obtain ⟨hM, hm, hall, hcell⟩ := hw
    obtain ⟨v', w', hr, h2, h3⟩ := run_append_one (P := P) w B t o.type T i0 z ht hi hz0 (by rw [hz1]; exact hzk) (by rw [hz1]; exact R.pos) v _ _ (by rw [hz1]; exact hown.2) ad c (R.row [y]) (by rw [R.row_len hall, hz1]; exact Nat.one_mul _) hf (R.row_one _) hmx (by rw [hz2]; exact hbb) (by rw [hz2]; exact hby) hbase
    rw [hz1] at h2
    unfold Oper.wp execOp
    simp only [ho, resolve, invoke, builtin, Sem.run_bind, Sem.run_pure, Result.andThen_ok, List.map_toArray, List.map_cons, List.map_nil, hs, hx, hr]
    exact hK _ _ (h v' w' (OwnR.all hown.1 hall hM h2) h3)
end Go.Proofs.YtdfplenniamnoaaGreatDoor
