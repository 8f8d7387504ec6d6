/- reference of coins: Spent, Fee (mkcrc.py) · reference of coins: Do (mkcrd.py) · law 12: stands (mkcrf.py) · law 12: the set beside the reference's list, behind Put and Do (pure); Put and Back of none · law 13: Set, same; coins as an argument (mkchl.py) · law 13: alive, same, block (mkcho.py) · law 13: alive, same (mkchp.py) -/
import Derived.Test.YtdfplenniamnoaaGreatDoorJ33
import Derived.Test.YtdfplenniamnoaaGreatDoorJ14
import Derived.OwnWalk
import Derived.Test.YtdfplenniamnoaaGreatDoorJ29
import Derived.Test.YtdfplenniamnoaaGreatDoorJ16
import Derived.Test.YtdfplenniamnoaaGreatDoorJ30
import Derived.Test.YtdfplenniamnoaaGreatDoorJ06
import Derived.Test.YtdfplenniamnoaaGreatDoorJ15
import Derived.Test.YtdfplenniamnoaaGreatDoorJ32
import Derived.Test.YtdfplenniamnoaaGreatDoorJ05
/-! reference of coins: Spent, Fee (mkcrc.py) -/
namespace Go.Proofs.YtdfplenniamnoaaGreatDoor
open Go Go.RowKit Go.ChangeShapes Go.WideShapes
end Go.Proofs.YtdfplenniamnoaaGreatDoor

/-! reference of coins: Do (mkcrd.py) -/
namespace Go.Proofs.YtdfplenniamnoaaGreatDoor
open Go Go.RowKit Go.ChangeShapes Go.WideShapes
namespace Cs
end Cs
end Go.Proofs.YtdfplenniamnoaaGreatDoor

/-! law 12: stands (mkcrf.py) -/
namespace Go.Proofs.YtdfplenniamnoaaGreatDoor
open Go Go.RowKit Go.ChangeShapes Go.WideShapes
/-- a set in the program and the reference's list beside it -/
structure Cs.Beside (M : Cs.Mp) (m : List Cs.Hv) : Prop where
  srt : Cs.Srt m
  look : ∀ q, Cs.look M q = Cs.look m q
end Go.Proofs.YtdfplenniamnoaaGreatDoor

/-! law 12: the set beside the reference's list, behind Put and Do (pure); Put and Back of none -/
namespace Go.Proofs.YtdfplenniamnoaaGreatDoor
open Go Go.RowKit Go.ChangeShapes Go.WideShapes
namespace Cs
theorem putE_look {M m : Mp} (e : look M = look m) (p : Pt) (c : Tx.Co) : putE M p c = putE m p c := by
  unfold putE
  rw [e]
theorem put_none {M : Mp} {p : Pt} {c : Tx.Co} (h : putE M p c = 0) : look M p = none := by
  unfold putE at h
  by_cases h1 : Am.Good c.v
  · rw [if_pos h1] at h
    cases h2 : look M p with
    | none => rfl
    | some d =>
      rw [h2] at h
      exact absurd h (by simp)
  · rw [if_neg h1] at h
    exact absurd h (by decide)
theorem Beside.put {M M' : Mp} {m : List Hv} (hb : Beside M m) (hl : ∀ x, x ∈ m → x.1.1.length = 32) {p : Pt} (hp : p.1.length = 32) {c : Tx.Co} (h : ∀ q, Cs.look M' q = if putE M p c = 0 ∧ q = p then some c else Cs.look M q) : Beside M' (if putE m p c = 0 then rwi m p c else m) := by
  have e := funext hb.look
  rw [putE_look e] at h
  by_cases h1 : putE m p c = 0
  · rw [if_pos h1]
    have hn := put_none h1
    refine ⟨srt_rwi hb.srt hl hp c hn, fun q => ?_⟩
    rw [h q, look_rwi m p c q hn]
    by_cases h2 : q = p
    · rw [if_pos ⟨h1, h2⟩, if_pos h2]
    · rw [if_neg (fun h => h2 h.2), if_neg h2, hb.look]
  · rw [if_neg h1]
    refine ⟨hb.srt, fun q => ?_⟩
    rw [h q, if_neg (fun h => h1 h.1), hb.look]
theorem beside_nil : Beside [] [] := ⟨List.Pairwise.nil, fun _ => rfl⟩
end Cs
end Go.Proofs.YtdfplenniamnoaaGreatDoor

/-! law 13: Set, same; coins as an argument (mkchl.py) -/
namespace Go.Proofs.YtdfplenniamnoaaGreatDoor
open Go Go.RowKit Go.ChangeShapes Go.WideShapes
section
variable {H : Type} {enc : TypeId × Value → H} {W : World} {base : Nat} {v : Value} {d : DataW H} {p : List MemPlace}
set_option maxRecDepth 100000 in
theorem open_have {fuel : Nat} {cs : List Value} {x : DataW H × List MemPlace} (h : DataW.trod enc Tryz.prog W 0 (fun _ => true) true fuel 103 cs = some x) : ∃ t : Cs.Hv, cs = hvCells t ∧ hvRec.ok t := by
  obtain ⟨xs, k, _, _, hlen, hxl, hg⟩ := DataW.trod_struct Tryz.underlying103 h
  have hl : cs.length = 35 := hlen.trans (by kernel_rfl)
  have hx2 : xs.length = 2 := hxl
  have c0 : Tryz.prog.cellsOf 36 = 33 := by kernel_rfl
  have c1 : Tryz.prog.cellsOf 39 = 2 := by kernel_rfl
  have g0 : DataW.trod enc Tryz.prog W 0 (fun _ => true) true k 36 ((cs.drop 0).take (Tryz.prog.cellsOf 36)) = xs[0]? := hg 0 _ rfl
  have g1 : DataW.trod enc Tryz.prog W 0 (fun _ => true) true k 39 ((cs.drop 33).take (Tryz.prog.cellsOf 39)) = xs[1]? := hg 1 _ rfl
  rw [List.getElem?_eq_getElem (by omega)] at g0 g1
  rw [c0] at g0
  rw [c1] at g1
  obtain ⟨l, z1, e1, l1, b1⟩ := open_point g0
  obtain ⟨c, e2, hc⟩ := open_coin g1
  refine ⟨((l, z1), c), ?_, ⟨⟨l1, by dsimp only; omega⟩, hc⟩⟩
  have s0 : cs = cs.take 33 ++ cs.drop 33 := (List.take_append_drop 33 cs).symm
  have s1 : cs.drop 33 = (cs.drop 33).take 2 := (List.take_of_length_le (by rw [List.length_drop]; omega)).symm
  rw [s0, s1, e2, show cs.take 33 = ptCells l z1 from e1]
  rfl
set_option maxRecDepth 100000 in
theorem arg_haves (o : Value.okWide Tryz.prog W .any base 32 v) (h : DataW.Trod enc Tryz.prog W 0 (fun _ => true) true 32 v d p) :
    ∃ (a : Option Addr) (n c : Nat) (L : List Cs.Hv), v = .slice a n c ∧ Recs hvRec W a n L ∧ n ≤ c ∧ (a = none → c = 0) := by
  obtain ⟨a, n, c, rfl⟩ := okWide_slice Tryz.underlying32 o
  obtain ⟨fuel, hf⟩ := h
  obtain ⟨a', n', c', L, e, hL, hnc, h0⟩ := open_recs (R := hvRec) Tryz.underlying32 (by kernel_rfl) open_have hf
  have e2 : Value.slice a n c = Value.slice a' n' c' := by
    have e3 : (Value.slice a n c).cells.toList = [Value.slice a n c] := rfl
    first
      | exact e
      | (rw [e3] at e; exact (List.cons.inj e).1)
  injection e2 with e4 e5 e6
  subst e4
  subst e5
  subst e6
  exact ⟨a, n, c, L, rfl, hL, hnc, h0⟩
end
theorem size_hv : (Tryz.prog.info? 103).map (·.size) = some hvRec.k := by kernel_rfl
theorem hv_load {w : World} {x : Addr} {n i : Nat} {L : List Cs.Hv} {t : Cs.Hv} (h : Recs hvRec w (some x) n L) (hi : L[i]? = some t) : (Instr.loadAt 103 (.pointer (some (x.add (i * 35))))).run Tryz.prog w = .ok (.agg (hvCells t).toArray) w :=
  h.load_at Tryz.underlying103 rfl size_hv hi
/-- what Set answers -/
structure SetPost (w0 w' : World) (n sg sb : Nat) (M : Cs.Mp) (xa : Option Addr) (xn xq : Nat) (m : List Cs.Hv) : Prop where
  s : SetB w' sg sb M
  gd : ∀ x, x ∈ M → Am.Good x.2.v
  fr : w0.heap.size ≤ sg ∧ w0.heap.size ≤ sb
  r : Recs hvRec w' xa xn m
  q : xn ≤ xq ∧ (xa = none → xq = 0)
  be : Cs.Beside M m
  le : m.length ≤ n ∧ M.length ≤ n
  bl : Below w0.heap.size w0 w'
abbrev zHave : Array Value := #[.int .u8 0, .int .u8 0, .int .u8 0, .int .u8 0, .int .u8 0, .int .u8 0, .int .u8 0, .int .u8 0, .int .u8 0, .int .u8 0, .int .u8 0, .int .u8 0, .int .u8 0, .int .u8 0, .int .u8 0, .int .u8 0, .int .u8 0, .int .u8 0, .int .u8 0, .int .u8 0, .int .u8 0, .int .u8 0, .int .u8 0, .int .u8 0, .int .u8 0, .int .u8 0, .int .u8 0, .int .u8 0, .int .u8 0, .int .u8 0, .int .u8 0, .int .u8 0, .int .i64 0, .int .i64 0, .int .u64 0]
def Set13Post (n : Nat) (w0 : World) (e : Ending) (w' : World) : Prop := ∃ (sg sb : Nat) (M : Cs.Mp) (xa : Option Addr) (xn xq : Nat) (m : List Cs.Hv), e = .returned (.tuple #[.pointer (some ⟨sg, 0, none⟩), .slice xa xn xq]) ∧ SetPost w0 w' n sg sb M xa xn xq m
theorem Cs.hv_ok13 {w : World} {a : Option Addr} {n : Nat} {L : List Cs.Hv} (h : Recs hvRec w a n L) : ∀ x, x ∈ L → hvRec.ok x := h.2.2.1
set_option maxRecDepth 100000 in
set_option maxHeartbeats 8000000 in
theorem set13_any (a : Option Addr) (n q : Nat) (L : List Cs.Hv) (w : World) (h : Recs hvRec w a n L) (hn : n ≤ 1000) :
    Calls Tryz.prog 29 #[.slice a n q] w (Set13Post n w) := by
  have HH := Lib.hid h
  have HN := Lib.hid hn
  have hnmx : n ≤ 9223372036854775807 := by omega
  have HNW := Lib.hid (pnew_any w)
  clear h hn
  go_enter Tryz.func29, Tryz.ntmps29
  go_upto_region 2 with (go_at_call 11; refine HNW.out.mono ?_; rintro e w2 ⟨rfl, hS2, hb2⟩)
  obtain ⟨w3, hw3⟩ : ∃ x, x = w2.alloc (.cells #[] 103) := ⟨_, rfl⟩
  have hb3 : Below w2.heap.size w2 w3 := by rw [hw3]; exact (Below.refl _ _).alloc (Nat.le_refl _) _
  have hE := (OwnR.empty (R := hvRec) (T := 103) (B := w2.heap.size) (w1 := w3) (g := w2.heap.size) (Nat.le_refl _) (by rw [hw3]; exact Has.fresh _ _ _)).recs
  obtain ⟨sg, hsg⟩ : ∃ x, x = w.heap.size + 1 := ⟨_, rfl⟩
  obtain ⟨sb, hsb⟩ : ∃ x, x = w.heap.size := ⟨_, rfl⟩
  rw [← hsg, ← hsb] at hS2
  obtain ⟨g0, hg0⟩ : ∃ x, x = w2.heap.size := ⟨_, rfl⟩
  rw [← hg0] at hE
  have HP0 := Lib.hid (show SetPost w w3 0 sg sb [] (some ⟨g0, 0, none⟩) 0 0 [] from ⟨hS2.below hb3, (fun _ h => by cases h), ⟨by omega, by omega⟩, hE.1, hE.2, Cs.beside_nil, ⟨Nat.le_refl _, Nat.le_refl _⟩, hb2.trans (hb3.mono hb2.size)⟩)
  have HG := Lib.hid (And.intro hsg (And.intro hsb hg0))
  have HW3 := Lib.hid hw3
  clear hS2 hE hb2 hb3 hsg hsb hg0 hw3
  go_upto_region 3 with fail
  rw [← HG.out.1, ← HG.out.2.2]
  try rw [← HW3.out]
  go_wp2
  go_loopw [5, 12] (fun lv iv wr => ∃ (i : Nat) (M : Cs.Mp) (xa : Option Addr) (xn xq : Nat) (m : List Cs.Hv), i ≤ n ∧ iv = .int .i64 i ∧ lv = .slice xa xn xq ∧ RowKit.Hid (SetPost w wr i sg sb M xa xn xq m)) (fun _ iv _ => n - (intOf iv).toNat)
  case atStart => exact ⟨0, [], some ⟨g0, 0, none⟩, 0, 0, [], Nat.zero_le _, rfl, rfl, HP0⟩
  case round =>
    clear HP0
    obtain ⟨i, M, xa, xn, xq, m, hi, rfl, rfl, HP⟩ := hrel
    by_cases hlt : i < n
    · have hii : (i : Int) < (n : Int) := by omega
      have hi0 : (0 : Int) ≤ (i : Int) := by omega
      obtain ⟨x, hx⟩ := HH.out.get hlt
      obtain ⟨y, rfl, _⟩ := HH.out.2.2.2 i x hx
      have hy := hv_load (HH.out.below HP.out.bl) hx
      have HOK := Lib.hid (HH.out.okay hx)
      clear hx
      go_upto_region 6 with (first
        | (refine wpList_store_mid rfl 103 (.tmp 7) (.tmp 15) rfl wr.heap.size 0 (hvCells x).toArray rfl rfl (hvRec.there wr 103 (by kernel_rfl) HOK.out) (hvRec.size_eq size_hv HOK.out) (hvRec.all_one x) ?_)
        | (refine wpList_load_run rfl 103 (.tmp 14) rfl _ _ rfl hy ?_))
      obtain ⟨w5, hw5⟩ : ∃ u', u' = (wr.alloc (.cells zHave 103)).setCells wr.heap.size 0 (hvCells x) := ⟨_, rfl⟩
      obtain ⟨hF5, hb5⟩ := Rec.new (R := hvRec) (by kernel_rfl) HOK.out hw5
      rw [← hw5]
      obtain ⟨g5, hg5⟩ : ∃ g, g = wr.heap.size := ⟨_, rfl⟩
      rw [← hg5] at hF5 ⊢
      have HS5 := Lib.hid (HP.out.s.below hb5)
      have HR5 := Lib.hid (HP.out.r.below hb5)
      have HB5 := Lib.hid (HP.out.bl.trans (hb5.mono HP.out.bl.size))
      have HGT := Lib.hid (show ¬ g5 = sb by have := HP.out.s.map.lt; omega)
      have lP := has_mid hF5 0 (ptCells x.1.1 x.1.2) (fun j v hj => by rw [List.getElem?_toArray, Nat.zero_add]; exact hv_pt j v hj) Tryz.underlying36 rfl (by rw [ptCells_len HOK.out.1.1]; kernel_rfl)
      have lC := has_mid hF5 33 (coCells x.2) (fun j v hj => by rw [List.getElem?_toArray]; exact hv_co HOK.out.1.1 j v hj) Tryz.underlying39 rfl (by kernel_rfl)
      have HF5 := Lib.hid hF5
      clear hw5 hy hg5 hF5 hb5
      go_upto_region 7 with (first
        | (go_at_call 12; refine (pput_any HS5.out x.1 HOK.out.1 x.2 HOK.out.2).mono ?_; rintro e w6 ⟨rfl, hS6, hm6⟩)
        | (refine wpList_load_run rfl 39 (.tmp 19) rfl _ _ rfl lC ?_)
        | (refine wpList_load_run rfl 36 (.tmp 17) rfl _ _ rfl lP ?_))
      have hk := cells_map hm6 HS5.out.map
      have hF6 := HF5.out.moved hm6 HGT.out
      have lP := has_mid hF6 0 (ptCells x.1.1 x.1.2) (fun j v hj => by rw [List.getElem?_toArray, Nat.zero_add]; exact hv_pt j v hj) Tryz.underlying36 rfl (by rw [ptCells_len HOK.out.1.1]; kernel_rfl)
      have lC := has_mid hF6 33 (coCells x.2) (fun j v hj => by rw [List.getElem?_toArray]; exact hv_co HOK.out.1.1 j v hj) Tryz.underlying39 rfl (by kernel_rfl)
      have HPU := Lib.hid (r12put xa xn xq m x.1 x.2 HOK.out w6 (HR5.out.keep hk) HP.out.q (by have := HP.out.le; have := HP.out.r.1; have := HN.out; omega))
      have HS6 := Lib.hid hS6
      have hbW6 : Below w.heap.size w w6 := HB5.out.trans (hm6.below (fun j e => by rw [show j = sb from e]; exact HP.out.fr.2) HB5.out.size)
      clear hk hF6 hS6 hm6
      go_wp2_with (first
        | (go_at_call 13; refine HPU.out.mono ?_; rintro e w7 ⟨xa', xn', xq', rfl, hr7, hq7, hx7, hb7⟩)
        | (refine wpList_load_run rfl 39 (.tmp 26) rfl _ _ rfl lC ?_)
        | (refine wpList_load_run rfl 36 (.tmp 24) rfl _ _ rfl lP ?_))
      have hkeys := (SetAt.fits ⟨sg, sb, rfl, HS5.out, rfl⟩ : Cs.Keys M ∧ _).1
      have hlk : ∀ q, Cs.look (if Cs.putE M x.1 x.2 = 0 then Cs.put M x.1 x.2 else M) q = if Cs.putE M x.1 x.2 = 0 ∧ q = x.1 then some x.2 else Cs.look M q := fun q => by
        by_cases h0 : Cs.putE M x.1 x.2 = 0
        · rw [if_pos h0, Cs.look_put hkeys]
          by_cases hq : q = x.1
          · rw [if_pos hq, if_pos ⟨h0, hq⟩]
          · rw [if_neg hq, if_neg (fun h => hq h.2)]
        · rw [if_neg h0, if_neg (fun h => h0 h.1)]
      have hbe := HP.out.be.put (M' := if Cs.putE M x.1 x.2 = 0 then Cs.put M x.1 x.2 else M) (fun y hy => (Cs.hv_ok13 HP.out.r y hy).1.1) HOK.out.1.1 hlk
      have HP2 := Lib.hid (show SetPost w w7 (i + 1) sg sb (if Cs.putE M x.1 x.2 = 0 then Cs.put M x.1 x.2 else M) xa' xn' xq' (if Cs.putE m x.1 x.2 = 0 then Cs.rwi m x.1 x.2 else m) from ⟨HS6.out.below hb7, fun y hy => by
        by_cases h0 : Cs.putE M x.1 x.2 = 0
        · rw [if_pos h0] at hy
          rcases Cs.put_mem hy with hy | rfl
          · exact HP.out.gd y hy
          · unfold Cs.putE at h0
            by_cases h1 : Am.Good x.2.v
            · exact h1
            · rw [if_neg h1] at h0
              exact absurd h0 (by decide)
        · rw [if_neg h0] at hy
          exact HP.out.gd y hy, HP.out.fr, hr7, hq7, hbe, ⟨by
            have := HP.out.le
            by_cases h0 : Cs.putE m x.1 x.2 = 0
            · rw [if_pos h0, Cs.rwi_len]; omega
            · rw [if_neg h0]; omega, by
            have := HP.out.le
            by_cases h0 : Cs.putE M x.1 x.2 = 0
            · rw [if_pos h0]; have := Cs.put_len M x.1 x.2; omega
            · rw [if_neg h0]; omega⟩, hbW6.trans (hb7.mono hbW6.size)⟩)
      clear hkeys hlk hbe hr7 hq7 hx7 hb7 hbW6 lP lC
      go_roundw
      case rel => exact ⟨i + 1, _, xa', xn', xq', _, by omega, by go_num, rfl, HP2⟩
      case measure => (simp [intOf]; try omega)
    · have hii : ¬ (i : Int) < (n : Int) := by omega
      obtain rfl : i = n := by omega
      go_wp2
      go_ret2
      exact ⟨sg, sb, M, xa, xn, xq, m, rfl, HP.out⟩
end Go.Proofs.YtdfplenniamnoaaGreatDoor

/-! law 13: alive, same, block (mkcho.py) -/
namespace Go.Proofs.YtdfplenniamnoaaGreatDoor
open Go Go.RowKit Go.ChangeShapes Go.WideShapes
theorem txs_load' {w : World} {x : Addr} {k i : Nat} {L : List Tx.V} {v : Tx.V} (h : Txs w (some x) k L) (hi : L[i]? = some v) : (Instr.loadAt 26 (.pointer (some (x.add (i * 3))))).run Tryz.prog w = .ok (txv v.a v.n v.q v.b v.m v.r v.t.firm) w := by
  obtain ⟨a, n, q, b, m, r, t⟩ := v
  obtain ⟨y, e, hx, _⟩ := h.load hi
  obtain rfl := Option.some.inj e
  exact hx
theorem wpList_eql_same {P : Program} {ops : Array Oper} {rest : List Oper} {o : Oper} {a : Act} {w : World} {Q : Exit → Act → World → Prop} (hgd : o.guard = none) (t e yt : TypeId) (k : Nat) (x y : Operand) (ho : o.op = .binOp .eql t x y yt)
    (l : List (BitVec 8)) (hx : a.eval x = .agg (blist l).toArray) (hy : a.eval y = .agg (blist l).toArray) (hg : P.eqGuardType P.depth t = false) (ht : P.underlying t = some (.array k e)) (he : P.underlying e = some (.int .u8)) (hs : (P.info? e).map (·.size) = some 1) (hl : l.length = k)
    (h : wpList P ops Q rest (a.put o.dst (.bool true)) w) : wpList P ops Q (o :: rest) a w :=
  wpList_plain hgd fun K hK => by
    unfold Oper.wp execOp
    simp only [ho, hx, hy, Sem.run_bind, run_eqGuard_agg w .eql t x y _ _ hg, Result.andThen_ok, run_eql_hash w ht he hs l l hl hl, Sem.run_pure, decide_true]
    exact hK _ _ h
set_option maxRecDepth 100000 in
set_option maxHeartbeats 8000000 in
theorem txs_same (a : Option Addr) (n q : Nat) (vs : List Tx.V) (b : Option Addr) (m r : Nat) (us : List Tx.V) (w : World) (h : Txs w a n vs) (k : Txs w b m us) (he : Ch.tsOf vs = Ch.tsOf us) :
    Calls Tryz.prog 37 #[.slice a n q, .slice b m r] w fun e w' => e = .returned (.bool true) ∧ Below w.heap.size w w' := by
  have hl : n = m := by
    have := congrArg List.length he
    rw [Ch.tsOf_len, Ch.tsOf_len, h.1.1, k.1.1] at this
    exact this
  subst hl
  have HH := Lib.hid h
  have HK := Lib.hid k
  have HE := Lib.hid he
  have hnmx : n ≤ 9223372036854775807 := h.1.2.1
  clear h k he
  go_enter Tryz.func37, Tryz.ntmps37
  go_wp2
  go_loopw [13] (fun iv wr => ∃ (i : Nat), i ≤ n ∧ iv = .int .i64 i ∧ Below w.heap.size w wr) (fun iv _ => n - (intOf iv).toNat)
  case atStart => exact ⟨0, Nat.zero_le _, rfl, Below.refl _ _⟩
  case round =>
    obtain ⟨i, hi, rfl, hb⟩ := hrel
    by_cases hlt : i < n
    · have hii : (i : Int) < (n : Int) := by omega
      have hi0 : (0 : Int) ≤ (i : Int) := by omega
      obtain ⟨v, hv⟩ := HH.out.1.get hlt
      obtain ⟨u, hu⟩ := HK.out.1.get hlt
      obtain ⟨x, rfl, _⟩ := HH.out.1.2.2.2 i v hv
      obtain ⟨y, rfl, _⟩ := HK.out.1.2.2.2 i u hu
      have hvu : v.t = u.t := by
        have h1 : (Ch.tsOf vs)[i]? = some v.t := by unfold Ch.tsOf; rw [List.getElem?_map, hv]; rfl
        have h2 : (Ch.tsOf us)[i]? = some u.t := by unfold Ch.tsOf; rw [List.getElem?_map, hu]; rfl
        rw [HE.out, h2] at h1
        exact (Option.some.inj h1).symm
      have HV := Lib.hid (And.intro (HH.out.2 v (List.mem_of_getElem? hv)) (HK.out.2 u (List.mem_of_getElem? hu)))
      have HEQ := Lib.hid (show decide (v.t = u.t) = true from decide_eq_true hvu)
      go_upto_region 6 with fail
      obtain ⟨ws, hws⟩ : ∃ ww, ww = wr.drew := ⟨_, rfl⟩
      have hBs : Below w.heap.size w ws := by rw [hws]; exact hb.drew
      have lV := fun (wq : World) (hSw : Held ws wq) => txs_load' ((HH.out.below hBs).below hSw.below) hv
      have lU := fun (wq : World) (hSw : Held ws wq) => txs_load' ((HK.out.below hBs).below hSw.below) hu
      clear hb hvu
      refine wp_region_held_drew (S := Held ws) (by kernel_rfl) (by rw [hws]; exact Held.refl _) (fun hHeld => ?_)
      rw [← hws] at hHeld ⊢
      clear hws
      refine take_at (v := ?_) 0 16 rfl rfl (by kernel_rfl) (by kernel_rfl) (by kernel_rfl) (fun _ _ _ h => h) hHeld (Or.inl ⟨by rfl, ?_⟩) rfl ?_
      rotate_left
      · intro wq hSw
        go_simp
        try with_reducible rfl
      simp only [List.set_cons_zero, List.set_cons_succ]
      refine take_at (v := ?_) 1 17 rfl rfl (by kernel_rfl) (by kernel_rfl) (by kernel_rfl) (fun _ _ _ h => h) hHeld (Or.inl ⟨by rfl, ?_⟩) rfl ?_
      rotate_left
      · intro wq hSw
        go_simp
        try with_reducible rfl
      simp only [List.set_cons_zero, List.set_cons_succ]
      refine take_at (v := ?_) 2 18 rfl rfl (by kernel_rfl) (by kernel_rfl) (by kernel_rfl) (fun _ _ _ h => h) hHeld (Or.inl ⟨by rfl, ?_⟩) rfl ?_
      rotate_left
      · intro wq hSw
        go_simp
        try with_reducible rfl
      simp only [List.set_cons_zero, List.set_cons_succ]
      refine take_at 3 19 rfl rfl (by kernel_rfl) (by kernel_rfl) (by kernel_rfl) (fun _ _ _ h => h) hHeld (yieldsIf_load_agg (by rfl) 26 (.tmp 18) rfl _ _ (by rfl) (fun wq hSw => lV wq hSw)) rfl ?_
      simp only [List.set_cons_zero, List.set_cons_succ]
      refine take_at (v := ?_) 4 20 rfl rfl (by kernel_rfl) (by kernel_rfl) (by kernel_rfl) (fun _ _ _ h => h) hHeld (Or.inl ⟨by rfl, ?_⟩) rfl ?_
      rotate_left
      · intro wq hSw
        go_simp
        try with_reducible rfl
      simp only [List.set_cons_zero, List.set_cons_succ]
      refine take_at (v := ?_) 5 21 rfl rfl (by kernel_rfl) (by kernel_rfl) (by kernel_rfl) (fun _ _ _ h => h) hHeld (Or.inl ⟨by rfl, ?_⟩) rfl ?_
      rotate_left
      · intro wq hSw
        go_simp
        try with_reducible rfl
      simp only [List.set_cons_zero, List.set_cons_succ]
      refine take_at (v := ?_) 6 22 rfl rfl (by kernel_rfl) (by kernel_rfl) (by kernel_rfl) (fun _ _ _ h => h) hHeld (Or.inl ⟨by rfl, ?_⟩) rfl ?_
      rotate_left
      · intro wq hSw
        go_simp
        try with_reducible rfl
      simp only [List.set_cons_zero, List.set_cons_succ]
      refine take_at 7 23 rfl rfl (by kernel_rfl) (by kernel_rfl) (by kernel_rfl) (fun _ _ _ h => h) hHeld (yieldsIf_load_agg (by rfl) 26 (.tmp 22) rfl _ _ (by rfl) (fun wq hSw => lU wq hSw)) rfl ?_
      simp only [List.set_cons_zero, List.set_cons_succ]
      refine wpAnyH_ready (rs := [8]) (by kernel_rfl) (by simp) ?_
      refine AllReadyH.cons rfl (fun K hK => ?_) AllReadyH.nil
      go_simp
      go_at_call 88
      refine (txeq_any v.a v.n v.q v.b v.m v.r v.t u.a u.n u.q u.b u.m u.r u.t ws (HV.out.1.below hBs) (HV.out.2.below hBs)).mono ?_
      rw [HEQ.out]
      rintro e w9 ⟨rfl, hb9⟩
      refine hK.out _ _ (Held.of hb9) (fun _ => ?_)
      clear hK K
      try simp only [Act.put, List.setIfInBounds_toArray, List.set_cons_zero, List.set_cons_succ]
      replace hHeld := Held.of hb9
      refine take_at (v := ?_) 9 25 rfl rfl (by kernel_rfl) (by kernel_rfl) (by kernel_rfl) (fun _ _ _ h => h) hHeld (Or.inl ⟨by rfl, ?_⟩) rfl ?_
      rotate_left
      · intro wq hSw
        go_simp
        try with_reducible rfl
      simp only [List.set_cons_zero, List.set_cons_succ]
      refine wpAnyH_done (by kernel_rfl) ?_ _
      clear lV lU hHeld
      go_wp2
      go_roundw
      case rel => exact ⟨i + 1, by omega, by go_num, hBs.trans (hb9.mono hBs.size)⟩
      case measure => (simp [intOf]; try omega)
    · have hii : ¬ (i : Int) < (n : Int) := by omega
      go_wp2
      go_ret
      exact ⟨rfl, hb⟩
set_option maxRecDepth 100000 in
set_option maxHeartbeats 8000000 in
theorem block_same (b c : Ch.B) (w : World) (hb : b.At w) (hc : c.At w) (hp : b.prev = c.prev) (hh : b.h = c.h) (ht : Ch.tsOf b.vs = Ch.tsOf c.vs) :
    Calls Tryz.prog 34 #[.agg (bkCells b).toArray, .agg (bkCells c).toArray] w fun e w' => e = .returned (.bool true) ∧ Below w.heap.size w w' := by
  obtain ⟨W1, hW1⟩ : ∃ ww, ww = (w.alloc (.cells (bkCells b).toArray 79)).alloc (.cells (bkCells c).toArray 79) := ⟨_, rfl⟩
  have hB1 : Below w.heap.size w W1 := by rw [hW1]; exact ((Below.refl _ _).alloc (Nat.le_refl _) _).alloc (by simp) _
  obtain ⟨g1, hg1⟩ : ∃ x, x = w.heap.size := ⟨_, rfl⟩
  obtain ⟨g2, hg2⟩ : ∃ x, x = g1 + 1 := ⟨_, rfl⟩
  have hX : Has W1 g1 79 (bkCells b).toArray := by rw [hW1, hg1]; exact (Has.fresh _ _ _).past _
  have hY : Has W1 g2 79 (bkCells c).toArray := by rw [hW1, hg2, hg1]; exact Has.fresh_at _ _ _ (by simp)
  have lP := bk_load hX hb.p
  have lQ := bk_load hY hc.p
  have c1 := bk_h hX hb.p
  have c2 := bk_h hY hc.p
  have c3 := bk_ts hX hb.p
  have c4 := bk_ts hY hc.p
  rw [← hp] at lQ
  rw [← hh] at c2
  have HTX := Lib.hid (txs_same b.a b.n b.q b.vs c.a c.n c.q c.vs W1 (hb.ts.below hB1) (hc.ts.below hB1) ht)
  have HEQ := Lib.hid (show ∀ w, (binOp .eql 34 (.agg (blist b.prev).toArray) (.agg (blist b.prev).toArray)).run Tryz.prog w = .ok (.bool true) w from fun w => (run_eql_hash w Tryz.underlying34 Tryz.underlying5 (by kernel_rfl) b.prev b.prev hb.p hb.p).trans (by rw [decide_eq_true rfl]))
  have HW := Lib.hid hW1
  have HG := Lib.hid (And.intro hg1 hg2)
  have HPL := Lib.hid hb.p
  clear hW1 hX hY hb hc hp hh ht hg1 hg2
  go_enter Tryz.func34, Tryz.ntmps34
  go_upto_region 1 with fail
  rw [← HW.out, ← HG.out.1, ← HG.out.2]
  go_wp2_with (first
    | (go_at_call 37; refine HTX.out.mono ?_; rintro e w2 ⟨rfl, hb2⟩)
    | (refine wpList_eql_same rfl 34 5 34 32 (.tmp 6) (.tmp 8) rfl b.prev rfl rfl (by kernel_rfl) Tryz.underlying34 Tryz.underlying5 (by kernel_rfl) HPL.out ?_)
    | (refine wpList_load_run rfl 34 (.tmp 7) rfl _ _ rfl lQ ?_)
    | (refine wpList_load_run rfl 34 (.tmp 5) rfl _ _ rfl lP ?_))
  go_ret
  exact ⟨rfl, hB1.trans (hb2.mono hB1.size)⟩
end Go.Proofs.YtdfplenniamnoaaGreatDoor

/-! law 13: alive, same (mkchp.py) -/
namespace Go.Proofs.YtdfplenniamnoaaGreatDoor
open Go Go.RowKit Go.ChangeShapes Go.WideShapes
set_option maxRecDepth 100000 in
set_option maxHeartbeats 8000000 in
theorem alive13 (w : World) (hK : KDg w) : Calls Tryz.prog 27 #[] w fun e w' => e = .returned (.bool true) ∧ Below w.heap.size w w' := by
  have HK := Lib.hid hK
  clear hK
  go_enter Tryz.func27, Tryz.ntmps27
  go_upto_region 2 with (go_at_call 30; refine (pchnew_none w).mono ?_; rintro e w2 ⟨g, sg, sb, F, rfl, hC2, hb2⟩)
  have HC2 := Lib.hid hC2
  have HNX := Lib.hid (pnext_any (hC2.lks) (Nat.zero_le _) none 0 0 [] ⟨recs_none _ _, (fun _ h => by cases h)⟩ ⟨Nat.le_refl _, fun _ => rfl⟩ (fun _ h => by cases h) (Nat.zero_le _) (HK.out.below hb2))
  have HB2 := Lib.hid hb2
  clear hC2 hb2
  go_upto_region 3 with (first
    | (refine wpList_store_mid rfl 79 (.tmp 2) (.tmp 5) rfl w3.heap.size 0 (bkCells b').toArray rfl rfl (bkRec.there w3 79 (by kernel_rfl) HBO.out.p) (bkRec.size_eq size_bk HBO.out.p) (bkRec.all_one _) ?_)
    | (go_at_call 32; refine HNX.out.mono ?_; rintro e w3 ⟨b', rfl, hOw, e1, e2, e3, e4, hb3⟩; have HBO := Lib.hid hOw; have HBX := Lib.hid (And.intro e1 (And.intro e2 (And.intro e3 e4))); have HB3 := Lib.hid hb3; clear hOw e1 e2 e3 e4 hb3))
  obtain ⟨w4, hw4⟩ : ∃ x, x = (w3.alloc (.cells zBk 79)).setCells w3.heap.size 0 (bkCells b') := ⟨_, rfl⟩
  obtain ⟨hG4, hb34⟩ := Rec.new (R := bkRec) (by kernel_rfl) HBO.out.p hw4
  rw [← hw4]
  obtain ⟨g4, hg4⟩ : ∃ x, x = w3.heap.size := ⟨_, rfl⟩
  rw [← hg4] at hG4 ⊢
  have HC3 := Lib.hid (HC2.out.below HB3.out)
  have HC4 := Lib.hid (HC3.out.below hb34)
  have HG4 := Lib.hid hg4
  have HT4 := Lib.hid (HB2.out.trans ((HB3.out.trans (hb34.mono HB3.out.size)).mono HB2.out.size))
  have hts : Ch.tsOf b'.vs = [] := HBX.out.2.2.2
  have hn0 : b'.n = 0 := HBX.out.2.2.1
  have hvs : b'.vs = [] := List.length_eq_zero_iff.1 (by have := congrArg List.length hts; rw [Ch.tsOf_len] at this; exact this)
  have HBE := Lib.hid (show b'.n = 0 ∧ b'.h = (0 : Int) + 1 ∧ Ch.tsOf b'.vs = [] from ⟨hn0, HBX.out.2.1, hts⟩)
  have HSM := Lib.hid (show ∀ x, x ∈ b'.vs → Tx.Small x.t from fun x hx => by rw [hvs] at hx; cases hx)
  have HE2 := Lib.hid (show Ch.conE [] [] b'.prev b'.h (Ch.tsOf b'.vs) = 0 by rw [hts, HBE.out.2.1, HBX.out.1]; rfl)
  have HE1 := HE2
  obtain ⟨DD, hDD⟩ : ∃ d, d = Ch.idOf b'.prev b'.h (Ch.tsOf b'.vs) := ⟨_, rfl⟩
  have HDD := Lib.hid hDD
  have HDL := Lib.hid (show DD.length = 32 by rw [hDD]; exact Ch.idOf_len _ _ _)
  have HW0 := Lib.hid (show w.heap.size ≤ w.heap.size from Nat.le_refl _)
  clear hw4 hg4 hts hn0 hvs hDD
  obtain ⟨ws, hws⟩ : ∃ ww, ww = w4.drew := ⟨_, rfl⟩
  have hbs : Below w4.heap.size w4 ws := by rw [hws]; exact (Below.refl _ _).drew
  have hGs := hG4.under hbs hG4.lt
  have hCs := HC4.out.below hbs
  have HBs := Lib.hid ((HBO.out.below hb34).below hbs)
  have hKs := (HK.out.below (HT4.out.trans (hbs.mono HT4.out.size)))
  have HFG := Lib.hid (show ¬ F g4 from fun e => by have := (HC3.out.Fl g4 e).2; have := HG4.out; omega)
  have lB := fun (wq : World) (hSw : HeldM F ws wq) => (hGs.moved hSw.out HFG.out).load_agg (P := Tryz.prog) (t := 79) Tryz.underlying79 rfl (bkRec.size_eq size_bk HBO.out.p)
  refine wp_region_held_drew (S := HeldM F ws) (by kernel_rfl) (by rw [hws]; exact HeldM.refl _ _) (fun hHeld => ?_)
  rw [← hws] at hHeld ⊢
  clear hws
  refine take_at (v := ?_) 0 6 rfl rfl (by kernel_rfl) (by kernel_rfl) (by kernel_rfl) (fun _ _ _ h => h) hHeld (Or.inl ⟨by rfl, ?_⟩) rfl ?_
  rotate_left
  · intro wq hSw
    go_simp
    try with_reducible rfl
  simp only [List.set_cons_zero, List.set_cons_succ]
  refine take_at 1 7 rfl rfl (by kernel_rfl) (by kernel_rfl) (by kernel_rfl) (fun _ _ _ h => h) hHeld (yieldsIf_load_agg (by rfl) 79 (.tmp 2) rfl _ _ (by rfl) (fun wq hSw => lB wq hSw)) rfl ?_
  simp only [List.set_cons_zero, List.set_cons_succ]
  refine wpAnyH_ready (rs := [2]) (by kernel_rfl) (by simp) ?_
  refine AllReadyH.cons rfl (fun K hK => ?_) AllReadyH.nil
  go_simp
  go_at_call 35
  refine (pconn_any hCs (by decide) b' HBs.out.at HSM.out hKs (by have := HT4.out.size; have := hbs.size; omega)).mono ?_
  rintro e k1 ⟨F1, G1, la1, lq1, M1, X1, rfl, hC1, hm1, hF1, hG1, hok1, _⟩
  obtain ⟨l, rfl, hl1, hl2, hl3, _, _⟩ := hok1 HE2.out
  rw [HE2.out, show errn 0 = Value.nilIface from rfl]
  refine hK.out _ _ (HeldM.of hm1) (fun _ => ?_)
  clear hK K
  try simp only [Act.put, List.setIfInBounds_toArray, List.set_cons_zero, List.set_cons_succ]
  replace hHeld := HeldM.of hm1
  have hK1 : KDg k1 := HK.out.below ((HT4.out.trans (hbs.mono HT4.out.size)).trans (hm1.below (fun j e => by have := (HC3.out.Fl j e).1; have := HW0.out; omega) (by have := HT4.out.size; have := hbs.size; omega)))
  have hB1 := HBs.out.in.moved hm1 (fun j hj e => by have := (HC2.out.Fl j e).2; have h9 := hj.1; omega)
  refine take_at (v := ?_) 3 9 rfl rfl (by kernel_rfl) (by kernel_rfl) (by kernel_rfl) (fun _ _ _ h => h) hHeld (Or.inl ⟨by rfl, ?_⟩) rfl ?_
  rotate_left
  · intro wq hSw
    go_simp
    try with_reducible rfl
  simp only [List.set_cons_zero, List.set_cons_succ]
  refine take_at (v := ?_) 4 10 rfl rfl (by kernel_rfl) (by kernel_rfl) (by kernel_rfl) (fun _ _ _ h => h) hHeld (Or.inl ⟨by rfl, ?_⟩) rfl ?_
  rotate_left
  · intro wq hSw
    go_simp
    try with_reducible rfl
  simp only [List.set_cons_zero, List.set_cons_succ]
  refine take_at (v := ?_) 5 11 rfl rfl (by kernel_rfl) (by kernel_rfl) (by kernel_rfl) (fun _ _ _ h => h) hHeld (Or.inl ⟨by rfl, ?_⟩) rfl ?_
  rotate_left
  · intro wq hSw
    go_simp
    try with_reducible rfl
  simp only [List.set_cons_zero, List.set_cons_succ]
  refine take_at 6 12 rfl rfl (by kernel_rfl) (by kernel_rfl) (by kernel_rfl) (fun _ _ _ h => h) hHeld (yieldsIf_load_agg (by rfl) 79 (.tmp 2) rfl _ _ (by rfl) (fun wq hSw => lB wq hSw)) rfl ?_
  simp only [List.set_cons_zero, List.set_cons_succ]
  refine wpAnyH_ready (rs := [7]) (by kernel_rfl) (by simp) ?_
  refine AllReadyH.cons rfl (fun K hK => ?_) AllReadyH.nil
  go_simp
  go_at_call 35
  refine (pconn_any hC1 (by simp) b' hB1.at HSM.out hK1 (by have := HT4.out.size; have := hbs.size; have := hm1.size; omega)).mono ?_
  have hz5 : Ch.conE M1 ([] ++ [l]) b'.prev b'.h (Ch.tsOf b'.vs) = 5 := by
    rw [HBE.out.2.1, HBE.out.2.2]
    unfold Ch.conE
    rw [if_pos (by rfl), if_neg (fun e => by have := e.2; simp at this)]
  rintro e k2 ⟨F2, G2, la2, lq2, M2, X2, rfl, hC2, hm2, hF2, hG2, _, hno2⟩
  obtain ⟨rfl, _⟩ := hno2 (by rw [hz5]; decide)
  rw [hz5, show errn 5 = erro 5 from rfl]
  have hm02 : Moved F ws k2 := hm1.trans hm2 hF1
  refine hK.out _ _ (HeldM.of hm02) (fun _ => ?_)
  clear hK K
  try simp only [Act.put, List.setIfInBounds_toArray, List.set_cons_zero, List.set_cons_succ]
  replace hHeld := HeldM.of hm02
  refine wpAnyH_ready (rs := [8]) (by kernel_rfl) (by simp) ?_
  refine AllReadyH.cons rfl (fun K hK => ?_) AllReadyH.nil
  go_simp
  go_at_call 23
  refine (is_erro 5 (by decide) k2).mono ?_
  rintro e k2' ⟨rfl, rfl⟩
  refine hK.out _ _ (HeldM.of hm02) (fun _ => ?_)
  clear hK K
  try simp only [Act.put, List.setIfInBounds_toArray, List.set_cons_zero, List.set_cons_succ]
  refine take_at (v := ?_) 9 15 rfl rfl (by kernel_rfl) (by kernel_rfl) (by kernel_rfl) (fun _ _ _ h => h) hHeld (Or.inl ⟨by rfl, ?_⟩) rfl ?_
  rotate_left
  · intro wq hSw
    go_simp
    try with_reducible rfl
  simp only [List.set_cons_zero, List.set_cons_succ]
  refine take_at (v := ?_) 10 16 rfl rfl (by kernel_rfl) (by kernel_rfl) (by kernel_rfl) (fun _ _ _ h => h) hHeld (Or.inl ⟨by rfl, ?_⟩) rfl ?_
  rotate_left
  · intro wq hSw
    go_simp
    try with_reducible rfl
  simp only [List.set_cons_zero, List.set_cons_succ]
  refine take_at (v := ?_) 11 17 rfl rfl (by kernel_rfl) (by kernel_rfl) (by kernel_rfl) (fun _ _ _ h => h) hHeld (Or.inl ⟨by rfl, ?_⟩) rfl ?_
  rotate_left
  · intro wq hSw
    go_simp
    try with_reducible rfl
  simp only [List.set_cons_zero, List.set_cons_succ]
  refine wpAnyH_ready (rs := [12]) (by kernel_rfl) (by simp) ?_
  refine AllReadyH.cons rfl (fun K hK => ?_) AllReadyH.nil
  go_simp
  go_at_call 45
  refine (pheight_any hC2.lks (by simp)).mono ?_
  rintro e k2 ⟨rfl, rfl⟩
  rw [show (([] ++ [l] : List Ch.L).length : Int) = 1 from rfl]
  refine hK.out _ _ (HeldM.of hm02) (fun _ => ?_)
  clear hK K
  try simp only [Act.put, List.setIfInBounds_toArray, List.set_cons_zero, List.set_cons_succ]
  replace hHeld := HeldM.of hm02
  refine take_at (v := ?_) 13 19 rfl rfl (by kernel_rfl) (by kernel_rfl) (by kernel_rfl) (fun _ _ _ h => h) hHeld (Or.inl ⟨by rfl, ?_⟩) rfl ?_
  rotate_left
  · intro wq hSw
    go_simp
    try with_reducible rfl
  simp only [List.set_cons_zero, List.set_cons_succ]
  refine take_at (v := ?_) 14 20 rfl rfl (by kernel_rfl) (by kernel_rfl) (by kernel_rfl) (fun _ _ _ h => h) hHeld (Or.inl ⟨by rfl, ?_⟩) rfl ?_
  rotate_left
  · intro wq hSw
    go_simp
    try with_reducible rfl
  simp only [List.set_cons_zero, List.set_cons_succ]
  refine take_at (v := ?_) 15 21 rfl rfl (by kernel_rfl) (by kernel_rfl) (by kernel_rfl) (fun _ _ _ h => h) hHeld (Or.inl ⟨by rfl, ?_⟩) rfl ?_
  rotate_left
  · intro wq hSw
    go_simp
    try with_reducible rfl
  simp only [List.set_cons_zero, List.set_cons_succ]
  refine take_at (v := ?_) 16 22 rfl rfl (by kernel_rfl) (by kernel_rfl) (by kernel_rfl) (fun _ _ _ h => h) hHeld (Or.inl ⟨by rfl, ?_⟩) rfl ?_
  rotate_left
  · intro wq hSw
    go_simp
    try with_reducible rfl
  simp only [List.set_cons_zero, List.set_cons_succ]
  refine take_at 18 24 rfl rfl (by kernel_rfl) (by kernel_rfl) (by kernel_rfl) (fun _ _ _ h => h) hHeld (yieldsIf_load_agg (by rfl) 79 (.tmp 2) rfl _ _ (by rfl) (fun wq hSw => lB wq hSw)) rfl ?_
  simp only [List.set_cons_zero, List.set_cons_succ]
  have hKk2 : KDg k2 := HK.out.below ((HT4.out.trans (hbs.mono HT4.out.size)).trans (hm02.below (fun j e => by have := (HC3.out.Fl j e).1; have := HW0.out; omega) (by have := HT4.out.size; have := hbs.size; omega)))
  have HTI := Lib.hid (ptip_any hC2.lks (by simp) hKk2)
  rw [show Ch.tipOf ([] ++ [l]) = DD by rw [HDD.out]; show Ch.idOf l.b.prev l.b.h (Ch.tsOf l.b.vs) = _; rw [hl1, hl2, hl3]] at HTI
  refine wpAnyH_ready (rs := [17]) (by kernel_rfl) (by simp) ?_
  refine AllReadyH.cons rfl (fun K hK => ?_) AllReadyH.nil
  go_simp
  go_at_call 46
  refine HTI.out.mono ?_
  rintro e k3 ⟨rfl, hb3⟩
  have hm03 : Moved F ws k3 := hm02.then hb3
  refine hK.out _ _ (HeldM.of hm03) (fun _ => ?_)
  clear hK K
  try simp only [Act.put, List.setIfInBounds_toArray, List.set_cons_zero, List.set_cons_succ]
  replace hHeld := HeldM.of hm03
  have hB3 := (HBs.out.in.moved hm03 (fun j hj e => by have := (HC2.out.Fl j e).2; have h9 := hj.1; omega))
  have HID := Lib.hid (pbid_any b' k3 hB3.at HSM.out (by rw [HBE.out.1]; decide) (hKk2.below hb3))
  rw [← HDD.out] at HID
  refine wpAnyH_ready (rs := [19]) (by kernel_rfl) (by simp) ?_
  refine AllReadyH.cons rfl (fun K hK => ?_) AllReadyH.nil
  go_simp
  go_at_call 40
  refine HID.out.mono ?_
  rintro e k4 ⟨rfl, hb4⟩
  have hm04 : Moved F ws k4 := hm03.then hb4
  refine hK.out _ _ (HeldM.of hm04) (fun _ => ?_)
  clear hK K
  try simp only [Act.put, List.setIfInBounds_toArray, List.set_cons_zero, List.set_cons_succ]
  replace hHeld := HeldM.of hm04
  refine take_at 20 26 rfl rfl (by kernel_rfl) (by kernel_rfl) (by kernel_rfl) (fun _ _ _ h => h) hHeld (yieldsIf_eql_same (by rfl) 34 5 34 32 (.tmp 23) (.tmp 25) rfl DD (by rfl) (by rfl) (by kernel_rfl) Tryz.underlying34 Tryz.underlying5 (by kernel_rfl) HDL.out) rfl ?_
  simp only [List.set_cons_zero, List.set_cons_succ]
  refine take_at (v := ?_) 21 27 rfl rfl (by kernel_rfl) (by kernel_rfl) (by kernel_rfl) (fun _ _ _ h => h) hHeld (Or.inl ⟨by rfl, ?_⟩) rfl ?_
  rotate_left
  · intro wq hSw
    go_simp
    try with_reducible rfl
  simp only [List.set_cons_zero, List.set_cons_succ]
  refine take_at (v := ?_) 22 0 rfl rfl (by kernel_rfl) (by kernel_rfl) (by kernel_rfl) (fun _ _ _ h => h) hHeld (Or.inl ⟨by rfl, ?_⟩) rfl ?_
  rotate_left
  · intro wq hSw
    go_simp
    try with_reducible rfl
  simp only [List.set_cons_zero]
  refine wpAnyH_done (by kernel_rfl) ?_ _
  go_wp2
  go_ret
  exact ⟨rfl, (HT4.out.trans (hbs.mono HT4.out.size)).trans (hm04.below (fun j e => by have := (HC3.out.Fl j e).1; omega) (by have := HT4.out.size; have := hbs.size; omega))⟩
end Go.Proofs.YtdfplenniamnoaaGreatDoor
