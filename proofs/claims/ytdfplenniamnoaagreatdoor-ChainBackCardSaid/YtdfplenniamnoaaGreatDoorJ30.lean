/- package chain: Backward, undo (mkchg.py) · package chain: a chain in memory; New, Coins, upTo, Copy (mkchh.py) · package chain: Connect, pure; its pieces (mkchi.py) · Undos in a slice of one's own; what CoinsBack's second loop keeps -/
import Derived.Test.YtdfplenniamnoaaGreatDoorJ27
import Derived.Test.YtdfplenniamnoaaGreatDoorJ29
import Derived.Test.YtdfplenniamnoaaGreatDoorJ12
import Derived.Test.YtdfplenniamnoaaGreatDoorJ11
import Derived.StillTailTactics
import Derived.WalkKit
import Derived.OwnWalkIn
import Derived.TacticsInMore
import Derived.LoopNIn
import Derived.LoopIn
import Derived.ArgAppend
import Derived.Test.YtdfplenniamnoaaGreatDoorJ16
/-! package chain: Backward, undo (mkchg.py) -/
namespace Go.Proofs.YtdfplenniamnoaaGreatDoor
open Go Go.RowKit Go.ChangeShapes Go.WideShapes
attribute [local go_sem] Oper.semAt_some
theorem calls_wide13 {P : Program} {f : FuncId} {args : Array Value} {w : World} {R : Ending → World → Prop} (h : CallsIn Fence.wide 5 P f args w R) : Calls P f args w R := callsIn_wide.1 h
/-- what is not the map's block stays -/
theorem cells_map {w w' : World} {b : Nat} {M : Cs.Mp} (hm : Moved (fun j => j = b) w w') (hM : MapAt w b M) (p : Addr) (hp : (w.cell? p).isSome = true) : w'.cell? p = w.cell? p := by
  refine World.cell?_of_block (hm.block _ (isSome_lt hp) (fun e => ?_))
  obtain ⟨es, clock, hb, _⟩ := hM
  have e2 : p.block = b := e
  unfold World.cell? at hp
  rw [e2, hb] at hp
  simp at hp
theorem KDg.map {w w' : World} {b : Nat} {M : Cs.Mp} (h : KDg w) (hm : Moved (fun j => j = b) w w') (hM : MapAt w b M) : KDg w' := ⟨h.1.keep (cells_map hm hM), h.2.keep (cells_map hm hM)⟩
theorem TxAt.keep {w w' : World} {a b : Option Addr} {n q m r : Nat} {t : Tx.T} (h : TxAt w a n q b m r t) (hk : ∀ p : Addr, (w.cell? p).isSome = true → w'.cell? p = w.cell? p) : TxAt w' a n q b m r t := ⟨h.sp.keep hk, h.co.keep hk, h.nq, h.mr, h.q0, h.r0⟩
theorem cell_kept13 {w w' : World} {p : Addr} {v : Value} (h : w.cell? p = some v) (hk : ∀ p : Addr, (w.cell? p).isSome = true → w'.cell? p = w.cell? p) : w'.cell? p = some v := (hk p (by rw [h]; rfl)).trans h
theorem wpStill_load_run {P : Program} {ops : Array Oper} {w : World} {Q : Act → Prop} {a : Act} {o : Oper} {rest : List Oper} (hwt : Region.wanted o (yielded ops a.tmps) = true) (ty : TypeId) (x : Operand) (ho : o.op = .load ty x) (p v : Value) (hx : a.eval x = p) (hr : (Instr.loadAt ty p).run P w = .ok v w)
    (h : wpStill P ops w Q rest (a.put o.dst v)) : wpStill P ops w Q (o :: rest) a :=
  wpStill_step fun K hK => by
    rw [if_pos hwt]
    unfold Oper.still execOp
    simp only [ho, hx, Sem.run_bind, Sem.run_pure, Result.andThen_ok, hr, Oper.stillUpon]
    exact ⟨trivial, hK _ h⟩
def GoodS (Bx : Nat) (a : Option Addr) (n c : Nat) (ss : List Ch.S) (W : World) : Prop := W.cell? ⟨Bx, 0, none⟩ = some (.slice a n c) ∧ ∀ (i : Nat) (s : Ch.S), ss[i]? = some s → ∃ ad, a = some ad ∧ W.cell? (ad.add i) = some (.slice s.a s.n s.q)
theorem GoodS.keep {Bx : Nat} {a : Option Addr} {n c : Nat} {ss : List Ch.S} {W W' : World} (h : GoodS Bx a n c ss W) (hk : ∀ p : Addr, (W.cell? p).isSome = true → W'.cell? p = W.cell? p) : GoodS Bx a n c ss W' :=
  ⟨cell_kept13 h.1 hk, fun i s hs => by
    obtain ⟨ad, e, hx⟩ := h.2 i s hs
    exact ⟨ad, e, cell_kept13 hx hk⟩⟩
theorem GoodS.put {Bx : Nat} {a : Option Addr} {n c : Nat} {ss : List Ch.S} {W : World} {l : Nat} {o : Obj} (o' : Obj) (ho : W.heap[l]? = some o) (hc : o.isCells = false) (h : GoodS Bx a n c ss W) : GoodS Bx a n c ss (W.putObj l o') :=
  ⟨cell_kept h.1 (grownBy_putObj' W l o') (fun r e => by cases e; exact ⟨o, ho, hc⟩), fun i s hs => by
    obtain ⟨ad, e, hx⟩ := h.2 i s hs
    exact ⟨ad, e, cell_kept hx (grownBy_putObj' W l o') (fun r e => by cases e; exact ⟨o, ho, hc⟩)⟩⟩
def ReadS (ss : List Ch.S) (k : Nat) (_ : World) (x : Nat × Ch.S) (k' : Nat) : Prop := k = k' + 1 ∧ x.1 = k' ∧ ss[k']? = some x.2
def encLs (x : Nat × Ch.S) : Array Value := #[.int .i64 (x.1 : Int), .slice x.2.a x.2.n x.2.q]
set_option maxHeartbeats 4000000 in
theorem backw_any (a : Option Addr) (n c : Nat) (w : World) : Calls Tryz.prog 134 #[.slice a n c] w fun e w' => e = .returned (.func (.func 158) #[] #[.pointer (some ⟨w.heap.size, 0, none⟩)]) ∧ w.alloc (.cells #[.slice a n c] 151) = w' := by
  go_enter Tryz.func134, Tryz.ntmps134
  go_wp2
  go_ret
  exact ⟨rfl, rfl⟩
set_option maxRecDepth 100000 in
set_option maxHeartbeats 4000000 in
theorem backw_iter (m : Nat) (hm : 1 ≤ m) (Bx : Nat) (a : Option Addr) (n c : Nat) (ss : List Ch.S) (hl : ss.length = n) (hn : n ≤ 1000000) (w : World) (hg : GoodS Bx a n c ss w) :
    Iterates Fence.wide m Tryz.prog 158 #[.pointer (some ⟨Bx, 0, none⟩)] encLs (fun W W' => GoodS Bx a n c ss W → GoodS Bx a n c ss W') n (ReadS ss) (fun k => k = 0) w := by
  intro l J Jx W hW hJ hJx hY h0
  have hgW : GoodS Bx a n c ss W := hg.keep fun p hp => hW.cell (isSome_lt hp)
  have hb := hgW.1
  have hnmx : n ≤ 9223372036854775807 := by omega
  have hnw : IntKind.i64.wrap ((n : Int) - 1) = (n : Int) - 1 := IntWalk.i64_in _ (by omega)
  refine callsIn_of_wp Tryz.func158 rfl trivial ?_ rfl
  simp only [Tryz.ntmps158, List.size_toArray, List.length_cons, List.length_nil, Nat.reduceAdd, Nat.reduceSub, Array.replicate_succ, Array.replicate_zero, List.push_toArray, List.append_toArray, List.nil_append, List.cons_append]
  gi_wp2
  gi_loopw [3] (fun i wr => ∃ k : Nat, k ≤ n ∧ i = .int .i64 ((k : Int) - 1) ∧ J k wr ∧ GoodS Bx a n c ss wr) (fun i _ => (intOf i + 1).toNat)
  case atStart => exact ⟨n, Nat.le_refl _, rfl, h0, hgW⟩
  case round =>
    obtain ⟨k, hk, rfl, hJs, hgr⟩ := hrel
    cases k with
    | zero =>
      gi_wp2
      go_end0
      exact ⟨⟨_, rfl⟩, .inl ⟨0, rfl, hJs⟩⟩
    | succ k =>
      have hs : ss[k]? = some (ss[k]'(by omega)) := List.getElem?_eq_getElem _
      obtain ⟨s, hse⟩ : ∃ s, s = ss[k]'(by omega) := ⟨_, rfl⟩
      rw [← hse] at hs
      obtain ⟨ad, rfl, hx⟩ := hgr.2 k s hs
      have hbr := hgr.1
      have hki : (k : Int) < (n : Int) := by omega
      obtain ⟨fn, tmps, assign, body, hy, hR⟩ := hY (k + 1) (k, s) k wr hJs ⟨rfl, rfl, hs⟩
      dsimp only [encLs] at hy
      have e1 : ((k + 1 : Nat) : Int) - 1 = (k : Int) := by omega
      have hkw : IntKind.i64.wrap ((k : Int) - 1) = (k : Int) - 1 := IntWalk.i64_in _ (by omega)
      rw [e1]
      have HR := Lib.hid hR
      clear hR hse hs
      gi_wp2
      refine HR.out.mono ?_
      rintro e W3 (⟨rfl, hJ3, hk3⟩ | ⟨rfl, hJx3⟩)
      · gi_wp2
        go_roundw
        case rel => exact ⟨k, by omega, by go_num, hJ3, hk3 hgr⟩
        case measure => (simp [intOf]; try omega)
      · gi_wp2
        refine bodyPost_ret (results_none rfl _ _ _) rfl ?_
        exact ⟨⟨_, rfl⟩, .inr ⟨_, hJx3⟩⟩
namespace Ch
/-- transactions and what they spent, the last one first -/
def hist (ts : List Tx.T) (cs : List (List Tx.Co)) : List (Tx.T × List Tx.Co) := (ts.zip cs).reverse
theorem hist_snoc {ts : List Tx.T} {cs : List (List Tx.Co)} (h : ts.length = cs.length) (t : Tx.T) (c : List Tx.Co) : hist (ts ++ [t]) (cs ++ [c]) = (t, c) :: hist ts cs := by
  unfold hist
  rw [List.zip_append h, List.reverse_append]
  rfl
theorem hist_take {ts : List Tx.T} {cs : List (List Tx.Co)} {k : Nat} {t : Tx.T} {c : List Tx.Co} (ht : ts[k]? = some t) (hc : cs[k]? = some c) : hist (ts.take (k + 1)) (cs.take (k + 1)) = (t, c) :: hist (ts.take k) (cs.take k) := by
  obtain ⟨t2, t3⟩ := List.getElem?_eq_some_iff.1 ht
  obtain ⟨c2, c3⟩ := List.getElem?_eq_some_iff.1 hc
  rw [List.take_succ_eq_append_getElem t2, t3, List.take_succ_eq_append_getElem c2, c3]
  exact hist_snoc (by rw [List.length_take, List.length_take]; omega) t c
end Ch
set_option maxRecDepth 100000 in
set_option maxHeartbeats 8000000 in
theorem lundo_any {G : Nat → Prop} (l : Ch.L) (sg sb : Nat) (w : World) (hl : l.In G w) (hsm : ∀ x, x ∈ l.b.vs → Tx.Small x.t) (hgd : ∀ s, s ∈ l.ss → ∀ c, c ∈ s.cs → Am.Good c.v) (hn : l.sn ≤ l.b.n) (hn6 : l.sn ≤ 1000000) {M0 M : Cs.Mp} {us : List (Tx.T × List Tx.Co)}
    (hS : SetB w sg sb M) (hg : ∀ x, x ∈ M → Am.Good x.2.v) (hch : Cs.Chain M0 (Ch.hist ((Ch.tsOf l.b.vs).take l.sn) (Ch.csOf l.ss) ++ us) M) (hK : KDg w) :
    Calls Tryz.prog 85 #[.agg (lkCells l).toArray, .pointer (some ⟨sg, 0, none⟩)] w fun e w' => (∃ u, e = .returned u) ∧ ∃ M', SetB w' sg sb M' ∧ (∀ x, x ∈ M' → Am.Good x.2.v) ∧ Cs.Chain M0 us M' ∧ Moved (fun j => j = sb) w w' := by
  obtain ⟨w1, hw1⟩ : ∃ x, x = (w.alloc (.cells (lkCells l).toArray 153)).alloc (.cells #[.pointer (some ⟨sg, 0, none⟩)] 30) := ⟨_, rfl⟩
  obtain ⟨w2, hw2⟩ : ∃ x, x = w1.alloc (.cells #[.slice l.sa l.sn l.sq] 151) := ⟨_, rfl⟩
  have hb1 : Below w.heap.size w w1 := by rw [hw1]; exact ((Below.refl _ _).alloc (Nat.le_refl _) _).alloc (by simp) _
  have hb2 : Below w1.heap.size w1 w2 := by rw [hw2]; exact (Below.refl _ _).alloc (Nat.le_refl _) _
  have hB2 := hb1.trans (hb2.mono hb1.size)
  obtain ⟨gl, hgl⟩ : ∃ x, x = w.heap.size := ⟨_, rfl⟩
  obtain ⟨gp, hgp⟩ : ∃ x, x = w.heap.size + 1 := ⟨_, rfl⟩
  obtain ⟨gx, hgx⟩ : ∃ x, x = w1.heap.size := ⟨_, rfl⟩
  have hL1 : Has w1 gl 153 (lkCells l).toArray := by rw [hw1, hgl]; exact (Has.fresh _ _ _).past _
  have hP1 : Has w1 gp 30 #[.pointer (some ⟨sg, 0, none⟩)] := by rw [hw1, hgp]; exact Has.fresh_at _ _ _ (by simp)
  have hX2 : Has w2 gx 151 #[.slice l.sa l.sn l.sq] := by rw [hw2, hgx]; exact Has.fresh _ _ _
  have hL2 := hL1.under hb2 hL1.lt
  have hP2 := hP1.under hb2 hP1.lt
  have hl2 := hl.below hB2
  have hS2 := hS.below hB2
  have hK2 := hK.below hB2
  have c34 := lk_ss hL1 hl.b.p
  have HP := Lib.hid hl.b.p
  have HW1 := Lib.hid hw1
  have HW2 := Lib.hid hw2
  have HGL := Lib.hid (show gl = w.heap.size ∧ gp = gl + 1 ∧ gx = w1.heap.size from ⟨hgl, by omega, hgx⟩)
  have hGS : GoodS gx l.sa l.sn l.sq l.ss w2 := ⟨hX2.cell_at rfl, fun i s hs => by
    obtain ⟨x, hxe, _⟩ := hl2.r.2.2.2 i s hs
    have h9 := hl2.r
    rw [hxe] at h9 ⊢
    exact ⟨x, rfl, ss_at h9 hs⟩⟩
  obtain ⟨n, hnn⟩ : ∃ n, n = l.sn := ⟨_, rfl⟩
  have HLS := Lib.hid (show l.ss.length = n by rw [hnn]; exact hl.r.1)
  have HNN := Lib.hid hnn
  have HD := Lib.hid (show w2.heap.size = w2.heap.size ∧ sb < w2.heap.size ∧ sg < w2.heap.size from ⟨rfl, hS2.map.lt, hS2.has.lt⟩)
  have hmix : Tryz.prog.follows .mixedOrders = true := by kernel_rfl
  have HB2 := Lib.hid hB2
  clear hw1 hw2 hgl hgp hgx hb1 hb2 hl hS hK hL1 hP1 hX2 hB2 hnn
  apply calls_wide13
  refine callsIn_of_wp_marks Tryz.func85 rfl trivial ?_ rfl
  simp only [Tryz.ntmps85, List.size_toArray, List.length_cons, List.length_nil, Nat.reduceAdd, Nat.reduceSub, Array.replicate_succ, Array.replicate_zero, List.push_toArray, List.append_toArray, List.nil_append, List.cons_append]
  refine wpIn_wide.2 ?_
  go_upto_region 1 with fail
  rw [← HW1.out, ← HGL.out.1, ← HGL.out.2.1]
  go_wp2_with (go_at_call 134; refine (backw_any _ _ _ w1).mono ?_; rw [← HW2.out, ← HGL.out.2.2]; rintro e w3 ⟨rfl, rfl⟩)
  refine (wpIn_wide (n := 5)).1 ?_
  have hts : (Ch.csOf l.ss).take l.sn = Ch.csOf l.ss := List.take_of_length_le (by unfold Ch.csOf; rw [List.length_map, HLS.out, HNN.out]; exact Nat.le_refl _)
  refine wpIn_range_told (F := Fence.wide) rfl (by omega) (gf := 158) (lb := #[.pointer (some ⟨gx, 0, none⟩)]) rfl trivial (enters_of Tryz.func158 (by kernel_rfl) rfl)
    (backw_iter 4 (by omega) gx l.sa l.sn l.sq l.ss (HLS.out.trans HNN.out) hn6 w2 hGS) (Below.refl _ _) (fun _ => rfl)
    (fun h1 h2 h => h2 (h1 h)) ?kb ?rd
    (fun k W => Moved (fun j => j = sb) w2 W ∧ ∃ M', SetB W sg sb M' ∧ (∀ x, x ∈ M' → Am.Good x.2.v) ∧ Cs.Chain M0 (Ch.hist ((Ch.tsOf l.b.vs).take k) ((Ch.csOf l.ss).take k) ++ us) M')
    (fun _ _ _ => False)
    ?hI ?hIx ?h0
    (fun x => { tmps := #[Value.agg (lkCells l).toArray, Value.pointer (some { block := sg, off := 0 }), Value.pointer (some { block := gl, off := 0 }), Value.pointer (some { block := gp, off := 0 }), .int .i64 (x.1 : Int), .slice x.2.a x.2.n x.2.q,
          Value.pointer (some { block := gl, off := 34 }), Value.slice l.sa l.sn l.sq, Value.func (Fn.func 158) #[] #[Value.pointer (some { block := gx, off := 0 })], .int .i64 (x.1 : Int), .slice x.2.a x.2.n x.2.q, undef, undef, undef, undef, undef, undef, undef, undef, undef, undef], defers := [] })
    ?assign ?body ?done ?stop
  case assign =>
    intro lp x W K hK
    dsimp only [encLs]
    gi_wp2
    exact hK
  case kb => exact fun W l o o' _ ho hc hg => hg.put o' ho hc
  case rd => exact fun x s' s W W' row h _ _ => h
  case hI =>
    rintro k W W' row ⟨hm, M', h1, h2, h3⟩ hgr hr
    have hmg : Moved (fun j => w2.heap.size ≤ j) W W' := Moved.of_grown hgr (fun r e => (hr r e).1)
    exact ⟨hm.trans hmg (fun j e => .inr e), M', h1.moved hmg (fun e => by have := HD.out; omega) (fun e => by have := HD.out; omega), h2, h3⟩
  case hIx => exact fun _ _ _ _ _ h _ _ => h
  case h0 => exact ⟨Moved.refl _ _, M, hS2, hg, by rw [hts]; exact hch⟩
  case stop => exact fun _ _ _ _ _ h => h.elim
  case done =>
    rintro D k W hD rfl ⟨hm, M', h1, h2, h3⟩ hK1
    have hmg : Moved (fun j => w2.heap.size ≤ j) W (W.putObj D (.deferred none)) := Moved.of_grown (grownBy_putObj' W D _) (fun r e => by cases e; exact hD)
    exact leaves_none rfl (.inr rfl) hK1 (fun v => ⟨⟨v, rfl⟩, M', h1.moved hmg (fun e => by have := HD.out; omega) (fun e => by have := HD.out; omega), h2, h3, (Moved.of_below (F := fun j => j = sb) HB2.out).trans (hm.trans hmg (fun j e => .inr e)) (fun j e => .inl e)⟩)
  case body =>
    rintro lp k ⟨i, s⟩ k' W ⟨hm, M1, hS1, hg1, hch1⟩ ⟨rfl, rfl, hs⟩ hsz
    have hk := cells_map hm hS2.map
    have c33 := cell_kept13 (lk_ts hL2 HP.out) hk
    have cP : W.cell? ⟨gp, 0, none⟩ = some (.pointer (some ⟨sg, 0, none⟩)) := cell_kept13 (hP2.cell_at rfl) hk
    dsimp only at hs
    have hil : i < l.ss.length := (List.getElem?_eq_some_iff.1 hs).1
    have hib : i < l.b.n := by have := HLS.out; have := HNN.out; omega
    obtain ⟨⟨ta, tn, tq, tb, tm, tr, t⟩, ht⟩ := hl2.b.r.get hib
    obtain ⟨x, hxe, hx, hat⟩ := Txs.load (w := W.drew) ⟨(hl2.b.r.keep hk).draw, fun x hx => ((hl2.b.xs x hx).at_.keep hk).draw⟩ ht
    have hbn := hl2.b.r.2.1
    have hbi : (i : Int) < (l.b.n : Int) := by omega
    have hi0 : (0 : Int) ≤ (i : Int) := by omega
    rw [hxe] at c33
    have hti : (Ch.tsOf l.b.vs)[i]? = some t := by unfold Ch.tsOf; rw [List.getElem?_map, ht]; rfl
    have hci : (Ch.csOf l.ss)[i]? = some s.cs := by unfold Ch.csOf; rw [List.getElem?_map, hs]; rfl
    rw [Ch.hist_take hti hci] at hch1
    have hmay := Cs.chain_may hch1
    have hss := (hl2.xs s (List.mem_of_getElem? hs))
    have hbk := pback_any (w := W.drew) (hS1.below ((Below.refl _ _).drew)) ta tn tq tb tm tr t s.a s.n s.q s.cs hat (hsm _ (List.mem_of_getElem? ht)) ((hss.r.keep hk).draw) (KDg.below (hK2.map hm hS2.map) ((Below.refl _ _).drew))
    rw [hmay, if_pos rfl, show errn 0 = Value.nilIface from rfl] at hbk
    have HBK := Lib.hid hbk
    have hbu := fun (w : World) => run_build (P := Tryz.prog) w 48 #[(0, .agg #[.slice ta tn tq, .slice tb tm tr, .bool t.firm]), (1, .slice s.a s.n s.q)] #[.slice ta tn tq, .slice tb tm tr, .bool t.firm, .slice s.a s.n s.q] (by kernel_rfl)
    refine wpIn_block ?_
    refine wpIn_round_still_tail 9 hmix (by kernel_rfl) (by simp) (fun ⟨_, _, h⟩ => (h : False)) ?_
    simp only [List.take_succ_cons, List.take_zero, List.drop_succ_cons, List.drop_zero]
    repeat still_step
    refine wpStill_load_run (by rfl) 26 (.tmp 16) rfl _ _ rfl hx ?_
    repeat still_step
    refine wpStill_nil ?_
    have HM := Lib.hid hm
    have HK := Lib.hid hk
    have HS1 := Lib.hid hS1
    have HC1 := Lib.hid hch1
    clear hm hk hS1 hch1 c33 cP hx hat hbk hbu hmay
    go_wp2_with (go_at_call 24; refine HBK.out.mono ?_; rintro e w5 ⟨rfl, hS5, hm5⟩)
    have hmW : Moved (fun j => j = sb) W w5 := (Moved.of_below ((Below.refl _ _).drew)).trans hm5 (fun j e => .inl e)
    have hKs := (SetAt.fits ⟨sg, sb, rfl, HS1.out, rfl⟩ : Cs.Keys M1 ∧ _).1
    refine ⟨⟨hmW.size, fun k o hk ho hc => (hmW.block k (Array.getElem?_eq_some_iff.1 ho).1 (fun e => by have := HD.out; omega)).trans ho⟩, fun hgs => hgs.keep (cells_map hmW HS1.out.map), HM.out.trans hmW (fun j e => .inl e), _, hS5, ?_, ?_⟩
    · exact Cs.backM_good hg1 (hgd s (List.mem_of_getElem? hs))
    · exact Cs.chain_back HC1.out (Cs.backM_is hKs _ _ _)
end Go.Proofs.YtdfplenniamnoaaGreatDoor

/-! package chain: a chain in memory; New, Coins, upTo, Copy (mkchh.py) -/
namespace Go.Proofs.YtdfplenniamnoaaGreatDoor
open Go Go.RowKit Go.ChangeShapes Go.WideShapes
namespace Ch
/-- all that was done, the last one first -/
def allHist (X : List L) : List (Tx.T × List Tx.Co) := (X.flatMap (fun l => (tsOf l.b.vs).zip (csOf l.ss))).reverse
theorem allHist_snoc (X : List L) (l : L) : allHist (X ++ [l]) = hist (tsOf l.b.vs) (csOf l.ss) ++ allHist X := by
  unfold allHist hist
  rw [List.flatMap_append, List.reverse_append]
  simp
theorem chain_det {M0 : Cs.Mp} : ∀ {us : List (Tx.T × List Tx.Co)} {M N : Cs.Mp}, Cs.Chain M0 us M → Cs.Chain M0 us N → ∀ q, Cs.look M q = Cs.look N q
  | [], _, _, h, k => fun q => (h q).trans (k q).symm
  | x :: us, M, N, ⟨M1, h1, _, h3, _⟩, ⟨N1, k1, _, k3, _⟩ => fun q => by
    have ih := chain_det h1 k1
    rw [h3 q, k3 q, ih q]
end Ch
/-- where a chain's links lie, whether they may be appended to -/
inductive LkOwn (D : Nat) (w : World) (F G : Nat → Prop) (la : Option Addr) (lq : Nat) (X : List Ch.L) : Prop where
  | own (h : OwnR lkRec 153 D w (.slice la X.length lq) X) (hF : ∀ k, (Value.slice la X.length lq).ownBlock = some k → F k) : LkOwn D w F G la lq X
  | full (y : Addr) (ha : la = some y) (hq : lq = X.length) (hG : 0 < X.length → G y.block) : LkOwn D w F G la lq X
/-- a chain at block g: its set at sg with the map at sb, its links X; F: the blocks that its calls turn, G: where the links' contents lie -/
structure ChAt (D : Nat) (w : World) (g sg sb : Nat) (F G : Nat → Prop) (la : Option Addr) (lq : Nat) (M0 M : Cs.Mp) (X : List Ch.L) : Prop where
  has : Has w g 149 #[.pointer (some ⟨sg, 0, none⟩), .slice la X.length lq]
  s : SetB w sg sb M
  gd : ∀ x, x ∈ M → Am.Good x.2.v
  r : Recs lkRec w la X.length X
  q : X.length ≤ lq ∧ (la = none → lq = 0)
  own : LkOwn D w F G la lq X
  ins : ∀ l, l ∈ X → l.In G w ∧ l.Ok
  ch : Cs.Chain M0 (Ch.allHist X) M
  hs : ∀ (i : Nat) (l : Ch.L), X[i]? = some l → l.b.h = (i : Int) + 1
  fg : F g
  fs : F sg
  fb : F sb
  GF : ∀ j, G j → ¬ F j
  Fl : ∀ j, F j → D ≤ j ∧ j < w.heap.size
  Gl : ∀ j, G j → j < w.heap.size
section
variable {D : Nat} {w w' : World} {g sg sb : Nat} {F G H : Nat → Prop} {la : Option Addr} {lq : Nat} {M0 M : Cs.Mp} {X : List Ch.L}
theorem ChAt.row (h : ChAt D w g sg sb F G la lq M0 M X) : 0 < X.length → ∀ y, la = some y → F y.block ∨ G y.block := fun h0 y e => by
  cases h.own with
  | own _ hF => exact .inl (hF _ (by rw [e]; rfl))
  | full y' ha _ hG =>
    have e2 : y = y' := Option.some.inj (e.symm.trans ha)
    exact .inr (e2 ▸ hG h0)
/-- a chain that is left alone -/
theorem ChAt.aside (h : ChAt D w g sg sb F G la lq M0 M X) (hm : Moved H w w') (hF : ∀ j, F j → ¬ H j) (hG : ∀ j, G j → ¬ H j) : ChAt D w' g sg sb F G la lq M0 M X where
  has := h.has.moved hm (hF g h.fg)
  s := h.s.moved hm (hF sg h.fs) (hF sb h.fb)
  gd := h.gd
  r := h.r.moved hm (fun h0 y e => (h.row h0 y e).elim (hF _) (hG _))
  q := h.q
  own := by
    cases h.own with
    | own o k => exact .own (o.moved hm (fun j e => hF j (k j e))) k
    | full y ha hq hg => exact .full y ha hq hg
  ins := fun l hl => ⟨(h.ins l hl).1.moved hm hG, (h.ins l hl).2⟩
  ch := h.ch
  hs := h.hs
  fg := h.fg
  fs := h.fs
  fb := h.fb
  GF := h.GF
  Fl := fun j hj => ⟨(h.Fl j hj).1, Nat.lt_of_lt_of_le (h.Fl j hj).2 hm.size⟩
  Gl := fun j hj => Nat.lt_of_lt_of_le (h.Gl j hj) hm.size
theorem ChAt.below (h : ChAt D w g sg sb F G la lq M0 M X) (hb : Below w.heap.size w w') : ChAt D w' g sg sb F G la lq M0 M X := h.aside (H := fun _ => False) (Moved.of_below hb) (fun _ _ e => e) (fun _ _ e => e)
theorem ChAt.lks (h : ChAt D w g sg sb F G la lq M0 M X) : LksAt G w (.pointer (some ⟨g, 0, none⟩)) X := .inr ⟨g, _, la, lq, rfl, h.has, h.r, h.q.1, h.ins⟩
/-- what stands behind calls that turned the map alone -/
theorem ChAt.parts (h : ChAt D w g sg sb F G la lq M0 M X) (hm : Moved (fun j => j = sb) w w') : Has w' g 149 #[.pointer (some ⟨sg, 0, none⟩), .slice la X.length lq] ∧ Recs lkRec w' la X.length X ∧ LkOwn D w' F G la lq X ∧ ∀ l, l ∈ X → l.In G w' ∧ l.Ok := by
  refine ⟨h.has.moved hm (has_ne_map h.has h.s.map), h.r.keep (cells_map hm h.s.map), ?_, fun l hl => ⟨(h.ins l hl).1.moved hm (fun j hj e => h.GF j hj (by rw [show j = sb from e]; exact h.fb)), (h.ins l hl).2⟩⟩
  cases h.own with
  | own o k => exact .own (o.moved hm (fun j e => by
      obtain ⟨c1, h1⟩ := ownr_block o e
      exact has_ne_map h1 h.s.map)) k
  | full y ha hq hg => exact .full y ha hq hg
theorem LkOwn.below {F G : Nat → Prop} (h : LkOwn D w F G la lq X) (hb : Below w.heap.size w w') : LkOwn D w' F G la lq X := by
  cases h with
  | own o k => exact .own (o.below hb) k
  | full y ha hq hg => exact .full y ha hq hg
/-- behind calls that turned the map alone -/
theorem ChAt.again {M' : Cs.Mp} (h : ChAt D w g sg sb F G la lq M0 M X) (hm : Moved (fun j => j = sb) w w') (hs : SetB w' sg sb M') (hgd : ∀ x, x ∈ M' → Am.Good x.2.v) (hch : Cs.Chain M0 (Ch.allHist X) M') : ChAt D w' g sg sb F G la lq M0 M' X where
  has := h.has.moved hm (has_ne_map h.has h.s.map)
  s := hs
  gd := hgd
  r := h.r.keep (cells_map hm h.s.map)
  q := h.q
  own := by
    cases h.own with
    | own o k => exact .own (o.moved hm (fun j e => by
        obtain ⟨c1, h1⟩ := ownr_block o e
        exact has_ne_map h1 h.s.map)) k
    | full y ha hq hg => exact .full y ha hq hg
  ins := fun l hl => ⟨(h.ins l hl).1.moved hm (fun j hj e => h.GF j hj (by rw [show j = sb from e]; exact h.fb)), (h.ins l hl).2⟩
  ch := hch
  hs := h.hs
  fg := h.fg
  fs := h.fs
  fb := h.fb
  GF := h.GF
  Fl := fun j hj => ⟨(h.Fl j hj).1, Nat.lt_of_lt_of_le (h.Fl j hj).2 hm.size⟩
  Gl := fun j hj => Nat.lt_of_lt_of_le (h.Gl j hj) hm.size
end
/-- append(links, link): where it may be appended to, or where there is no room -/
theorem step_append_link {P : Program} {D : Nat} {w : World} {ops : Array Oper} {o : Oper} {a : Act} {K : Act → World → Prop} {Q : Exit → Act → World → Prop} {E : Prop} {F G : Nat → Prop} {la : Option Addr} {lq : Nat} {X : List Ch.L} (hwt : Region.wanted o (yielded ops a.tmps) = true) (s x : Operand) (t : TypeId)
    (ho : o.op = .call { callee := .builtin .append, args := #[s, x], argTypes := #[t, t] })
    (ht : P.underlying t = some (.slice 153)) (hinfo : (P.info? 153).map (fun i => (i.zero, i.size, i.bytes)) = some (some (.agg zLk), lkRec.k, 88))
    (hs : a.eval s = .slice la X.length lq) (hr : Recs lkRec w la X.length X) (hown : LkOwn D w F G la lq X) (ad : Addr) (l : Ch.L) (hx : a.eval x = .slice (some ad) 1 1) (hw : Recs lkRec w (some ad) 1 [l])
    (h63 : X.length ≤ 1000000) (hbase : D ≤ w.heap.size)
    (h : ∀ v' w', OwnR lkRec 153 D w' v' (X ++ [l]) → Moved (fun j => F j ∧ ∃ cs, Has w j 153 cs) w w' → (∀ k, v'.ownBlock = some k → F k ∨ w.heap.size ≤ k) → K (a.put o.dst v') w') : if Region.wanted o (yielded ops a.tmps) = true then Oper.wp P o a w K Q else E := by
  cases hown with
  | own hO hF =>
    exact step_append_recs hwt s x t ho 153 ht hinfo rfl (by decide) D _ X hs hO (some ad) 1 1 [l] hx hw (fun e => by cases e) (by omega) hbase (fun v' w' h1 h2 h3 => h v' w' h1 (Moved.of_grown h2 (fun k e => ⟨hF k e, ownr_block hO e⟩)) (fun k e => (h3 k e).elim (fun e => .inl (hF k e)) .inr))
  | full y ha hq hG =>
    subst ha
    subst hq
    rw [if_pos hwt]
    obtain ⟨i0, hi, hz0, hz1, hz2⟩ := info_parts hinfo
    have hall := hr.2.2.1
    have hall2 := hw.2.2.1
    obtain ⟨v', w', hrun, h2, h3⟩ := run_append_arg_grows (P := P) w t o.type 153 i0 (.agg zLk) lkRec.k 88 ht hi hz0 hz1 hz2 (by rfl) lkRec.pos y X.length X.length (lkRec.row X) (lkRec.row_len hall) hr.flat ad 1 1 (lkRec.row [l]) (lkRec.row_len hall2) hw.flat (by omega) (by unfold maxLen; omega) (by omega)
    unfold Oper.wp execOp
    simp only [ho, resolve, invoke, builtin, Sem.run_bind, Sem.run_pure, Result.andThen_ok, List.map_toArray, List.map_cons, List.map_nil, hs, hx, hrun]
    have hO : OwnR lkRec 153 w.heap.size w' v' (X ++ [l]) := OwnR.all hall hall2 rfl h2
    exact h v' w' (hO.low hbase) (Moved.of_grown h3 (fun k e => by cases e)) (fun k e => .inr (hO.lt k e))
set_option maxRecDepth 100000 in
set_option maxHeartbeats 8000000 in
theorem pupto_any {w : World} {g : Nat} {cv : Value} {la : Option Addr} {n lq : Nat} (h : Has w g 149 #[cv, .slice la n lq]) (hq : n ≤ lq ∧ (la = none → lq = 0)) (k : Nat) (hk : k ≤ n) (hn : n ≤ 1000000) :
    Calls Tryz.prog 90 #[.pointer (some ⟨g, 0, none⟩), .int .i64 k] w fun e w' => e = .returned (.slice la k k) ∧ w' = w := by
  have c1 := h.cell_at (i := 1) (v := .slice la n lq) rfl
  have hk0 : (0 : Int) ≤ (k : Int) := by omega
  have hkn : (k : Int) ≤ (n : Int) := by omega
  have hkq : (k : Int) ≤ (lq : Int) := by omega
  have hkq2 : k ≤ lq := by omega
  have hL0 := hq.2
  clear h
  rcases la with _ | y
  · obtain rfl := hL0 rfl
    obtain rfl : k = 0 := by omega
    obtain rfl : n = 0 := by omega
    go_enter Tryz.func90, Tryz.ntmps90
    go_wp2
    go_ret
    exact ⟨rfl, rfl⟩
  · clear hL0 hq
    go_enter Tryz.func90, Tryz.ntmps90
    go_wp2
    go_ret
    exact ⟨rfl, rfl⟩
set_option maxRecDepth 100000 in
set_option maxHeartbeats 8000000 in
theorem pcoins_any {D : Nat} {w : World} {g sg sb : Nat} {F G : Nat → Prop} {la : Option Addr} {lq : Nat} {M0 M : Cs.Mp} {X : List Ch.L} (h : ChAt D w g sg sb F G la lq M0 M X) :
    Calls Tryz.prog 44 #[.pointer (some ⟨g, 0, none⟩)] w fun e w' => e = .returned (.pointer (some ⟨w.heap.size + 1, 0, none⟩)) ∧ SetB w' (w.heap.size + 1) w.heap.size M ∧ Below w.heap.size w w' := by
  have c0 := h.has.cell_at (i := 0) (v := .pointer (some ⟨sg, 0, none⟩)) rfl
  have HC := Lib.hid (pcopyset_any h.s)
  clear h
  go_enter Tryz.func44, Tryz.ntmps44
  go_wp2_with (go_at_call 14; refine HC.out.mono ?_; rintro e w2 ⟨rfl, hS2, hb2⟩)
  go_ret
  exact ⟨rfl, hS2, hb2⟩
set_option maxRecDepth 100000 in
set_option maxHeartbeats 8000000 in
theorem pchnew_any {w : World} {sg0 sb0 : Nat} {M : Cs.Mp} (h : SetB w sg0 sb0 M) (hg : ∀ x, x ∈ M → Am.Good x.2.v) :
    Calls Tryz.prog 30 #[.pointer (some ⟨sg0, 0, none⟩)] w fun e w' => ∃ (g sg sb : Nat) (F : Nat → Prop), e = .returned (.pointer (some ⟨g, 0, none⟩)) ∧ ChAt w.heap.size w' g sg sb F (fun _ => False) none 0 M M [] ∧ Below w.heap.size w w' := by
  have HC := Lib.hid (pcopyset_any h)
  have hbu := fun (w : World) (p : Option Addr) => run_build (P := Tryz.prog) w 149 #[(0, .pointer p)] #[.pointer p, .slice none 0 0] (by kernel_rfl)
  have HG := Lib.hid hg
  clear h hg
  go_enter Tryz.func30, Tryz.ntmps30
  go_wp2_with (go_at_call 14; refine HC.out.mono ?_; rintro e w2 ⟨rfl, hS2, hb2⟩)
  obtain ⟨w3, hw3⟩ : ∃ x, x = w2.alloc (.cells #[.pointer (some ⟨w.heap.size + 1, 0, none⟩), .slice none 0 0] 149) := ⟨_, rfl⟩
  have hb3 : Below w2.heap.size w2 w3 := by rw [hw3]; exact (Below.refl _ _).alloc (Nat.le_refl _) _
  have hH3 : Has w3 w2.heap.size 149 #[.pointer (some ⟨w.heap.size + 1, 0, none⟩), .slice none 0 0] := by rw [hw3]; exact Has.fresh _ _ _
  have hsz : w3.heap.size = w2.heap.size + 1 := by rw [hw3]; simp
  have hS3 := hS2.below hb3
  try rw [← hw3]
  clear hw3 hbu
  go_ret
  have h1 := hS2.has.lt
  refine ⟨w2.heap.size, w.heap.size + 1, w.heap.size, (fun j => j = w2.heap.size ∨ j = w.heap.size + 1 ∨ j = w.heap.size), rfl, ⟨hH3, hS3, HG.out, recs_none _ _, ⟨Nat.le_refl _, fun _ => rfl⟩, .own (OwnR.nil _ _ _ _) (fun k e => by cases e), (fun _ h => by cases h), (fun q => rfl), (fun i l h => by simp at h), .inl rfl, .inr (.inl rfl), .inr (.inr rfl), (fun _ e => e.elim), fun j hj => by rcases hj with rfl | rfl | rfl <;> omega, (fun _ e => e.elim)⟩, hb2.trans (hb3.mono hb2.size)⟩
set_option maxRecDepth 100000 in
set_option maxHeartbeats 8000000 in
theorem pchnew_none (w : World) :
    Calls Tryz.prog 30 #[.pointer none] w fun e w' => ∃ (g sg sb : Nat) (F : Nat → Prop), e = .returned (.pointer (some ⟨g, 0, none⟩)) ∧ ChAt w.heap.size w' g sg sb F (fun _ => False) none 0 [] [] [] ∧ Below w.heap.size w w' := by
  have HC := Lib.hid (pnew_any w)
  have hbu := fun (w : World) (p : Option Addr) => run_build (P := Tryz.prog) w 149 #[(0, .pointer p)] #[.pointer p, .slice none 0 0] (by kernel_rfl)
  go_enter Tryz.func30, Tryz.ntmps30
  go_wp2_with (go_at_call 11; refine HC.out.mono ?_; rintro e w2 ⟨rfl, hS2, hb2⟩)
  obtain ⟨w3, hw3⟩ : ∃ x, x = w2.alloc (.cells #[.pointer (some ⟨w.heap.size + 1, 0, none⟩), .slice none 0 0] 149) := ⟨_, rfl⟩
  have hb3 : Below w2.heap.size w2 w3 := by rw [hw3]; exact (Below.refl _ _).alloc (Nat.le_refl _) _
  have hH3 : Has w3 w2.heap.size 149 #[.pointer (some ⟨w.heap.size + 1, 0, none⟩), .slice none 0 0] := by rw [hw3]; exact Has.fresh _ _ _
  have hsz : w3.heap.size = w2.heap.size + 1 := by rw [hw3]; simp
  have hS3 := hS2.below hb3
  try rw [← hw3]
  clear hw3 hbu
  go_ret
  have h1 := hS2.has.lt
  refine ⟨w2.heap.size, w.heap.size + 1, w.heap.size, (fun j => j = w2.heap.size ∨ j = w.heap.size + 1 ∨ j = w.heap.size), rfl, ⟨hH3, hS3, (fun _ h => by cases h), recs_none _ _, ⟨Nat.le_refl _, fun _ => rfl⟩, .own (OwnR.nil _ _ _ _) (fun k e => by cases e), (fun _ h => by cases h), (fun q => rfl), (fun i l h => by simp at h), .inl rfl, .inr (.inl rfl), .inr (.inr rfl), (fun _ e => e.elim), fun j hj => by rcases hj with rfl | rfl | rfl <;> omega, (fun _ e => e.elim)⟩, hb2.trans (hb3.mono hb2.size)⟩
end Go.Proofs.YtdfplenniamnoaaGreatDoor

/-! package chain: Connect, pure; its pieces (mkchi.py) -/
namespace Go.Proofs.YtdfplenniamnoaaGreatDoor
open Go Go.RowKit Go.ChangeShapes Go.WideShapes
namespace Ch
/-- the set when the first i transactions were applied -/
def doN (M : Cs.Mp) (ts : List Tx.T) : Nat → Cs.Mp
  | 0 => M
  | i + 1 => match ts[i]? with
    | some t => Cs.doM (doN M ts i) (Tx.idOf false t) t
    | none => doN M ts i
/-- what they spent -/
def spN (M : Cs.Mp) (ts : List Tx.T) : Nat → List (List Tx.Co)
  | 0 => []
  | i + 1 => match ts[i]? with
    | some t => spN M ts i ++ [Cs.spentOf (doN M ts i) t]
    | none => spN M ts i
/-- why not all can be applied -/
def runE (M : Cs.Mp) : List Tx.T → Int
  | [] => 0
  | t :: r => if Cs.doE M (Tx.idOf false t) t = 0 then runE (Cs.doM M (Tx.idOf false t) t) r else Cs.doE M (Tx.idOf false t) t
theorem doN_step {M : Cs.Mp} {ts : List Tx.T} {i : Nat} {t : Tx.T} (h : ts[i]? = some t) : doN M ts (i + 1) = Cs.doM (doN M ts i) (Tx.idOf false t) t := by
  show (match ts[i]? with | some t => Cs.doM (doN M ts i) (Tx.idOf false t) t | none => doN M ts i) = _
  rw [h]
theorem spN_step {M : Cs.Mp} {ts : List Tx.T} {i : Nat} {t : Tx.T} (h : ts[i]? = some t) : spN M ts (i + 1) = spN M ts i ++ [Cs.spentOf (doN M ts i) t] := by
  show (match ts[i]? with | some t => spN M ts i ++ [Cs.spentOf (doN M ts i) t] | none => spN M ts i) = _
  rw [h]
theorem doN_cons (M : Cs.Mp) (t : Tx.T) (r : List Tx.T) : ∀ i, doN M (t :: r) (i + 1) = doN (Cs.doM M (Tx.idOf false t) t) r i
  | 0 => rfl
  | i + 1 => by
    have ih := doN_cons M t r i
    show (match (t :: r)[i + 1]? with | some u => Cs.doM (doN M (t :: r) (i + 1)) (Tx.idOf false u) u | none => doN M (t :: r) (i + 1)) = _
    rw [ih, List.getElem?_cons_succ]
    rfl
theorem spN_len {M : Cs.Mp} {ts : List Tx.T} : ∀ {i : Nat}, i ≤ ts.length → (spN M ts i).length = i
  | 0, _ => rfl
  | i + 1, h => by
    rw [spN_step (List.getElem?_eq_getElem (show i < ts.length by omega)), List.length_append, spN_len (i := i) (by omega)]
    rfl
theorem runE_at : ∀ {ts : List Tx.T} {M : Cs.Mp} {i : Nat} {t : Tx.T}, (∀ (j : Nat) (u : Tx.T), j < i → ts[j]? = some u → Cs.doE (doN M ts j) (Tx.idOf false u) u = 0) → ts[i]? = some t → ¬ Cs.doE (doN M ts i) (Tx.idOf false t) t = 0 → runE M ts = Cs.doE (doN M ts i) (Tx.idOf false t) t
  | [], _, i, t, _, h, _ => by simp at h
  | u :: r, M, 0, t, _, h, hn => by
    obtain rfl : u = t := by simpa using h
    unfold runE
    exact if_neg hn
  | u :: r, M, i + 1, t, hj, h, hn => by
    unfold runE
    rw [if_pos (show Cs.doE M (Tx.idOf false u) u = 0 from hj 0 u (by omega) rfl)]
    rw [doN_cons] at hn ⊢
    exact runE_at (i := i) (fun j v hlt hv => by
      have := hj (j + 1) v (by omega) (by simpa using hv)
      rwa [doN_cons] at this) (by simpa using h) hn
theorem runE_all : ∀ {ts : List Tx.T} {M : Cs.Mp}, (∀ (j : Nat) (u : Tx.T), ts[j]? = some u → Cs.doE (doN M ts j) (Tx.idOf false u) u = 0) → runE M ts = 0
  | [], _, _ => rfl
  | u :: r, M, hj => by
    unfold runE
    rw [if_pos (show Cs.doE M (Tx.idOf false u) u = 0 from hj 0 u rfl)]
    exact runE_all (fun j v hv => by
      have := hj (j + 1) v (by simpa using hv)
      rwa [doN_cons] at this)
theorem runE_good : ∀ {ts : List Tx.T} {M : Cs.Mp}, runE M ts = 0 → ∀ (j : Nat) (u : Tx.T), ts[j]? = some u → Cs.doE (doN M ts j) (Tx.idOf false u) u = 0
  | [], _, _, j, u, h => by simp at h
  | t :: r, M, h0, j, u, h => by
    unfold runE at h0
    by_cases ht : Cs.doE M (Tx.idOf false t) t = 0
    · rw [if_pos ht] at h0
      cases j with
      | zero =>
        obtain rfl : t = u := by simpa using h
        exact ht
      | succ j =>
        rw [doN_cons]
        exact runE_good h0 j u (by simpa using h)
    · rw [if_neg ht] at h0
      exact absurd h0 ht
/-- what Connect answers -/
def conE (M : Cs.Mp) (X : List L) (prev : List (BitVec 8)) (h : Int) (ts : List Tx.T) : Int := if chk h ts = 0 then if prev = tipOf X ∧ h = (X.length : Int) + 1 then runE M ts else 5 else chk h ts
theorem chk_parts {h : Int} {ts : List Tx.T} (e : chk h ts = 0) : (1 ≤ h ∧ h ≤ 2147483648) ∧ ts.length ≤ 60 ∧ bad ts = 0 ∧ rep (wides ts) = false := by
  unfold chk at e
  by_cases h1 : 1 ≤ h ∧ h ≤ 2147483648
  · rw [if_pos h1] at e
    by_cases h2 : ts.length ≤ 60
    · rw [if_pos h2] at e
      by_cases h3 : bad ts = 0
      · rw [if_pos h3] at e
        cases h4 : rep (wides ts)
        · exact ⟨h1, h2, h3, rfl⟩
        · rw [h4] at e
          exact absurd e (by decide)
      · rw [if_neg h3] at e
        exact absurd e h3
    · rw [if_neg h2] at e
      exact absurd e (by decide)
  · rw [if_neg h1] at e
    exact absurd e (by decide)
theorem doN_good {M : Cs.Mp} {ts : List Tx.T} (hg : ∀ x, x ∈ M → Am.Good x.2.v) : ∀ {i : Nat}, (∀ (j : Nat) (u : Tx.T), j < i → ts[j]? = some u → Cs.doE (doN M ts j) (Tx.idOf false u) u = 0) → i ≤ ts.length → ∀ x, x ∈ doN M ts i → Am.Good x.2.v
  | 0, _, _ => hg
  | i + 1, hj, hl => by
    have ht := List.getElem?_eq_getElem (show i < ts.length by omega)
    rw [doN_step ht]
    exact Cs.doM_good (doN_good hg (fun j u h1 h2 => hj j u (by omega) h2) (by omega)) (hj i _ (by omega) ht)
theorem spent_good {M : Cs.Mp} {t : Tx.T} (hg : ∀ x, x ∈ M → Am.Good x.2.v) : ∀ c, c ∈ Cs.spentOf M t → Am.Good c.v := fun c hc => by
  unfold Cs.spentOf at hc
  obtain ⟨p, _, rfl⟩ := List.mem_map.1 hc
  cases hl : Cs.look M p with
  | none => exact ⟨by decide, by decide⟩
  | some c =>
    unfold Cs.look at hl
    obtain ⟨r, hr, rfl⟩ := Option.map_eq_some_iff.1 hl
    exact hg _ (List.mem_of_getElem? (Cs.idx_at hr))
theorem spN_all {M : Cs.Mp} {ts : List Tx.T} (P : List Tx.Co → Prop) : ∀ {i : Nat}, (∀ (j : Nat) (u : Tx.T), j < i → ts[j]? = some u → P (Cs.spentOf (doN M ts j) u)) → i ≤ ts.length → ∀ c, c ∈ spN M ts i → P c
  | 0, _, _, c, hc => by cases hc
  | i + 1, hj, hl, c, hc => by
    have ht := List.getElem?_eq_getElem (show i < ts.length by omega)
    rw [spN_step ht] at hc
    rcases List.mem_append.1 hc with hc | hc
    · exact spN_all P (fun j u h1 h2 => hj j u (by omega) h2) (by omega) c hc
    · rw [List.mem_singleton.1 hc]
      exact hj i _ (by omega) ht
theorem spN_good {M : Cs.Mp} {ts : List Tx.T} (hg : ∀ x, x ∈ M → Am.Good x.2.v) {i : Nat} (hj : ∀ (j : Nat) (u : Tx.T), j < i → ts[j]? = some u → Cs.doE (doN M ts j) (Tx.idOf false u) u = 0) (hl : i ≤ ts.length) : ∀ c, c ∈ spN M ts i → ∀ x, x ∈ c → Am.Good x.v :=
  spN_all (fun c => ∀ x, x ∈ c → Am.Good x.v) (fun j u h1 _ => spent_good (doN_good hg (fun k v h2 h3 => hj k v (by omega) h3) (by omega))) hl
theorem few_spent {M : Cs.Mp} {t : Tx.T} (hg : ∀ x, x ∈ M → Am.Good x.2.v) (ht : Tx.Small t) : Few (Cs.spentOf M t) := by
  refine ⟨by unfold Cs.spentOf; rw [List.length_map, List.length_map]; exact ht.1, fun c hc => ?_⟩
  unfold Cs.spentOf at hc
  obtain ⟨p, _, rfl⟩ := List.mem_map.1 hc
  cases hl : Cs.look M p with
  | none => exact ⟨by decide, by decide⟩
  | some c =>
    unfold Cs.look at hl
    obtain ⟨r, hr, rfl⟩ := Option.map_eq_some_iff.1 hl
    exact hg _ (List.mem_of_getElem? (Cs.idx_at hr))
end Ch
/-- coins that were spent, in memory of their own -/
structure SsOwn (D : Nat) (w : World) (v : Value) (ss : List Ch.S) : Prop where
  o : OwnR sRec 24 D w v ss
  cs : ∀ s, s ∈ ss → OwnR coRec 39 D w (.slice s.a s.n s.q) s.cs
section
variable {D : Nat} {w w' : World} {v : Value} {ss : List Ch.S}
theorem SsOwn.nil (D : Nat) (w : World) : SsOwn D w (.slice none 0 0) [] := ⟨OwnR.nil _ _ _ _, (fun _ h => by cases h)⟩
theorem SsOwn.below (h : SsOwn D w v ss) (hb : Below w.heap.size w w') : SsOwn D w' v ss := ⟨h.o.below hb, fun s hs => (h.cs s hs).below hb⟩
theorem SsOwn.moved {G : Nat → Prop} (h : SsOwn D w v ss) (hm : Moved G w w') (hG : ∀ j, G j → j < w.heap.size → j < D) : SsOwn D w' v ss :=
  ⟨h.o.moved hm (fun j hj e => by have := h.o.lt_size j hj; have := hG j e this.2; omega), fun s hs => (h.cs s hs).moved hm (fun j hj e => by have := (h.cs s hs).lt_size j hj; have := hG j e this.2; omega)⟩
theorem SsOwn.push {x : Ch.S} {v' : Value} (h : SsOwn D w v ss) (hx : OwnR coRec 39 D w (.slice x.a x.n x.q) x.cs) (hg : w.grownBy w' v.ownBlock) (ho : OwnR sRec 24 D w' v' (ss ++ [x])) : SsOwn D w' v' (ss ++ [x]) := by
  have hm : Moved (fun j => v.ownBlock = some j) w w' := Moved.of_grown hg (fun k e => e)
  have hat : ∀ y : Ch.S, OwnR coRec 39 D w (.slice y.a y.n y.q) y.cs → OwnR coRec 39 D w' (.slice y.a y.n y.q) y.cs := fun y hy => hy.moved hm (fun j hj e => by
    obtain ⟨c1, h1⟩ := ownr_block hy hj
    obtain ⟨c2, h2⟩ := ownr_block h.o e
    exact Has.ne_type h1 h2 (by decide) rfl)
  exact ⟨ho, fun y hy => (List.mem_append.1 hy).elim (fun hy => hat y (h.cs y hy)) (fun hy => by rw [List.mem_singleton.1 hy]; exact hat x hx)⟩
end
theorem lk_put {l l' : Ch.L} (hl : l.b.prev.length = 32) (hb : l'.b = l.b) : (lkCells l).toArray.setIfInBounds 34 (.slice l'.sa l'.sn l'.sq) = (lkCells l').toArray := by
  rw [List.setIfInBounds_toArray]
  congr 1
  unfold lkCells
  rw [hb, List.set_append_right _ _ (by rw [bkCells_len hl]; omega), bkCells_len hl]
  rfl
theorem Has.lk_put {w : World} {g : Nat} {T : TypeId} {l : Ch.L} (h : Has w g T (lkCells l).toArray) (hl : l.b.prev.length = 32) (l' : Ch.L) (hb : l'.b = l.b) : Has (w.setCell ⟨g, 34, none⟩ (.slice l'.sa l'.sn l'.sq)) g T (lkCells l').toArray := by
  rw [← Go.Proofs.YtdfplenniamnoaaGreatDoor.lk_put hl hb]
  exact h.put 34 _
set_option maxRecDepth 100000 in
theorem built_lk32 (d0 d1 d2 d3 d4 d5 d6 d7 d8 d9 d10 d11 d12 d13 d14 d15 d16 d17 d18 d19 d20 d21 d22 d23 d24 d25 d26 d27 d28 d29 d30 d31 : BitVec 8) (z : Int) (a : Option Addr) (n q : Nat) (vs : List Tx.V) : Tryz.prog.built 153 [(0, .agg (bkCells ⟨[d0, d1, d2, d3, d4, d5, d6, d7, d8, d9, d10, d11, d12, d13, d14, d15, d16, d17, d18, d19, d20, d21, d22, d23, d24, d25, d26, d27, d28, d29, d30, d31], z, a, n, q, vs⟩).toArray)] = some (lkCells ⟨⟨[d0, d1, d2, d3, d4, d5, d6, d7, d8, d9, d10, d11, d12, d13, d14, d15, d16, d17, d18, d19, d20, d21, d22, d23, d24, d25, d26, d27, d28, d29, d30, d31], z, a, n, q, vs⟩, none, 0, 0, []⟩).toArray := by kernel_rfl
theorem built_lk : ∀ (b : Ch.B), b.prev.length = 32 → Tryz.prog.built 153 [(0, .agg (bkCells b).toArray)] = some (lkCells ⟨b, none, 0, 0, []⟩).toArray
  | ⟨[d0, d1, d2, d3, d4, d5, d6, d7, d8, d9, d10, d11, d12, d13, d14, d15, d16, d17, d18, d19, d20, d21, d22, d23, d24, d25, d26, d27, d28, d29, d30, d31], z, a, n, q, vs⟩, _ => built_lk32 d0 d1 d2 d3 d4 d5 d6 d7 d8 d9 d10 d11 d12 d13 d14 d15 d16 d17 d18 d19 d20 d21 d22 d23 d24 d25 d26 d27 d28 d29 d30 d31 z a n q vs
theorem wpList_build_lk {ops : Array Oper} {rest : List Oper} {o : Oper} {a : Act} {w : World} {Q : Exit → Act → World → Prop} (hgd : o.guard = none) (x : Operand) (ho : o.op = .build 153 #[(0, x)]) (b : Ch.B)
    (hx : a.eval x = .agg (bkCells b).toArray) (hD : b.prev.length = 32) (h : wpList Tryz.prog ops Q rest (a.put o.dst (.agg (lkCells ⟨b, none, 0, 0, []⟩).toArray)) w) : wpList Tryz.prog ops Q (o :: rest) a w :=
  wpList_plain hgd fun K hK => by
    have hr := run_build (P := Tryz.prog) w 153 #[(0, .agg (bkCells b).toArray)] _ (built_lk b hD)
    unfold Oper.wp execOp
    simp only [ho, List.map_toArray, List.map_cons, List.map_nil, hx, Sem.run_bind, Sem.run_pure, Result.andThen_ok, hr]
    exact hK _ _ h
end Go.Proofs.YtdfplenniamnoaaGreatDoor

/-! Undos in a slice of one's own; what CoinsBack's second loop keeps -/
namespace Go.Proofs.YtdfplenniamnoaaGreatDoor
open Go Go.RowKit Go.ChangeShapes Go.WideShapes
namespace Cs
structure U where
  a : Option Addr
  n : Nat
  q : Nat
  b : Option Addr
  m : Nat
  r : Nat
  f : Bool
  c : Option Addr
  k : Nat
  l : Nat
  t : Tx.T
  sp : List Tx.Co
end Cs
def uCells (x : Cs.U) : List Value := [.slice x.a x.n x.q, .slice x.b x.m x.r, .bool x.f, .slice x.c x.k x.l]
def uRec : Rec Cs.U where
  k := 4
  cells := uCells
  ok := fun _ => True
  pos := by omega
  len t _ := rfl
  one t v hv := by
    simp [uCells] at hv
    rcases hv with rfl | rfl | rfl | rfl <;> rfl
section
variable {B : Nat} {w w' : World} {F F' : Fp} {ua : Option Addr} {un uq : Nat} {ub : Option Addr} {um ur : Nat} {uc : Option Addr} {uk ul : Nat} {t : Tx.T} {sp : List Tx.Co}
theorem UndoAt.aside {G : Fp} (h : UndoAt B w F ua un uq ub um ur uc uk ul t sp) (hm : Moved G w w') (h1 : ∀ j, (Value.slice ua un uq).ownBlock = some j → ¬ G j) (h2 : ∀ j, (Value.slice ub um ur).ownBlock = some j → ¬ G j) (h3 : ∀ j, (Value.slice uc uk ul).ownBlock = some j → ¬ G j) : UndoAt B w' F ua un uq ub um ur uc uk ul t sp where
  tx := ⟨h.tx.sp.moved hm h1, h.tx.co.moved hm h2⟩
  co := h.co.moved hm h3
  o1 := h.o1
  o2 := h.o2
  o3 := h.o3
theorem UndoAt.below (h : UndoAt B w F ua un uq ub um ur uc uk ul t sp) (hb : Below w.heap.size w w') : UndoAt B w' F ua un uq ub um ur uc uk ul t sp :=
  h.aside (G := fun _ => False) (Moved.of_below hb) (fun _ _ e => e) (fun _ _ e => e) (fun _ _ e => e)
end
structure Cs.U.At (D : Nat) (w : World) (F : Fp) (x : Cs.U) : Prop where
  u : UndoAt D w F x.a x.n x.q x.b x.m x.r x.c x.k x.l x.t x.sp
  f : x.f = x.t.firm
  sm : Tx.Small x.t
  gd : ∀ c, c ∈ x.sp → Am.Good c.v
/-- what is kept: the set, its copy of before, the undos, how the one came of the other -/
structure Lp (S : World → Value → Fp → Cs.Mp → Prop) (B D : Nat) (w4 : World) (v v0 : Value) (M0 : Cs.Mp) (w : World) (F F0 : Fp) (M : Cs.Mp) (oa : Option Addr) (k oq : Nat) (U : List Cs.U) (cs : List (Tx.T × List Tx.Co)) : Prop where
  s : S w v F M
  s0 : S w v0 F0 M0
  hF : ∀ j, F j → B ≤ j
  hF0 : ∀ j, F0 j → B ≤ j ∧ ¬ F j
  o : OwnR uRec 48 D w (.slice oa k oq) U
  oF : ∀ j, (Value.slice oa k oq).ownBlock = some j → ¬ F j ∧ ¬ F0 j
  us : ∀ x, x ∈ U → x.At D w F
  ch : Cs.Chain M0 cs M
  bl : Below B w4 w
  sz : D ≤ w.heap.size
  bd : B ≤ D
section
variable {S : World → Value → Fp → Cs.Mp → Prop} (ok : CoinsOk S) {B D : Nat} {w4 w w' : World} {v v0 : Value} {M0 M M' : Cs.Mp} {F F0 F' : Fp} {oa : Option Addr} {k oq : Nat} {U : List Cs.U} {cs cs' : List (Tx.T × List Tx.Co)}
include ok
end
end Go.Proofs.YtdfplenniamnoaaGreatDoor
