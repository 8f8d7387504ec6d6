/- the reference's Read (mktxg.py) -/
import Derived.Test.YtpbijcchdjppmaaRdz
import Derived.Deep.CutRange
namespace Go.Proofs.Ytpbijcchdjppmaa
open Go Go.RowKit Go.ChangeShapes Go.WideShapes
def TxPost (l : List (BitVec 8)) (w0 : World) (e : Ending) (w' : World) : Prop :=
  ∃ (a : Option Addr) (n q : Nat) (b : Option Addr) (m r : Nat), e = .returned (.tuple #[txv a n q b m r (Tx.rdV l).firm, .bool (decide (Tx.rdOk l))]) ∧ TxOwn w0.heap.size w' a n q b m r (Tx.rdV l) ∧ Below w0.heap.size w0 w'
set_option maxRecDepth 100000 in
set_option maxHeartbeats 16000000 in
theorem rread_any (xa : Option Addr) (n c : Nat) (l : List (BitVec 8)) (w : World) (h : Bytes8 w xa n l) (hnc : n ≤ c) (h0 : xa = none → c = 0) (hlen : l.length ≤ 1000000) :
    Calls Try.prog 16 #[.slice xa n c] w (TxPost l w) := by
  have hS : ∀ x, xa = some x → Tx.Src l w.heap.size x.block := fun x hx => by
    rcases Nat.eq_zero_or_pos n with h1 | h1
    · exact .inl (List.length_eq_zero_iff.1 (h.1.trans h1))
    · obtain ⟨y, hy, hc⟩ := h.2.2 0 h1
      rw [hx] at hy
      injection hy with hy
      subst hy
      have := isSome_lt (w := w) (p := x.add 0) (by rw [hc]; rfl)
      rw [block_add] at this
      exact .inr this
  obtain ⟨W4, hW4⟩ : ∃ x, x = ((w.alloc (.cells zTx 25)).alloc (.cells #[.slice xa n c, .bool false] 79)).alloc (.cells zTx 25) := ⟨_, rfl⟩
  have hb : Below w.heap.size w W4 := by
    rw [hW4]
    exact (((Below.refl _ w).alloc (Nat.le_refl _) _).alloc (by simp) _).alloc (by simp; omega) _
  have hR : Has W4 w.heap.size 25 zTx := by rw [hW4]; exact ((Has.fresh w _ _).past _).past _
  have hI : Has W4 (w.heap.size + 1) 79 #[.slice xa n c, .bool false] := by rw [hW4]; exact (Has.fresh_at _ _ _ (by simp)).past _
  have hT : Has W4 (w.heap.size + 1 + 1) 25 zTx := by rw [hW4]; exact Has.fresh_at _ _ _ (by simp)
  have hsz4 : W4.heap.size = w.heap.size + 1 + 1 + 1 := by rw [hW4]; simp
  have hV : RdS.InS (Tx.Src l w.heap.size) W4 (some l) (.agg #[.slice xa n c, .bool false]) := ⟨xa, n, c, rfl, h.below hb, hnc, h0, hS⟩
  have HGS := Lib.hid (show Tx.Gs l (some l) ∨ True from .inr trivial)
  have HW := Lib.hid hW4
  clear hW4 h hnc h0 hS HGS
  go_enter Try.func16, Try.ntmps16
  go_upto_region 5 with fail
  rw [← HW.out]
  obtain ⟨g2, hg2⟩ : ∃ g, g = w.heap.size := ⟨_, rfl⟩
  obtain ⟨gi, hgi⟩ : ∃ g, g = w.heap.size + 1 := ⟨_, rfl⟩
  obtain ⟨gt, hgt⟩ : ∃ g, g = w.heap.size + 1 + 1 := ⟨_, rfl⟩
  rw [← hgt, ← hgi, ← hg2]
  rw [← hg2] at hR
  rw [← hgi] at hI
  rw [← hgt] at hT
  have HN := Lib.hid (show g2 = w.heap.size ∧ gi = w.heap.size + 1 ∧ gt = w.heap.size + 2 ∧ W4.heap.size = w.heap.size + 3 from ⟨hg2, hgi, hgt, hsz4⟩)
  clear hg2 hgi hgt hsz4 HW
  have ho : OwnR spRec 54 W4.heap.size W4 (.slice none 0 0) [] := OwnR.nil _ _ _ _
  have hq : OwnR coRec 56 W4.heap.size W4 (.slice none 0 0) [] := OwnR.nil _ _ _ _
  have HGS := Lib.hid (show (0 : Nat) = 0 ∧ (Pk.left (some l)).length ≤ 1000000 from ⟨rfl, hlen⟩)
  obtain ⟨pa, hpa⟩ : ∃ x, x = Pk.rdCount (some l) 8 := ⟨_, rfl⟩
  have HPpa := Lib.hid hpa
  clear hpa
  have hgs1 : Tx.Gs l pa.1 := by rw [HPpa.out]; exact Tx.Gs.start hlen
  have HG1 := Lib.hid hgs1
  clear hgs1
  have lI := hI.load_agg (P := Try.prog) (t := 79) Try.underlying79 rfl (by kernel_rfl)
  go_upto_region 6 with (first
    | (refine wpList_store_mid rfl 79 (.tmp 4) (.tmp 19) rfl gi 0 #[.slice ra rn rc, .bool rb] rfl rfl (hI2.there 0 2 (Nat.le_refl _)) (RdS.in_size _ _) (RdS.in_one _ _ rfl rfl) ?_; obtain ⟨wnpa, hwn⟩ : ∃ x, x = wc.setCells gi 0 (#[.slice ra rn rc, .bool rb] : Array Value).toList := ⟨_, rfl⟩; rw [← hwn]; have hmn : Moved (fun k => k = gi) wc wnpa := (by rw [hwn]; exact Moved.putAll (F := fun k => k = gi) (.inl rfl) _ 0 (Moved.refl _ _)); replace hI : Has wnpa gi 79 #[.slice ra rn rc, .bool rb] := (by rw [hwn]; exact hI2.whole_cs rfl); replace hV := hvn.keep (HG1.out) hmn (fun k e => by have e2 : k = gi := e; have := HN.out; omega); replace hT := (hT.under hbc hT.lt).moved hmn (fun e => by have e2 : _ = gi := e; have := HN.out; omega); replace hR := (hR.under hbc hR.lt).moved hmn (fun e => by have e2 : _ = gi := e; have := HN.out; omega); replace ho := (ho.below hbc).moved hmn (fun k hk e => by have e2 : k = gi := e; have := ho.lt k hk; have := HN.out; omega); replace hq := (hq.below hbc).moved hmn (fun k hk e => by have e2 : k = gi := e; have := hq.lt k hk; have := HN.out; omega); have hbn : Below w.heap.size w wnpa := (by rw [hwn]; exact below_setAll (by have := HN.out; omega) _ 0 (hb.trans (hbc.mono hb.size))); replace hb := hbn; replace HGS := Lib.hid (HG1.out); clear hwn hmn hbn hvn hbc hI2 lI)
    | (go_at_call 41; refine (RdS.rreadCount_any _ _ 8 (by omega) (by omega) HGS.out.2 _ hV).mono ?_; rw [← HPpa.out]; rintro e wc ⟨⟨vn, rfl, hvn⟩, hbc⟩; have hvn' := hvn; obtain ⟨ra, rn, rc, rb, rfl, HRB⟩ := hvn'.cellsH; clear HRB hvn'; have hI2 := hI.under hbc hI.lt)
    | (refine wpList_load_run rfl 79 (.tmp 4) rfl _ _ rfl lI ?_))
  have hk08 := Tx.rdCount_le (some l) 8 (by omega)
  rw [← HPpa.out] at hk08
  obtain ⟨k08, k88⟩ := hk08
  obtain ⟨s1, hs1⟩ : ∃ s, s = pa.1 := ⟨_, rfl⟩
  obtain ⟨K, hK⟩ : ∃ K : Nat, pa.2 = K := ⟨pa.2.toNat, by omega⟩
  rw [hK] at k88 k08 ⊢
  rw [← hs1] at hV HGS
  have HS1 := Lib.hid (And.intro hs1 hK)
  clear hs1 hK HG1 k08
  clear hq
  go_wp2
  go_loopw [6, 7, 9] (fun okv xv kv wr => ∃ (k : Nat) (y : BitVec 64) (sa : Option Addr) (sn sc : Nat) (sb : Bool) (oa : Option Addr) (oq : Nat), k ≤ K ∧ kv = .int .i64 k ∧ okv = .bool (Tx.rdSps s1 true k).2.2 ∧ xv = .int .u64 (nb64 y) ∧ Has wr gi 79 #[.slice sa sn sc, .bool sb] ∧ RdS.InS (Tx.Src l w.heap.size) wr (Tx.rdSps s1 true k).1 (.agg #[.slice sa sn sc, .bool sb]) ∧ Has wr gt 25 #[.slice oa k oq, .slice none 0 0, .bool false] ∧ OwnR spRec 54 W4.heap.size wr (.slice oa k oq) (Tx.rdSps s1 true k).2.1 ∧ Has wr g2 25 zTx ∧ Below w.heap.size w wr) (fun _ _ kv _ => K - (intOf kv).toNat)
  case atStart => exact ⟨0, 0#64, ra, rn, rc, rb, none, 0, Nat.zero_le _, rfl, rfl, rfl, hI, hV, hT, ho, hR, hb⟩
  case round =>
    have hGs0 := HGS.out
    clear hI hV hT ho hR hb HGS
    obtain ⟨k, y, sa, sn, sc, sb, oa, oq, hk, rfl, rfl, rfl, hI, hV, hT, ho, hR, hb⟩ := hrel
    by_cases hlt : k < K
    · have hki : (k : Int) < (K : Int) := by omega
      have hk0 : (0 : Int) ≤ (k : Int) := by omega
      obtain ⟨s, hs⟩ : ∃ s, s = (Tx.rdSps s1 true k).1 := ⟨_, rfl⟩
      obtain ⟨L0, hL0⟩ : ∃ s, s = (Tx.rdSps s1 true k).2.1 := ⟨_, rfl⟩
      obtain ⟨ok, hok⟩ : ∃ s, s = (Tx.rdSps s1 true k).2.2 := ⟨_, rfl⟩
      have HGS := Lib.hid (show Tx.Gs l s by rw [hs]; exact Tx.Gs.sps hGs0 true k)
      rw [← hs] at hV
      rw [← hL0] at ho
      rw [← hok]
      have HSK := Lib.hid (And.intro hs (And.intro hL0 hok))
      clear hs hL0 hok hGs0
      obtain ⟨ph, hph⟩ : ∃ x, x = Pk.rdHash s := ⟨_, rfl⟩
      have HPph := Lib.hid hph
      clear hph
      obtain ⟨pn, hpn⟩ : ∃ x, x = Pk.rdNum ph.1 4 := ⟨_, rfl⟩
      have HPpn := Lib.hid hpn
      clear hpn
      obtain ⟨px, hpx⟩ : ∃ x, x = Pk.rdText pn.1 32 := ⟨_, rfl⟩
      have HPpx := Lib.hid hpx
      clear hpx
      obtain ⟨pl, hpl⟩ : ∃ x, x = Pk.rdNum px.1 8 := ⟨_, rfl⟩
      have HPpl := Lib.hid hpl
      clear hpl
      have HLH := Lib.hid (show ph.2.length = 32 by rw [HPph.out]; exact Tx.rdHash_len s)
      have HLK := Lib.hid (show px.2.length ≤ 32 by rw [HPpx.out]; exact Tx.rdText_len _)
      have HSM := Lib.hid (show pn.2.toNat < 4294967296 by rw [HPpn.out]; exact rdNum4_small _)
      have HNEXT := Lib.hid (show Tx.rdSps s1 true (k + 1) = (pl.1, L0 ++ [⟨ph.2, pn.2.toNat, px.2, pl.2⟩], ok && decide (pn.2.toNat < 8)) from Tx.sps_next HSK.out HPph.out HPpn.out HPpx.out HPpl.out)
      have HG1 := Lib.hid (show Tx.Gs l ph.1 by rw [HPph.out]; exact HGS.out.hash)
      have HG2 := Lib.hid (show Tx.Gs l pn.1 by rw [HPpn.out]; exact HG1.out.num 4)
      have HG3 := Lib.hid (show Tx.Gs l px.1 by rw [HPpx.out]; exact HG2.out.text 32)
      have HG4 := Lib.hid (show Tx.Gs l pl.1 by rw [HPpl.out]; exact HG3.out.num 8)
      obtain ⟨cs, hcs⟩ : ∃ cs : Array Value, cs = zSp := ⟨_, rfl⟩
      have HCS := Lib.hid hcs
      clear hcs
      go_upto_region 10 with (refine wpList_store_mid rfl 54 (.tmp 10) (.tmp 26) rfl wr.heap.size 0 cs rfl (by rw [HCS.out]; rfl) (by rw [HCS.out]; exact (Has.fresh _ _ _).there 0 35 (Nat.le_refl _)) (by rw [HCS.out]; exact size_zSp) (by rw [HCS.out]; exact one_zSp) ?_)
      obtain ⟨w9, hw9⟩ : ∃ x, x = (wr.alloc (.cells zSp 54)).setCells wr.heap.size 0 cs.toList := ⟨_, rfl⟩
      have hb9 : Below wr.heap.size wr w9 := by rw [hw9]; exact below_setAll (Nat.le_refl _) _ 0 ((Below.refl _ _).alloc (Nat.le_refl _) _)
      have hG : Has w9 wr.heap.size 54 (spRow (List.replicate 32 0#8) (.int .i64 0) (.string ⟨#[]⟩) (.int .u64 0)) := by rw [hw9, ← zSp_row, ← HCS.out]; exact (Has.fresh _ _ _).whole_cs (by rw [HCS.out])
      rw [← hw9]
      clear hw9 HCS
      obtain ⟨g10, hg10⟩ : ∃ g, g = wr.heap.size := ⟨_, rfl⟩
      rw [← hg10] at hG ⊢
      have HO := Lib.hid (show ∀ j, (Value.slice oa k oq).ownBlock = some j → j < g10 from fun j hj => by have := ho.lt_size j hj; omega)
      have HN := Lib.hid (show g2 = w.heap.size ∧ gi = w.heap.size + 1 ∧ gt = w.heap.size + 2 ∧ W4.heap.size = w.heap.size + 3 ∧ gi < g10 ∧ gt < g10 ∧ g2 < g10 from ⟨HN.out.1, HN.out.2.1, HN.out.2.2.1, HN.out.2.2.2, by have := hI.lt; omega, by have := hT.lt; omega, by have := hR.lt; omega⟩)
      replace hI := hI.under hb9 hI.lt
      replace hT := hT.under hb9 hT.lt
      replace hR := hR.under hb9 hR.lt
      replace hV := hV.below hb9
      replace ho := ho.below hb9
      replace hb := hb.trans (hb9.mono hb.size)
      clear hb9 hg10
      have lI := hI.load_agg (P := Try.prog) (t := 79) Try.underlying79 rfl (by kernel_rfl)
      go_upto_region 11 with (first
        | (refine wpList_store_mid rfl 49 (.tmp 33) (.tmp 31) rfl g10 0 (blist ph.2).toArray rfl rfl (hG.there 0 _ (by rw [List.size_toArray, blist_length, HLH.out, spRow_size (by simp)]; omega)) (size_hash' HLH.out) (one_hash _) ?_; obtain ⟨wh, hwx⟩ : ∃ x, x = wnph.setCells g10 0 (blist ph.2) := ⟨_, rfl⟩; rw [← hwx]; have hmx : Moved (fun k => k = g10) wnph wh := (by rw [hwx]; exact Moved.putAll (F := fun k => k = g10) (.inl rfl) _ _ (Moved.refl _ _)); have hgx := row_hash hG (by simp) HLH.out; rw [← hwx] at hgx; replace hG := hgx; clear hgx; replace hI := hI.moved hmx (fun e => by have e2 : gi = g10 := e; have := HN.out; omega); replace hV := hV.keep HGS.out hmx (fun k e => by have e2 : k = g10 := e; have := HN.out; omega); replace hT := hT.moved hmx (fun e => by have e2 : _ = g10 := e; have := HN.out; omega); replace hR := hR.moved hmx (fun e => by have e2 : _ = g10 := e; have := HN.out; omega); replace ho := ho.moved hmx (fun k hk e => by have e2 : k = g10 := e; have := HO.out k hk; omega); replace hb : Below w.heap.size w wh := (by rw [hwx]; exact below_setAll (by have := HN.out; omega) _ _ hb); clear hwx hmx)
        | (refine wpList_store_mid rfl 79 (.tmp 4) (.tmp 30) rfl gi 0 #[.slice ra rn rc, .bool rb] rfl rfl (hI2.there 0 2 (Nat.le_refl _)) (RdS.in_size _ _) (RdS.in_one _ _ rfl rfl) ?_; obtain ⟨wnph, hwn⟩ : ∃ x, x = wc.setCells gi 0 (#[.slice ra rn rc, .bool rb] : Array Value).toList := ⟨_, rfl⟩; rw [← hwn]; have hmn : Moved (fun k => k = gi) wc wnph := (by rw [hwn]; exact Moved.putAll (F := fun k => k = gi) (.inl rfl) _ 0 (Moved.refl _ _)); replace hI : Has wnph gi 79 #[.slice ra rn rc, .bool rb] := (by rw [hwn]; exact hI2.whole_cs rfl); replace hV := hvn.keep (HG1.out) hmn (fun k e => by have e2 : k = gi := e; have := HN.out; omega); replace hT := (hT.under hbc hT.lt).moved hmn (fun e => by have e2 : _ = gi := e; have := HN.out; omega); replace hR := (hR.under hbc hR.lt).moved hmn (fun e => by have e2 : _ = gi := e; have := HN.out; omega); replace hG := (hG.under hbc hG.lt).moved hmn (fun e => by have e2 : _ = gi := e; have := HN.out; omega); replace ho := (ho.below hbc).moved hmn (fun k hk e => by have e2 : k = gi := e; have := ho.lt k hk; have := HN.out; omega); have hbn : Below w.heap.size w wnph := (by rw [hwn]; exact below_setAll (by have := HN.out; omega) _ 0 (hb.trans (hbc.mono hb.size))); replace hb := hbn; replace HGS := Lib.hid (HG1.out); clear hwn hmn hbn hvn hbc hI2 lI)
        | (go_at_call 42; refine (RdS.rreadHash_any _ _ _ hV).mono ?_; rw [← HPph.out]; rintro e wc ⟨⟨vn, rfl, hvn⟩, hbc⟩; have hvn' := hvn; obtain ⟨ra, rn, rc, rb, rfl, HRB⟩ := hvn'.cellsH; clear HRB hvn'; have hI2 := hI.under hbc hI.lt)
        | (refine wpList_load_run rfl 79 (.tmp 4) rfl _ _ rfl lI ?_))
      have lI := hI.load_agg (P := Try.prog) (t := 79) Try.underlying79 rfl (by kernel_rfl)
      go_upto_region 12 with (first
        | (refine wpList_store_mid rfl 79 (.tmp 4) (.tmp 37) rfl gi 0 #[.slice ra rn rc, .bool rb] rfl rfl (hI2.there 0 2 (Nat.le_refl _)) (RdS.in_size _ _) (RdS.in_one _ _ rfl rfl) ?_; obtain ⟨wnpn, hwn⟩ : ∃ x, x = wc.setCells gi 0 (#[.slice ra rn rc, .bool rb] : Array Value).toList := ⟨_, rfl⟩; rw [← hwn]; have hmn : Moved (fun k => k = gi) wc wnpn := (by rw [hwn]; exact Moved.putAll (F := fun k => k = gi) (.inl rfl) _ 0 (Moved.refl _ _)); replace hI : Has wnpn gi 79 #[.slice ra rn rc, .bool rb] := (by rw [hwn]; exact hI2.whole_cs rfl); replace hV := hvn.keep (HG2.out) hmn (fun k e => by have e2 : k = gi := e; have := HN.out; omega); replace hT := (hT.under hbc hT.lt).moved hmn (fun e => by have e2 : _ = gi := e; have := HN.out; omega); replace hR := (hR.under hbc hR.lt).moved hmn (fun e => by have e2 : _ = gi := e; have := HN.out; omega); replace hG := (hG.under hbc hG.lt).moved hmn (fun e => by have e2 : _ = gi := e; have := HN.out; omega); replace ho := (ho.below hbc).moved hmn (fun k hk e => by have e2 : k = gi := e; have := ho.lt k hk; have := HN.out; omega); have hbn : Below w.heap.size w wnpn := (by rw [hwn]; exact below_setAll (by have := HN.out; omega) _ 0 (hb.trans (hbc.mono hb.size))); replace hb := hbn; replace HGS := Lib.hid (HG2.out); clear hwn hmn hbn hvn hbc hI2 lI)
        | (go_at_call 43; refine (RdS.rreadNum_any _ _ 4 _ hV).mono ?_; rw [← HPpn.out]; rintro e wc ⟨⟨vn, rfl, hvn⟩, hbc⟩; have hvn' := hvn; obtain ⟨ra, rn, rc, rb, rfl, HRB⟩ := hvn'.cellsH; clear HRB hvn'; have hI2 := hI.under hbc hI.lt)
        | (refine wpList_load_run rfl 79 (.tmp 4) rfl _ _ rfl lI ?_))
      have c32 := row_at_n hG HLH.out
      have l32 := hG.loose 32
      have hwd : IntKind.i64.wrap (nb64 pn.2) = (pn.2.toNat : Int) := word_small _ (by have := HSM.out; omega)
      go_upto_region 13 with fail
      clear c32 l32 hwd
      obtain ⟨wm, hwx⟩ : ∃ x, x = wnpn.setCell ⟨g10, 32, none⟩ (.int .i64 (pn.2.toNat : Int)) := ⟨_, rfl⟩
      rw [← hwx]
      have hmx : Moved (fun k => k = g10) wnpn wm := (by rw [hwx]; exact Moved.put (F := fun k => k = g10) (Moved.refl _ _) (.inl rfl) _ _)
      have hgx := row_n (u := .int .i64 (pn.2.toNat : Int)) hG HLH.out
      rw [← hwx] at hgx
      replace hG := hgx
      clear hgx
      replace hI := hI.moved hmx (fun e => by have e2 : gi = g10 := e; have := HN.out; omega)
      replace hV := hV.keep HGS.out hmx (fun k e => by have e2 : k = g10 := e; have := HN.out; omega)
      replace hT := hT.moved hmx (fun e => by have e2 : _ = g10 := e; have := HN.out; omega)
      replace hR := hR.moved hmx (fun e => by have e2 : _ = g10 := e; have := HN.out; omega)
      replace ho := ho.moved hmx (fun k hk e => by have e2 : k = g10 := e; have := HO.out k hk; omega)
      replace hb : Below w.heap.size w wm := (by rw [hwx]; exact hb.setCell (p := ⟨g10, _, none⟩) (by have := HN.out; show w.heap.size ≤ g10; omega) _)
      clear hwx hmx
      skip
      go_upto_region 13 with fail
      go_cut [6] from 43 to 47 (fun vo wx => vo = .bool (ok && decide (pn.2.toNat < 8)) ∧ wx = wm)
      case first =>
        cases ok
        · go_wp2_with fail
          go_meet
          case rel => exact ⟨rfl, rfl⟩
        · go_wp2_with fail
          go_meet
          case rel => exact ⟨congrArg Value.bool (by rw [Bool.true_and]; exact decide_eq_decide.2 (by rw [nb64]; omega)), rfl⟩
      case rest =>
        obtain ⟨rfl, hwc⟩ := hcut
        rw [hwc]
        clear hwc
        have lI := hI.load_agg (P := Try.prog) (t := 79) Try.underlying79 rfl (by kernel_rfl)
        go_upto_region 15 with (first
          | (refine wpList_store_mid rfl 79 (.tmp 4) (.tmp 51) rfl gi 0 #[.slice ra rn rc, .bool rb] rfl rfl (hI2.there 0 2 (Nat.le_refl _)) (RdS.in_size _ _) (RdS.in_one _ _ rfl rfl) ?_; obtain ⟨wnpx, hwn⟩ : ∃ x, x = wc.setCells gi 0 (#[.slice ra rn rc, .bool rb] : Array Value).toList := ⟨_, rfl⟩; rw [← hwn]; have hmn : Moved (fun k => k = gi) wc wnpx := (by rw [hwn]; exact Moved.putAll (F := fun k => k = gi) (.inl rfl) _ 0 (Moved.refl _ _)); replace hI : Has wnpx gi 79 #[.slice ra rn rc, .bool rb] := (by rw [hwn]; exact hI2.whole_cs rfl); replace hV := hvn.keep (HG3.out) hmn (fun k e => by have e2 : k = gi := e; have := HN.out; omega); replace hT := (hT.under hbc hT.lt).moved hmn (fun e => by have e2 : _ = gi := e; have := HN.out; omega); replace hR := (hR.under hbc hR.lt).moved hmn (fun e => by have e2 : _ = gi := e; have := HN.out; omega); replace hG := (hG.under hbc hG.lt).moved hmn (fun e => by have e2 : _ = gi := e; have := HN.out; omega); replace ho := (ho.below hbc).moved hmn (fun k hk e => by have e2 : k = gi := e; have := ho.lt k hk; have := HN.out; omega); have hbn : Below w.heap.size w wnpx := (by rw [hwn]; exact below_setAll (by have := HN.out; omega) _ 0 (hb.trans (hbc.mono hb.size))); replace hb := hbn; replace HGS := Lib.hid (HG3.out); clear hwn hmn hbn hvn hbc hI2 lI; have c33 := row_at_key hG HLH.out; have l33 := hG.loose 33)
          | (go_at_call 44; refine (RdS.rreadText_any _ _ 32 (by omega) (by omega) HGS.out.2 _ hV).mono ?_; rw [← HPpx.out]; rintro e wc ⟨⟨vn, rfl, hvn⟩, hbc⟩; have hvn' := hvn; obtain ⟨ra, rn, rc, rb, rfl, HRB⟩ := hvn'.cellsH; clear HRB hvn'; have hI2 := hI.under hbc hI.lt)
          | (refine wpList_load_run rfl 79 (.tmp 4) rfl _ _ rfl lI ?_))
        clear c33 l33
        obtain ⟨wk, hwx⟩ : ∃ x, x = wnpx.setCell ⟨g10, 33, none⟩ (.string (strB px.2)) := ⟨_, rfl⟩
        rw [← hwx]
        have hmx : Moved (fun k => k = g10) wnpx wk := (by rw [hwx]; exact Moved.put (F := fun k => k = g10) (Moved.refl _ _) (.inl rfl) _ _)
        have hgx := row_key (u := .string (strB px.2)) hG HLH.out
        rw [← hwx] at hgx
        replace hG := hgx
        clear hgx
        replace hI := hI.moved hmx (fun e => by have e2 : gi = g10 := e; have := HN.out; omega)
        replace hV := hV.keep HGS.out hmx (fun k e => by have e2 : k = g10 := e; have := HN.out; omega)
        replace hT := hT.moved hmx (fun e => by have e2 : _ = g10 := e; have := HN.out; omega)
        replace hR := hR.moved hmx (fun e => by have e2 : _ = g10 := e; have := HN.out; omega)
        replace ho := ho.moved hmx (fun k hk e => by have e2 : k = g10 := e; have := HO.out k hk; omega)
        replace hb : Below w.heap.size w wk := (by rw [hwx]; exact hb.setCell (p := ⟨g10, _, none⟩) (by have := HN.out; show w.heap.size ≤ g10; omega) _)
        clear hwx hmx
        have lI := hI.load_agg (P := Try.prog) (t := 79) Try.underlying79 rfl (by kernel_rfl)
        go_upto_region 16 with (first
          | (refine wpList_store_mid rfl 79 (.tmp 4) (.tmp 57) rfl gi 0 #[.slice ra rn rc, .bool rb] rfl rfl (hI2.there 0 2 (Nat.le_refl _)) (RdS.in_size _ _) (RdS.in_one _ _ rfl rfl) ?_; obtain ⟨wnpl, hwn⟩ : ∃ x, x = wc.setCells gi 0 (#[.slice ra rn rc, .bool rb] : Array Value).toList := ⟨_, rfl⟩; rw [← hwn]; have hmn : Moved (fun k => k = gi) wc wnpl := (by rw [hwn]; exact Moved.putAll (F := fun k => k = gi) (.inl rfl) _ 0 (Moved.refl _ _)); replace hI : Has wnpl gi 79 #[.slice ra rn rc, .bool rb] := (by rw [hwn]; exact hI2.whole_cs rfl); replace hV := hvn.keep (HG4.out) hmn (fun k e => by have e2 : k = gi := e; have := HN.out; omega); replace hT := (hT.under hbc hT.lt).moved hmn (fun e => by have e2 : _ = gi := e; have := HN.out; omega); replace hR := (hR.under hbc hR.lt).moved hmn (fun e => by have e2 : _ = gi := e; have := HN.out; omega); replace hG := (hG.under hbc hG.lt).moved hmn (fun e => by have e2 : _ = gi := e; have := HN.out; omega); replace ho := (ho.below hbc).moved hmn (fun k hk e => by have e2 : k = gi := e; have := ho.lt k hk; have := HN.out; omega); have hbn : Below w.heap.size w wnpl := (by rw [hwn]; exact below_setAll (by have := HN.out; omega) _ 0 (hb.trans (hbc.mono hb.size))); replace hb := hbn; replace HGS := Lib.hid (HG4.out); clear hwn hmn hbn hvn hbc hI2 lI; have c34 := row_at_seal hG HLH.out; have l34 := hG.loose 34)
          | (go_at_call 43; refine (RdS.rreadNum_any _ _ 8 _ hV).mono ?_; rw [← HPpl.out]; rintro e wc ⟨⟨vn, rfl, hvn⟩, hbc⟩; have hvn' := hvn; obtain ⟨ra, rn, rc, rb, rfl, HRB⟩ := hvn'.cellsH; clear HRB hvn'; have hI2 := hI.under hbc hI.lt)
          | (refine wpList_load_run rfl 79 (.tmp 4) rfl _ _ rfl lI ?_))
        clear c34 l34
        obtain ⟨wl, hwx⟩ : ∃ x, x = wnpl.setCell ⟨g10, 34, none⟩ (.int .u64 (nb64 pl.2)) := ⟨_, rfl⟩
        rw [← hwx]
        have hmx : Moved (fun k => k = g10) wnpl wl := (by rw [hwx]; exact Moved.put (F := fun k => k = g10) (Moved.refl _ _) (.inl rfl) _ _)
        have hgx := row_seal (u := .int .u64 (nb64 pl.2)) hG HLH.out
        rw [← hwx] at hgx
        replace hG := hgx
        clear hgx
        replace hI := hI.moved hmx (fun e => by have e2 : gi = g10 := e; have := HN.out; omega)
        replace hV := hV.keep HGS.out hmx (fun k e => by have e2 : k = g10 := e; have := HN.out; omega)
        replace hT := hT.moved hmx (fun e => by have e2 : _ = g10 := e; have := HN.out; omega)
        replace hR := hR.moved hmx (fun e => by have e2 : _ = g10 := e; have := HN.out; omega)
        replace ho := ho.moved hmx (fun k hk e => by have e2 : k = g10 := e; have := HO.out k hk; omega)
        replace hb : Below w.heap.size w wl := (by rw [hwx]; exact hb.setCell (p := ⟨g10, _, none⟩) (by have := HN.out; show w.heap.size ≤ g10; omega) _)
        clear hwx hmx
        have HLL := Lib.hid (show L0.length = k by rw [HSK.out.2.1]; exact (Tx.sps_flag s1 true k).2.2)
        have HNL := Lib.hid (show (Tx.rdSps s1 true (k + 1)).2.1 = L0 ++ [⟨ph.2, (pn.2.toNat : Int), px.2, pl.2⟩] by rw [HNEXT.out])
        have HNS := Lib.hid (show (Tx.rdSps s1 true (k + 1)).1 = pl.1 by rw [HNEXT.out])
        have HNF := Lib.hid (show (Tx.rdSps s1 true (k + 1)).2.2 = (ok && decide (pn.2.toNat < 8)) by rw [HNEXT.out])
        obtain ⟨X, hX⟩ : ∃ X : Tx.Sp, X = (⟨ph.2, (pn.2.toNat : Int), px.2, pl.2⟩) := ⟨_, rfl⟩
        have hokX : spRec.ok X := by rw [hX]; exact ⟨HLH.out, by have := HSM.out; show _ ∧ _; dsimp only; omega, by have := HLK.out; show px.2.length ≤ maxLen; unfold maxLen; omega⟩
        obtain ⟨cs, hcs⟩ : ∃ cs : Array Value, cs = (spCells X).toArray := ⟨_, rfl⟩
        replace hG : Has wl g10 54 cs := by rw [hcs, hX]; exact hG
        have HC := Lib.hid (show cs.size = spRec.k ∧ spRec.ok X ∧ cs = (spRec.cells X).toArray ∧ L0.length = k from ⟨by rw [hcs, List.size_toArray]; exact spRec.len X hokX, hokX, hcs, HLL.out⟩)
        have lG := hG.load_agg (P := Try.prog) (t := 54) Try.underlying54 rfl (by rw [HC.out.1]; kernel_rfl)
        clear hcs hokX
        have ct : (wl.alloc (.cells cs 54)).cell? ⟨gt, 0, none⟩ = some (.slice oa k oq) := (hT.past _).cell_at rfl
        have cw : wl.cell? ⟨gt, 0, none⟩ = some (.slice oa k oq) := hT.cell_at rfl
        go_upto_region 8 with (first
          | (at_builtin; refine wpList_append_recs (R := spRec) rfl (.tmp 61) (.tmp 63) 22 rfl 54 Try.underlying22 info_spend rfl (by decide) W4.heap.size _ L0 rfl (ho.below ((Below.refl _ _).alloc (Nat.le_refl _) _)) (some ⟨wl.heap.size, 0, none⟩) 1 1 [X] rfl (recs_one HC.out.2.1 HC.out.2.2.1) (fun e => by cases e) (by have := HC.out.2.2.2; omega) (by have := HN.out; have := hG.lt; simp; omega) ?_; intro va wa ho2 hg2 hl2; obtain ⟨oa', oq', rfl, _⟩ := ho2.shape (K := k + 1) (by rw [List.length_append, HC.out.2.2.2]; rfl); have hma : Moved (fun j => W4.heap.size ≤ j) wl wa := (Moved.of_below ((Below.refl _ _).alloc (Nat.le_refl _) _)).trans (Moved.of_grown (F := fun j => W4.heap.size ≤ j) hg2 (fun j e => ho.lt j e)) (fun _ e => .inl e); have hTa := hT.moved hma (fun e => by have e2 : W4.heap.size ≤ gt := e; have := HN.out; omega); have ca : wa.cell? ⟨gt, 0, none⟩ = some (.slice oa k oq) := hTa.cell_at rfl; have la := hTa.loose 0)
          | (refine wpList_build_row rfl (.tmp 62) 22 rfl 54 Try.underlying22 info_spend (by decide) (by decide) cs HC.out.1 rfl ?_)
          | (refine wpList_load_run rfl 54 (.tmp 10) rfl _ _ rfl lG ?_))
        obtain ⟨we, hwe⟩ : ∃ x, x = wa.setCell ⟨gt, 0, none⟩ (.slice oa' (k + 1) oq') := ⟨_, rfl⟩
        rw [← hwe]
        have hmt : Moved (fun j => j = gt) wa we := by rw [hwe]; exact Moved.put (F := fun j => j = gt) (Moved.refl _ _) (.inl rfl) _ _
        replace hT : Has we gt 25 #[.slice oa' (k + 1) oq', .slice none 0 0, .bool false] := by rw [hwe]; exact hTa.put 0 (.slice oa' (k + 1) oq')
        have hme : Moved (fun j => j = gt ∨ W4.heap.size ≤ j) wl we := (hma.mono (fun _ e => .inr e)).trans hmt (fun _ e => .inl (.inl e))
        replace hI := hI.moved hme (fun e => by have := HN.out; rcases e with e | e <;> omega)
        replace hR := hR.moved hme (fun e => by have := HN.out; rcases e with e | e <;> omega)
        replace hV := hV.keep HGS.out hme (fun k e => by have := HN.out; rcases e with e | e <;> omega)
        replace hb := hb.trans (hme.below (fun j e => by have := HN.out; rcases e with e | e <;> omega) hb.size)
        replace ho := ho2.moved hmt (fun j hj e => by have e2 : j = gt := e; have := ho2.lt j hj; have := HN.out; omega)
        have hLn := HNL.out
        rw [← hX] at hLn
        rw [← hLn] at ho
        rw [← HNS.out] at hV
        rw [← HNF.out]
        clear hLn hwe hmt hme hma hTa ca la ct cw ho2 hg2 hl2 lG
        go_wp2
        go_roundw
        case rel => exact ⟨k + 1, pn.2, ra, rn, rc, rb, oa', oq', by omega, by go_num, rfl, rfl, hI, hV, hT, ho, hR, hb⟩
        case measure => (simp [intOf]; try omega)
    · have hki : ¬ (k : Int) < (K : Int) := by omega
      obtain rfl : K = k := by omega
      clear hk hlt
      obtain ⟨za, hza⟩ : ∃ x, x = oa := ⟨_, rfl⟩
      obtain ⟨zq, hzq⟩ : ∃ x, x = oq := ⟨_, rfl⟩
      subst hza hzq
      obtain ⟨LS, hLS⟩ : ∃ x, x = (Tx.rdSps s1 true K).2.1 := ⟨_, rfl⟩
      obtain ⟨s2, hs2⟩ : ∃ x, x = (Tx.rdSps s1 true K).1 := ⟨_, rfl⟩
      obtain ⟨okA, hokA⟩ : ∃ x, x = (Tx.rdSps s1 true K).2.2 := ⟨_, rfl⟩
      have HGS := Lib.hid (show Tx.Gs l s2 by rw [hs2]; exact Tx.Gs.sps hGs0 true K)
      rw [← hLS] at ho
      rw [← hs2] at hV
      rw [← hokA]
      have hS1a : s1 = (Pk.rdCount (some l) 8).1 := by rw [HS1.out.1, HPpa.out]
      have hS1b : K = (Pk.rdCount (some l) 8).2.toNat := by rw [← HPpa.out, HS1.out.2]; rfl
      have HA := Lib.hid (show LS = (Tx.rdA l).2.1 ∧ s2 = (Tx.rdA l).1 ∧ okA = (Tx.rdA l).2.2 ∧ LS.length = K from ⟨by rw [hLS, hS1a, hS1b]; rfl, by rw [hs2, hS1a, hS1b]; rfl, by rw [hokA, hS1a, hS1b]; rfl, by rw [hLS]; exact (Tx.sps_flag s1 true K).2.2⟩)
      clear hLS hs2 hokA hS1a hS1b hGs0
      obtain ⟨pb, hpb⟩ : ∃ x, x = Pk.rdCount s2 8 := ⟨_, rfl⟩
      have HPpb := Lib.hid hpb
      clear hpb
      have HG1 := Lib.hid (show Tx.Gs l pb.1 by rw [HPpb.out]; exact HGS.out.count 8)
      have lI := hI.load_agg (P := Try.prog) (t := 79) Try.underlying79 rfl (by kernel_rfl)
      go_upto_region 18 with (first
        | (refine wpList_store_mid rfl 79 (.tmp 4) (.tmp 69) rfl gi 0 #[.slice ra rn rc, .bool rb] rfl rfl (hI2.there 0 2 (Nat.le_refl _)) (RdS.in_size _ _) (RdS.in_one _ _ rfl rfl) ?_; obtain ⟨wnpb, hwn⟩ : ∃ x, x = wc.setCells gi 0 (#[.slice ra rn rc, .bool rb] : Array Value).toList := ⟨_, rfl⟩; rw [← hwn]; have hmn : Moved (fun k => k = gi) wc wnpb := (by rw [hwn]; exact Moved.putAll (F := fun k => k = gi) (.inl rfl) _ 0 (Moved.refl _ _)); replace hI : Has wnpb gi 79 #[.slice ra rn rc, .bool rb] := (by rw [hwn]; exact hI2.whole_cs rfl); replace hV := hvn.keep (HG1.out) hmn (fun k e => by have e2 : k = gi := e; have := HN.out; omega); replace hT := (hT.under hbc hT.lt).moved hmn (fun e => by have e2 : _ = gi := e; have := HN.out; omega); replace hR := (hR.under hbc hR.lt).moved hmn (fun e => by have e2 : _ = gi := e; have := HN.out; omega); replace ho := (ho.below hbc).moved hmn (fun k hk e => by have e2 : k = gi := e; have := ho.lt k hk; have := HN.out; omega); have hbn : Below w.heap.size w wnpb := (by rw [hwn]; exact below_setAll (by have := HN.out; omega) _ 0 (hb.trans (hbc.mono hb.size))); replace hb := hbn; replace HGS := Lib.hid (HG1.out); clear hwn hmn hbn hvn hbc hI2 lI)
        | (go_at_call 41; refine (RdS.rreadCount_any _ _ 8 (by omega) (by omega) HGS.out.2 _ hV).mono ?_; rw [← HPpb.out]; rintro e wc ⟨⟨vn, rfl, hvn⟩, hbc⟩; have hvn' := hvn; obtain ⟨ra, rn, rc, rb, rfl, HRB⟩ := hvn'.cellsH; clear HRB hvn'; have hI2 := hI.under hbc hI.lt)
        | (refine wpList_load_run rfl 79 (.tmp 4) rfl _ _ rfl lI ?_))
      have hk08 := Tx.rdCount_le s2 8 (by omega)
      rw [← HPpb.out] at hk08
      obtain ⟨k08, k88⟩ := hk08
      obtain ⟨s4, hs4⟩ : ∃ s, s = pb.1 := ⟨_, rfl⟩
      obtain ⟨M, hM⟩ : ∃ M : Nat, pb.2 = M := ⟨pb.2.toNat, by omega⟩
      rw [hM] at k88 k08 ⊢
      rw [← hs4] at hV HGS
      have HS4 := Lib.hid (show s4 = (Pk.rdCount (Tx.rdA l).1 8).1 ∧ M = (Pk.rdCount (Tx.rdA l).1 8).2.toNat from ⟨by rw [hs4, HPpb.out, HA.out.2.1], by rw [← HA.out.2.1, ← HPpb.out, hM]; rfl⟩)
      clear hs4 hM HG1 k08
      have hoS := ho
      clear ho
      have ho : OwnR coRec 56 W4.heap.size wnpb (.slice none 0 0) [] := OwnR.nil _ _ _ _
      go_wp2
      go_loopw [6, 7, 11] (fun okv xv kv wr => ∃ (k : Nat) (y : BitVec 64) (sa : Option Addr) (sn sc : Nat) (sb : Bool) (oa : Option Addr) (oq : Nat), k ≤ M ∧ kv = .int .i64 k ∧ okv = .bool (Tx.rdCos s4 okA k).2.2 ∧ xv = .int .u64 (nb64 y) ∧ Has wr gi 79 #[.slice sa sn sc, .bool sb] ∧ RdS.InS (Tx.Src l w.heap.size) wr (Tx.rdCos s4 okA k).1 (.agg #[.slice sa sn sc, .bool sb]) ∧ Has wr gt 25 #[.slice za K zq, .slice oa k oq, .bool false] ∧ OwnR coRec 56 W4.heap.size wr (.slice oa k oq) (Tx.rdCos s4 okA k).2.1 ∧ OwnR spRec 54 W4.heap.size wr (.slice za K zq) LS ∧ Has wr g2 25 zTx ∧ Below w.heap.size w wr) (fun _ _ kv _ => M - (intOf kv).toNat)
      case atStart => exact ⟨0, y, ra, rn, rc, rb, none, 0, Nat.zero_le _, rfl, rfl, rfl, hI, hV, hT, ho, hoS, hR, hb⟩
      case round =>
        have hGs0 := HGS.out
        clear hI hV hT ho hoS hR hb HGS
        obtain ⟨k, y, sa, sn, sc, sb, oa, oq, hk, rfl, rfl, rfl, hI, hV, hT, ho, hoS, hR, hb⟩ := hrel
        by_cases hlt : k < M
        · have hki : (k : Int) < (M : Int) := by omega
          have hk0 : (0 : Int) ≤ (k : Int) := by omega
          obtain ⟨s, hs⟩ : ∃ s, s = (Tx.rdCos s4 okA k).1 := ⟨_, rfl⟩
          obtain ⟨L0, hL0⟩ : ∃ s, s = (Tx.rdCos s4 okA k).2.1 := ⟨_, rfl⟩
          obtain ⟨ok, hok⟩ : ∃ s, s = (Tx.rdCos s4 okA k).2.2 := ⟨_, rfl⟩
          have HGS := Lib.hid (show Tx.Gs l s by rw [hs]; exact Tx.Gs.cos hGs0 okA k)
          rw [← hs] at hV
          rw [← hL0] at ho
          rw [← hok]
          have HSK := Lib.hid (And.intro hs (And.intro hL0 hok))
          clear hs hL0 hok hGs0
          obtain ⟨pv, hpv⟩ : ∃ x, x = Pk.rdNum s 8 := ⟨_, rfl⟩
          have HPpv := Lib.hid hpv
          clear hpv
          obtain ⟨pl, hpl⟩ : ∃ x, x = Pk.rdNum pv.1 8 := ⟨_, rfl⟩
          have HPpl := Lib.hid hpl
          clear hpl
          obtain ⟨vi, hvi⟩ : ∃ v, v = pv.2.toInt := ⟨_, rfl⟩
          have hwd : IntKind.i64.wrap (nb64 pv.2) = vi := by rw [hvi]; exact word_int _
          have HVB := Lib.hid (show -9223372036854775808 ≤ vi ∧ vi < 9223372036854775808 by
            have h1 := BitVec.toInt_lt (x := pv.2)
            have h2 := BitVec.le_toInt (x := pv.2)
            rw [hvi]
            omega)
          have HNEXT := Lib.hid (show Tx.rdCos s4 okA (k + 1) = (pl.1, L0 ++ [⟨vi, pl.2⟩], ok && decide (Am.Good vi)) by rw [hvi]; exact Tx.cos_next HSK.out HPpv.out HPpl.out)
          clear hvi
          have HG1 := Lib.hid (show Tx.Gs l pv.1 by rw [HPpv.out]; exact HGS.out.num 8)
          have HG2 := Lib.hid (show Tx.Gs l pl.1 by rw [HPpl.out]; exact HG1.out.num 8)
          go_upto_region 22 with fail
          obtain ⟨w9, hw9⟩ : ∃ x, x = wr.alloc (.cells #[.int .i64 0, .int .u64 0] 56) := ⟨_, rfl⟩
          have hb9 : Below wr.heap.size wr w9 := by rw [hw9]; exact (Below.refl _ _).alloc (Nat.le_refl _) _
          have hG : Has w9 wr.heap.size 56 #[.int .i64 0, .int .u64 0] := by rw [hw9]; exact Has.fresh _ _ _
          rw [← hw9]
          clear hw9
          obtain ⟨g10, hg10⟩ : ∃ g, g = wr.heap.size := ⟨_, rfl⟩
          rw [← hg10] at hG ⊢
          have HO := Lib.hid (show ∀ j, (Value.slice oa k oq).ownBlock = some j → j < g10 from fun j hj => by have := ho.lt_size j hj; omega)
          have HOS := Lib.hid (show ∀ j, (Value.slice za K zq).ownBlock = some j → j < g10 from fun j hj => by have := hoS.lt_size j hj; omega)
          have HN0 := HN
          have HN := Lib.hid (show g2 = w.heap.size ∧ gi = w.heap.size + 1 ∧ gt = w.heap.size + 2 ∧ W4.heap.size = w.heap.size + 3 ∧ gi < g10 ∧ gt < g10 ∧ g2 < g10 from ⟨HN0.out.1, HN0.out.2.1, HN0.out.2.2.1, HN0.out.2.2.2, by have := hI.lt; omega, by have := hT.lt; omega, by have := hR.lt; omega⟩)
          clear HN0
          replace hI := hI.under hb9 hI.lt
          replace hT := hT.under hb9 hT.lt
          replace hR := hR.under hb9 hR.lt
          replace hV := hV.below hb9
          replace ho := ho.below hb9
          replace hoS := hoS.below hb9
          replace hb := hb.trans (hb9.mono hb.size)
          clear hb9 hg10
          have lI := hI.load_agg (P := Try.prog) (t := 79) Try.underlying79 rfl (by kernel_rfl)
          go_upto_region 23 with (first
            | (refine wpList_store_mid rfl 79 (.tmp 4) (.tmp 80) rfl gi 0 #[.slice ra rn rc, .bool rb] rfl rfl (hI2.there 0 2 (Nat.le_refl _)) (RdS.in_size _ _) (RdS.in_one _ _ rfl rfl) ?_; obtain ⟨wnpv, hwn⟩ : ∃ x, x = wc.setCells gi 0 (#[.slice ra rn rc, .bool rb] : Array Value).toList := ⟨_, rfl⟩; rw [← hwn]; have hmn : Moved (fun k => k = gi) wc wnpv := (by rw [hwn]; exact Moved.putAll (F := fun k => k = gi) (.inl rfl) _ 0 (Moved.refl _ _)); replace hI : Has wnpv gi 79 #[.slice ra rn rc, .bool rb] := (by rw [hwn]; exact hI2.whole_cs rfl); replace hV := hvn.keep (HG1.out) hmn (fun k e => by have e2 : k = gi := e; have := HN.out; omega); replace hT := (hT.under hbc hT.lt).moved hmn (fun e => by have e2 : _ = gi := e; have := HN.out; omega); replace hR := (hR.under hbc hR.lt).moved hmn (fun e => by have e2 : _ = gi := e; have := HN.out; omega); replace hG := (hG.under hbc hG.lt).moved hmn (fun e => by have e2 : _ = gi := e; have := HN.out; omega); replace ho := (ho.below hbc).moved hmn (fun k hk e => by have e2 : k = gi := e; have := ho.lt k hk; have := HN.out; omega); replace hoS := (hoS.below hbc).moved hmn (fun k hk e => by have e2 : k = gi := e; have := hoS.lt k hk; have := HN.out; omega); have hbn : Below w.heap.size w wnpv := (by rw [hwn]; exact below_setAll (by have := HN.out; omega) _ 0 (hb.trans (hbc.mono hb.size))); replace hb := hbn; replace HGS := Lib.hid (HG1.out); clear hwn hmn hbn hvn hbc hI2 lI)
            | (go_at_call 43; refine (RdS.rreadNum_any _ _ 8 _ hV).mono ?_; rw [← HPpv.out]; rintro e wc ⟨⟨vn, rfl, hvn⟩, hbc⟩; have hvn' := hvn; obtain ⟨ra, rn, rc, rb, rfl, HRB⟩ := hvn'.cellsH; clear HRB hvn'; have hI2 := hI.under hbc hI.lt)
            | (refine wpList_load_run rfl 79 (.tmp 4) rfl _ _ rfl lI ?_))
          have c0 : wnpv.cell? ⟨g10, 0, none⟩ = some (.int .i64 0) := hG.cell_at rfl
          have l0 := hG.loose 0
          go_upto_region 24 with fail
          clear c0 l0 hwd
          obtain ⟨wm, hwx⟩ : ∃ x, x = wnpv.setCell ⟨g10, 0, none⟩ (.int .i64 vi) := ⟨_, rfl⟩
          rw [← hwx]
          have hmx : Moved (fun k => k = g10) wnpv wm := (by rw [hwx]; exact Moved.put (F := fun k => k = g10) (Moved.refl _ _) (.inl rfl) _ _)
          have hgx := hG.put 0 (.int .i64 vi)
          rw [← hwx] at hgx
          replace hG := hgx
          clear hgx
          replace hI := hI.moved hmx (fun e => by have e2 : gi = g10 := e; have := HN.out; omega)
          replace hV := hV.keep HGS.out hmx (fun k e => by have e2 : k = g10 := e; have := HN.out; omega)
          replace hT := hT.moved hmx (fun e => by have e2 : _ = g10 := e; have := HN.out; omega)
          replace hR := hR.moved hmx (fun e => by have e2 : _ = g10 := e; have := HN.out; omega)
          replace ho := ho.moved hmx (fun k hk e => by have e2 : k = g10 := e; have := HO.out k hk; omega)
          replace hoS := hoS.moved hmx (fun k hk e => by have e2 : k = g10 := e; have := HOS.out k hk; omega)
          replace hb : Below w.heap.size w wm := (by rw [hwx]; exact hb.setCell (p := ⟨g10, _, none⟩) (by have := HN.out; show w.heap.size ≤ g10; omega) _)
          clear hwx hmx
          have c0 : wm.cell? ⟨g10, 0, none⟩ = some (.int .i64 vi) := hG.cell_at rfl
          obtain ⟨gb, hgb⟩ : ∃ b : Bool, b = true ↔ Am.Good vi := ⟨decide (Am.Good vi), by simp⟩
          have hgd : decide (Am.Good vi) = gb := by rw [Bool.eq_iff_iff, decide_eq_true_iff, hgb]
          have HGB := Lib.hid (And.intro hgb hgd)
          clear hgb hgd
          go_upto_region 24 with fail
          go_cut [6] from 85 to 90 (fun vo wx => vo = .bool (ok && gb) ∧ wx = wm)
          case first =>
            cases ok
            · go_wp2_with fail
              go_meet
              case rel => exact ⟨rfl, rfl⟩
            · go_wp2_with (go_at_call 45; refine (agood_any vi gb HGB.out.1 wm).mono ?_; rintro e wq ⟨rfl, rfl⟩)
              go_meet
              case rel => exact ⟨congrArg Value.bool (Bool.true_and gb).symm, rfl⟩
          case rest =>
            obtain ⟨rfl, hwc⟩ := hcut
            rw [hwc]
            clear hwc
            clear c0
            have lI := hI.load_agg (P := Try.prog) (t := 79) Try.underlying79 rfl (by kernel_rfl)
            go_upto_region 26 with (first
              | (refine wpList_store_mid rfl 79 (.tmp 4) (.tmp 94) rfl gi 0 #[.slice ra rn rc, .bool rb] rfl rfl (hI2.there 0 2 (Nat.le_refl _)) (RdS.in_size _ _) (RdS.in_one _ _ rfl rfl) ?_; obtain ⟨wnpl, hwn⟩ : ∃ x, x = wc.setCells gi 0 (#[.slice ra rn rc, .bool rb] : Array Value).toList := ⟨_, rfl⟩; rw [← hwn]; have hmn : Moved (fun k => k = gi) wc wnpl := (by rw [hwn]; exact Moved.putAll (F := fun k => k = gi) (.inl rfl) _ 0 (Moved.refl _ _)); replace hI : Has wnpl gi 79 #[.slice ra rn rc, .bool rb] := (by rw [hwn]; exact hI2.whole_cs rfl); replace hV := hvn.keep (HG2.out) hmn (fun k e => by have e2 : k = gi := e; have := HN.out; omega); replace hT := (hT.under hbc hT.lt).moved hmn (fun e => by have e2 : _ = gi := e; have := HN.out; omega); replace hR := (hR.under hbc hR.lt).moved hmn (fun e => by have e2 : _ = gi := e; have := HN.out; omega); replace hG := (hG.under hbc hG.lt).moved hmn (fun e => by have e2 : _ = gi := e; have := HN.out; omega); replace ho := (ho.below hbc).moved hmn (fun k hk e => by have e2 : k = gi := e; have := ho.lt k hk; have := HN.out; omega); replace hoS := (hoS.below hbc).moved hmn (fun k hk e => by have e2 : k = gi := e; have := hoS.lt k hk; have := HN.out; omega); have hbn : Below w.heap.size w wnpl := (by rw [hwn]; exact below_setAll (by have := HN.out; omega) _ 0 (hb.trans (hbc.mono hb.size))); replace hb := hbn; replace HGS := Lib.hid (HG2.out); clear hwn hmn hbn hvn hbc hI2 lI; have c1 : wnpl.cell? ⟨g10, 1, none⟩ = some (.int .u64 0) := hG.cell_at rfl; have l1 := hG.loose 1)
              | (go_at_call 43; refine (RdS.rreadNum_any _ _ 8 _ hV).mono ?_; rw [← HPpl.out]; rintro e wc ⟨⟨vn, rfl, hvn⟩, hbc⟩; have hvn' := hvn; obtain ⟨ra, rn, rc, rb, rfl, HRB⟩ := hvn'.cellsH; clear HRB hvn'; have hI2 := hI.under hbc hI.lt)
              | (refine wpList_load_run rfl 79 (.tmp 4) rfl _ _ rfl lI ?_))
            clear c1 l1
            obtain ⟨wl, hwx⟩ : ∃ x, x = wnpl.setCell ⟨g10, 1, none⟩ (.int .u64 (nb64 pl.2)) := ⟨_, rfl⟩
            rw [← hwx]
            have hmx : Moved (fun k => k = g10) wnpl wl := (by rw [hwx]; exact Moved.put (F := fun k => k = g10) (Moved.refl _ _) (.inl rfl) _ _)
            have hgx := hG.put 1 (.int .u64 (nb64 pl.2))
            rw [← hwx] at hgx
            replace hG := hgx
            clear hgx
            replace hI := hI.moved hmx (fun e => by have e2 : gi = g10 := e; have := HN.out; omega)
            replace hV := hV.keep HGS.out hmx (fun k e => by have e2 : k = g10 := e; have := HN.out; omega)
            replace hT := hT.moved hmx (fun e => by have e2 : _ = g10 := e; have := HN.out; omega)
            replace hR := hR.moved hmx (fun e => by have e2 : _ = g10 := e; have := HN.out; omega)
            replace ho := ho.moved hmx (fun k hk e => by have e2 : k = g10 := e; have := HO.out k hk; omega)
            replace hoS := hoS.moved hmx (fun k hk e => by have e2 : k = g10 := e; have := HOS.out k hk; omega)
            replace hb : Below w.heap.size w wl := (by rw [hwx]; exact hb.setCell (p := ⟨g10, _, none⟩) (by have := HN.out; show w.heap.size ≤ g10; omega) _)
            clear hwx hmx
            have HLL := Lib.hid (show L0.length = k by rw [HSK.out.2.1]; exact (Tx.cos_flag s4 okA k).2.2)
            have HNL := Lib.hid (show (Tx.rdCos s4 okA (k + 1)).2.1 = L0 ++ [⟨vi, pl.2⟩] by rw [HNEXT.out])
            have HNS := Lib.hid (show (Tx.rdCos s4 okA (k + 1)).1 = pl.1 by rw [HNEXT.out])
            have HNF := Lib.hid (show (Tx.rdCos s4 okA (k + 1)).2.2 = (ok && gb) by rw [HNEXT.out, HGB.out.2])
            obtain ⟨X, hX⟩ : ∃ X : Tx.Co, X = (⟨vi, pl.2⟩) := ⟨_, rfl⟩
            have hokX : coRec.ok X := by rw [hX]; exact HVB.out
            obtain ⟨cs, hcs⟩ : ∃ cs : Array Value, cs = (coCells X).toArray := ⟨_, rfl⟩
            replace hG : Has wl g10 56 cs := by rw [hcs, hX]; exact hG
            have HC := Lib.hid (show cs.size = coRec.k ∧ coRec.ok X ∧ cs = (coRec.cells X).toArray ∧ L0.length = k from ⟨by rw [hcs, List.size_toArray]; exact coRec.len X hokX, hokX, hcs, HLL.out⟩)
            have lG := hG.load_agg (P := Try.prog) (t := 56) Try.underlying56 rfl (by rw [HC.out.1]; kernel_rfl)
            clear hcs hokX
            have ct : (wl.alloc (.cells cs 56)).cell? ⟨gt, 1, none⟩ = some (.slice oa k oq) := (hT.past _).cell_at rfl
            have cw : wl.cell? ⟨gt, 1, none⟩ = some (.slice oa k oq) := hT.cell_at rfl
            go_upto_region 20 with (first
              | (at_builtin; refine wpList_append_recs (R := coRec) rfl (.tmp 98) (.tmp 100) 23 rfl 56 Try.underlying23 info_coin rfl (by decide) W4.heap.size _ L0 rfl (ho.below ((Below.refl _ _).alloc (Nat.le_refl _) _)) (some ⟨wl.heap.size, 0, none⟩) 1 1 [X] rfl (recs_one HC.out.2.1 HC.out.2.2.1) (fun e => by cases e) (by have := HC.out.2.2.2; omega) (by have := HN.out; have := hG.lt; simp; omega) ?_; intro va wa ho2 hg2 hl2; obtain ⟨oa', oq', rfl, _⟩ := ho2.shape (K := k + 1) (by rw [List.length_append, HC.out.2.2.2]; rfl); have hma : Moved (fun j => W4.heap.size ≤ j) wl wa := (Moved.of_below ((Below.refl _ _).alloc (Nat.le_refl _) _)).trans (Moved.of_grown (F := fun j => W4.heap.size ≤ j) hg2 (fun j e => ho.lt j e)) (fun _ e => .inl e); have hTa := hT.moved hma (fun e => by have e2 : W4.heap.size ≤ gt := e; have := HN.out; omega); have ca : wa.cell? ⟨gt, 1, none⟩ = some (.slice oa k oq) := hTa.cell_at rfl; have la := hTa.loose 1)
              | (refine wpList_build_row rfl (.tmp 99) 23 rfl 56 Try.underlying23 info_coin (by decide) (by decide) cs HC.out.1 rfl ?_)
              | (refine wpList_load_run rfl 56 (.tmp 12) rfl _ _ rfl lG ?_))
            obtain ⟨we, hwe⟩ : ∃ x, x = wa.setCell ⟨gt, 1, none⟩ (.slice oa' (k + 1) oq') := ⟨_, rfl⟩
            rw [← hwe]
            have hmt : Moved (fun j => j = gt) wa we := by rw [hwe]; exact Moved.put (F := fun j => j = gt) (Moved.refl _ _) (.inl rfl) _ _
            replace hT : Has we gt 25 #[.slice za K zq, .slice oa' (k + 1) oq', .bool false] := by rw [hwe]; exact hTa.put 1 (.slice oa' (k + 1) oq')
            have hme : Moved (fun j => j = gt ∨ W4.heap.size ≤ j) wl we := (hma.mono (fun _ e => .inr e)).trans hmt (fun _ e => .inl (.inl e))
            replace hI := hI.moved hme (fun e => by have := HN.out; rcases e with e | e <;> omega)
            replace hR := hR.moved hme (fun e => by have := HN.out; rcases e with e | e <;> omega)
            replace hV := hV.keep HGS.out hme (fun k e => by have := HN.out; rcases e with e | e <;> omega)
            replace hb := hb.trans (hme.below (fun j e => by have := HN.out; rcases e with e | e <;> omega) hb.size)
            have ho_old := ho
            replace ho := ho2.moved hmt (fun j hj e => by have e2 : j = gt := e; have := ho2.lt j hj; have := HN.out; omega)
            replace hoS := ((hoS.below ((Below.refl _ _).alloc (Nat.le_refl _) (.cells cs 56))).moved (Moved.of_grown (F := fun j => (Value.slice oa k oq).ownBlock = some j) hg2 (fun _ e => e)) (fun j hj e => own_ne (by decide) (hoS.below ((Below.refl _ _).alloc (Nat.le_refl _) (.cells cs 56))) (ho_old.below ((Below.refl _ _).alloc (Nat.le_refl _) (.cells cs 56))) hj e)).moved hmt (fun j hj e => by have e2 : j = gt := e; have := hoS.lt j hj; have := HN.out; omega)
            have hLn := HNL.out
            rw [← hX] at hLn
            rw [← hLn] at ho
            rw [← HNS.out] at hV
            rw [← HNF.out]
            clear hLn hwe hmt hme hma hTa ca la ct cw ho2 hg2 hl2 lG
            go_wp2
            go_roundw
            case rel => exact ⟨k + 1, pv.2, ra, rn, rc, rb, oa', oq', by omega, by go_num, rfl, rfl, hI, hV, hT, ho, hoS, hR, hb⟩
            case measure => (simp [intOf]; try omega)
        · have hki : ¬ (k : Int) < (M : Int) := by omega
          obtain rfl : k = M := by omega
          clear hk hlt
          obtain ⟨LC, hLC⟩ : ∃ x, x = (Tx.rdCos s4 okA k).2.1 := ⟨_, rfl⟩
          obtain ⟨s5, hs5⟩ : ∃ x, x = (Tx.rdCos s4 okA k).1 := ⟨_, rfl⟩
          obtain ⟨okB, hokB⟩ : ∃ x, x = (Tx.rdCos s4 okA k).2.2 := ⟨_, rfl⟩
          have HGS := Lib.hid (show Tx.Gs l s5 by rw [hs5]; exact Tx.Gs.cos hGs0 okA k)
          rw [← hLC] at ho
          rw [← hs5] at hV
          rw [← hokB]
          have HB2 := Lib.hid (show LC = (Tx.rdB l).2.1 ∧ s5 = (Tx.rdB l).1 ∧ okB = (Tx.rdB l).2.2 from ⟨by rw [hLC, HS4.out.1, HS4.out.2, HA.out.2.2.1]; rfl, by rw [hs5, HS4.out.1, HS4.out.2, HA.out.2.2.1]; rfl, by rw [hokB, HS4.out.1, HS4.out.2, HA.out.2.2.1]; rfl⟩)
          clear hLC hs5 hokB hGs0
          obtain ⟨pf, hpf⟩ : ∃ x, x = Pk.rdNum s5 1 := ⟨_, rfl⟩
          have HPpf := Lib.hid hpf
          clear hpf
          have HF := Lib.hid (show pf = Tx.rdF l by rw [HPpf.out, HB2.out.2.1]; rfl)
          have HGF := Lib.hid (show Tx.Gs l pf.1 by rw [HPpf.out]; exact HGS.out.num 1)
          have HV := Lib.hid (show Tx.rdOk l ↔ (okB = true ∧ pf.2.toNat ≤ 1 ∧ Pk.atEnd pf.1 = true) by rw [HB2.out.2.2, HF.out]; rfl)
          have lI := hI.load_agg (P := Try.prog) (t := 79) Try.underlying79 rfl (by kernel_rfl)
          go_upto_region 28 with (first
            | (refine wpList_store_mid rfl 79 (.tmp 4) (.tmp 106) rfl gi 0 #[.slice ra rn rc, .bool rb] rfl rfl (hI2.there 0 2 (Nat.le_refl _)) (RdS.in_size _ _) (RdS.in_one _ _ rfl rfl) ?_; obtain ⟨wnpf, hwn⟩ : ∃ x, x = wc.setCells gi 0 (#[.slice ra rn rc, .bool rb] : Array Value).toList := ⟨_, rfl⟩; rw [← hwn]; have hmn : Moved (fun k => k = gi) wc wnpf := (by rw [hwn]; exact Moved.putAll (F := fun k => k = gi) (.inl rfl) _ 0 (Moved.refl _ _)); replace hI : Has wnpf gi 79 #[.slice ra rn rc, .bool rb] := (by rw [hwn]; exact hI2.whole_cs rfl); replace hV := hvn.keep (HGF.out) hmn (fun k e => by have e2 : k = gi := e; have := HN.out; omega); replace hT := (hT.under hbc hT.lt).moved hmn (fun e => by have e2 : _ = gi := e; have := HN.out; omega); replace hR := (hR.under hbc hR.lt).moved hmn (fun e => by have e2 : _ = gi := e; have := HN.out; omega); replace ho := (ho.below hbc).moved hmn (fun k hk e => by have e2 : k = gi := e; have := ho.lt k hk; have := HN.out; omega); replace hoS := (hoS.below hbc).moved hmn (fun k hk e => by have e2 : k = gi := e; have := hoS.lt k hk; have := HN.out; omega); have hbn : Below w.heap.size w wnpf := (by rw [hwn]; exact below_setAll (by have := HN.out; omega) _ 0 (hb.trans (hbc.mono hb.size))); replace hb := hbn; replace HGS := Lib.hid (HGF.out); clear hwn hmn hbn hvn hbc hI2 lI)
            | (go_at_call 43; refine (RdS.rreadNum_any _ _ 1 _ hV).mono ?_; rw [← HPpf.out]; rintro e wc ⟨⟨vn, rfl, hvn⟩, hbc⟩; have hvn' := hvn; obtain ⟨ra, rn, rc, rb, rfl, HRB⟩ := hvn'.cellsH; clear HRB hvn'; have hI2 := hI.under hbc hI.lt)
            | (refine wpList_load_run rfl 79 (.tmp 4) rfl _ _ rfl lI ?_))
          obtain ⟨fb, hfb⟩ : ∃ b : Bool, b = decide (pf.2 = 1#64) := ⟨_, rfl⟩
          have HT := Lib.hid (show Tx.rdT l = ⟨LS, LC, fb⟩ by rw [Tx.rdT, hfb, HA.out.1, HB2.out.1, HF.out])
          obtain ⟨y, hy⟩ : ∃ y : Int, y = nb64 pf.2 := ⟨_, rfl⟩
          rw [← hy]
          have hyf : (y == 1) = fb := by
            rw [hfb, hy, Bool.eq_iff_iff, beq_iff_eq, decide_eq_true_iff]
            constructor
            · intro e
              apply BitVec.eq_of_toNat_eq
              have e2 : (pf.2.toNat : Int) = 1 := e
              show pf.2.toNat = 1
              omega
            · intro e
              rw [e]
              rfl
          have HY := Lib.hid (show y = (pf.2.toNat : Int) from hy)
          clear hfb hy
          have cg : wnpf.cell? ⟨gt, 2, none⟩ = some (.bool false) := hT.cell_at rfl
          have lg := hT.loose 2
          go_upto_region 29 with fail
          clear cg lg hyf
          obtain ⟨w9, hw9⟩ : ∃ x, x = wnpf.setCell ⟨gt, 2, none⟩ (.bool fb) := ⟨_, rfl⟩
          rw [← hw9]
          have hm9 : Moved (fun j => j = gt) wnpf w9 := by rw [hw9]; exact Moved.put (F := fun j => j = gt) (Moved.refl _ _) (.inl rfl) _ _
          replace hT : Has w9 gt 25 #[.slice za K zq, .slice oa k oq, .bool fb] := by rw [hw9]; exact hT.put 2 (.bool fb)
          replace hI := hI.moved hm9 (fun e => by have e2 : gi = gt := e; have := HN.out; omega)
          replace hV := hV.keep HGS.out hm9 (fun j e => by have e2 : j = gt := e; have := HN.out; omega)
          replace hR := hR.moved hm9 (fun e => by have e2 : g2 = gt := e; have := HN.out; omega)
          replace ho := ho.moved hm9 (fun j hj e => by have e2 : j = gt := e; have := ho.lt j hj; have := HN.out; omega)
          replace hoS := hoS.moved hm9 (fun j hj e => by have e2 : j = gt := e; have := hoS.lt j hj; have := HN.out; omega)
          replace hb := hb.trans (hm9.below (fun j e => by have e2 : j = gt := e; have := HN.out; omega) hb.size)
          clear hw9 hm9
          have ci0 : w9.cell? ⟨gi, 0, none⟩ = some (.slice ra rn rc) := hI.cell_at rfl
          have ci1 : w9.cell? ⟨gi, 1, none⟩ = some (.bool rb) := hI.cell_at rfl
          obtain ⟨ae, hae⟩ : ∃ b : Bool, Pk.atEnd pf.1 = b := ⟨_, rfl⟩
          have HAE := Lib.hid hae
          clear hae
          cases okB
          · go_upto_region 30 with fail
            have HE := Lib.hid (show ¬ Tx.rdOk l from fun h => by have h9 := (HV.out.1 h).1; cases h9)
            have hRZ := hR
            go_wp2_with (refine wpList_store_mid rfl 25 (.tmp 2) (.tmp 122) rfl g2 0 zTx rfl rfl (hRZ.there 0 3 (Nat.le_refl _)) (by kernel_rfl) (vRec.all_one ⟨none, 0, 0, none, 0, 0, ⟨[], [], false⟩⟩) ?_)
            obtain ⟨wZ, hwZ⟩ : ∃ x, x = w9.setCells g2 0 [.slice none 0 0, .slice none 0 0, .bool false] := ⟨_, rfl⟩
            have hE : Has wZ g2 25 zTx := by rw [hwZ]; exact hRZ.whole_cs (cs2 := zTx) rfl
            rw [← hwZ]
            refine bodyPost_ret (results_cell_slot rfl _ _ g2 rfl _ _ (hE.load_var Try.underlying25 rfl (by kernel_rfl)) rfl) rfl ⟨none, 0, 0, none, 0, 0, ?_, ?_, ?_⟩
            · rw [decide_eq_false HE.out, Tx.rdV, if_neg HE.out]
              rfl
            · rw [Tx.rdV, if_neg HE.out]
              exact ⟨OwnR.nil _ _ _ _, OwnR.nil _ _ _ _⟩
            · rw [hwZ]
              exact below_setAll (by have := HN.out; omega) _ 0 (hb)
          · by_cases hy1 : 1 < y
            · go_upto_region 30 with fail
              have HE := Lib.hid (show ¬ Tx.rdOk l from fun h => by have h9 := (HV.out.1 h).2.1; have := HY.out; omega)
              have hRZ := hR
              go_wp2_with (refine wpList_store_mid rfl 25 (.tmp 2) (.tmp 122) rfl g2 0 zTx rfl rfl (hRZ.there 0 3 (Nat.le_refl _)) (by kernel_rfl) (vRec.all_one ⟨none, 0, 0, none, 0, 0, ⟨[], [], false⟩⟩) ?_)
              obtain ⟨wZ, hwZ⟩ : ∃ x, x = w9.setCells g2 0 [.slice none 0 0, .slice none 0 0, .bool false] := ⟨_, rfl⟩
              have hE : Has wZ g2 25 zTx := by rw [hwZ]; exact hRZ.whole_cs (cs2 := zTx) rfl
              rw [← hwZ]
              refine bodyPost_ret (results_cell_slot rfl _ _ g2 rfl _ _ (hE.load_var Try.underlying25 rfl (by kernel_rfl)) rfl) rfl ⟨none, 0, 0, none, 0, 0, ?_, ?_, ?_⟩
              · rw [decide_eq_false HE.out, Tx.rdV, if_neg HE.out]
                rfl
              · rw [Tx.rdV, if_neg HE.out]
                exact ⟨OwnR.nil _ _ _ _, OwnR.nil _ _ _ _⟩
              · rw [hwZ]
                exact below_setAll (by have := HN.out; omega) _ 0 (hb)
            · cases ae
              · go_upto_region 30 with (first
                | (go_at_call 46; refine (RdS.rend_any _ _ w9 hV).mono ?_; rw [HAE.out]; rintro e wB ⟨rfl, hbB⟩))
                have HE := Lib.hid (show ¬ Tx.rdOk l from fun h => by have h9 := (HV.out.1 h).2.2; rw [HAE.out] at h9; cases h9)
                have hRZ := hR.under hbB hR.lt
                go_wp2_with (refine wpList_store_mid rfl 25 (.tmp 2) (.tmp 122) rfl g2 0 zTx rfl rfl (hRZ.there 0 3 (Nat.le_refl _)) (by kernel_rfl) (vRec.all_one ⟨none, 0, 0, none, 0, 0, ⟨[], [], false⟩⟩) ?_)
                obtain ⟨wZ, hwZ⟩ : ∃ x, x = wB.setCells g2 0 [.slice none 0 0, .slice none 0 0, .bool false] := ⟨_, rfl⟩
                have hE : Has wZ g2 25 zTx := by rw [hwZ]; exact hRZ.whole_cs (cs2 := zTx) rfl
                rw [← hwZ]
                refine bodyPost_ret (results_cell_slot rfl _ _ g2 rfl _ _ (hE.load_var Try.underlying25 rfl (by kernel_rfl)) rfl) rfl ⟨none, 0, 0, none, 0, 0, ?_, ?_, ?_⟩
                · rw [decide_eq_false HE.out, Tx.rdV, if_neg HE.out]
                  rfl
                · rw [Tx.rdV, if_neg HE.out]
                  exact ⟨OwnR.nil _ _ _ _, OwnR.nil _ _ _ _⟩
                · rw [hwZ]
                  exact below_setAll (by have := HN.out; omega) _ 0 (hb.trans (hbB.mono hb.size))
              · have HG := Lib.hid (show Tx.rdOk l from HV.out.2 ⟨rfl, by have := HY.out; omega, HAE.out⟩)
                go_upto_region 31 with (first
                | (go_at_call 46; refine (RdS.rend_any _ _ w9 hV).mono ?_; rw [HAE.out]; rintro e wB ⟨rfl, hbB⟩))
                have hTZ := hT.under hbB hT.lt
                have hRZ := hR.under hbB hR.lt
                have lT := hTZ.load_agg (P := Try.prog) (t := 25) Try.underlying25 rfl (by kernel_rfl)
                go_wp2_with (first
                  | (refine wpList_store_mid rfl 25 (.tmp 2) (.tmp 123) rfl g2 0 #[.slice za K zq, .slice oa k oq, .bool fb] rfl rfl (hRZ.there 0 3 (Nat.le_refl _)) (by kernel_rfl) (vRec.all_one ⟨za, K, zq, oa, k, oq, ⟨[], [], fb⟩⟩) ?_)
                  | (refine wpList_load_run rfl 25 (.tmp 5) rfl _ _ rfl lT ?_))
                obtain ⟨wZ, hwZ⟩ : ∃ x, x = wB.setCells g2 0 [.slice za K zq, .slice oa k oq, .bool fb] := ⟨_, rfl⟩
                have hE : Has wZ g2 25 #[.slice za K zq, .slice oa k oq, .bool fb] := by rw [hwZ]; exact hRZ.whole_cs (cs2 := #[.slice za K zq, .slice oa k oq, .bool fb]) rfl
                have hmZ : Moved (fun j => j = g2) wB wZ := by rw [hwZ]; exact Moved.putAll (F := fun j => j = g2) (.inl rfl) _ 0 (Moved.refl _ _)
                have hZS := (hoS.below hbB).moved hmZ (fun j hj e => by have e2 : j = g2 := e; have := hoS.lt j hj; have := HN.out; omega)
                have hZC := (ho.below hbB).moved hmZ (fun j hj e => by have e2 : j = g2 := e; have := ho.lt j hj; have := HN.out; omega)
                have hlo : w.heap.size ≤ W4.heap.size := by have := HN.out; omega
                rw [← hwZ]
                refine bodyPost_ret (results_cell_slot rfl _ _ g2 rfl _ _ (hE.load_var Try.underlying25 rfl (by kernel_rfl)) rfl) rfl ⟨za, K, zq, oa, k, oq, ?_, ?_, ?_⟩
                · rw [decide_eq_true HG.out, Tx.rdV, if_pos HG.out, HT.out]
                  rfl
                · rw [Tx.rdV, if_pos HG.out, HT.out]
                  exact ⟨hZS.low hlo, hZC.low hlo⟩
                · rw [hwZ]
                  exact below_setAll (by have := HN.out; omega) _ 0 (hb.trans (hbB.mono hb.size))
end Go.Proofs.Ytpbijcchdjppmaa
