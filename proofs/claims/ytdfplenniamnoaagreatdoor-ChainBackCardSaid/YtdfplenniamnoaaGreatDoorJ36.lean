/- ChainBack (mkchs.py) -/
import Derived.Test.YtdfplenniamnoaaGreatDoorJ34
import Derived.Test.YtdfplenniamnoaaGreatDoorJ35
/-! ChainBack (mkchs.py) -/
namespace Go.Proofs.YtdfplenniamnoaaGreatDoor
open Go Go.RowKit Go.ChangeShapes Go.WideShapes
theorem Ch.lkAt_snoc (X : List Ch.L) (l : Ch.L) : Ch.lkAt (X ++ [l]) ((X.length : Int) + 1) = (l, true) := by
  unfold Ch.lkAt
  rw [if_pos ⟨by omega, by rw [List.length_append]; simp⟩, show ((X.length : Int) + 1 - 1).toNat = X.length by omega, List.getD_eq_getElem?_getD, List.getElem?_append_right (Nat.le_refl _), Nat.sub_self]
  rfl
theorem Ch.tipOf_snoc (X : List Ch.L) (l : Ch.L) : Ch.tipOf (X ++ [l]) = Ch.idOf l.b.prev l.b.h (Ch.tsOf l.b.vs) := Ch.tipOf_last (by rw [List.length_append]; simp)
theorem Cs.chain_det {M0 : Cs.Mp} : ∀ {us : List (Tx.T × List Tx.Co)} {M N : Cs.Mp}, Cs.Chain M0 us M → Cs.Chain M0 us N → ∀ q, Cs.look M q = Cs.look N q
  | [], _, _, h, k, q => (h q).trans (k q).symm
  | x :: us, M, N, ⟨K1, h1, _, h3, _⟩, ⟨K2, k1, _, k3, _⟩, q => by
    have hd := Cs.chain_det h1 k1
    rw [h3 q, k3 q, hd q]
theorem SetB.keys {w : World} {g b : Nat} {M : Cs.Mp} (h : SetB w g b M) : Cs.Keys M := by
  obtain ⟨es, clock, _, _, h1, _⟩ := h.map
  exact h1
theorem small_same {vs us : List Tx.V} (he : Ch.tsOf vs = Ch.tsOf us) (h : ∀ v, v ∈ us → Tx.Small v.t) : ∀ v, v ∈ vs → Tx.Small v.t := fun v hv => by
  have h1 : v.t ∈ Ch.tsOf vs := by unfold Ch.tsOf; exact List.mem_map_of_mem hv
  rw [he] at h1
  unfold Ch.tsOf at h1
  obtain ⟨u, hu, e⟩ := List.mem_map.1 h1
  rw [← e]
  exact h u hu
theorem con_len {M M' : Cs.Mp} {X X' : List Ch.L} {b : Ch.B} (hk : Cs.Keys M) (hk' : Cs.Keys M') (hs : ∀ x, x ∈ b.vs → Tx.Small x.t) (hn : b.vs.length = b.n)
    (hok : Ch.conE M X b.prev b.h (Ch.tsOf b.vs) = 0 → ∃ l : Ch.L, X' = X ++ [l] ∧ l.b.prev = b.prev ∧ l.b.h = b.h ∧ Ch.tsOf l.b.vs = Ch.tsOf b.vs ∧ Ch.csOf l.ss = Ch.spN M (Ch.tsOf b.vs) b.n ∧ M' = Ch.doN M (Ch.tsOf b.vs) b.n)
    (hno : ¬ Ch.conE M X b.prev b.h (Ch.tsOf b.vs) = 0 → X' = X ∧ ∀ q, Cs.look M' q = Cs.look M q) : X'.length ≤ X.length + 1 ∧ M'.length ≤ M.length + 1800 := by
  by_cases h0 : Ch.conE M X b.prev b.h (Ch.tsOf b.vs) = 0
  · obtain ⟨l, rfl, _, _, _, _, rfl⟩ := hok h0
    have h1 := (Ch.con_parts h0).1
    rw [Ch.tsOf_len, hn] at h1
    have h2 := Ch.doN_len (M := M) (ts := Ch.tsOf b.vs) (fun t ht => by
      unfold Ch.tsOf at ht
      obtain ⟨v, hv, rfl⟩ := List.mem_map.1 ht
      exact (hs v hv).2.1) b.n
    refine ⟨by rw [List.length_append]; exact Nat.le_refl _, by omega⟩
  · obtain ⟨rfl, h2⟩ := hno h0
    have := (Cs.perm_of_look hk' hk h2).length_eq
    exact ⟨by omega, by omega⟩
/-- append(own, records...), by the bytes -/
theorem wpList_append_recs_by {α : Type} {R : Rec α} {P : Program} {w : World} {ops : Array Oper} {rest : List Oper} {o : Oper} {a : Act} {Q : Exit → Act → World → Prop} (hgd : o.guard = none) (s x : Operand) (t : TypeId)
    (ho : o.op = .call { callee := .builtin .append, args := #[s, x], argTypes := #[t, t] })
    (T : TypeId) (ht : P.underlying t = some (.slice T)) {z : Value} {by_ : Nat} (hinfo : (P.info? T).map (fun i => (i.zero, i.size, i.bytes)) = some (some z, R.k, by_)) (hzk : z.cells.size = R.k)
    (B : Nat) (v : Value) (L : List α) (hs : a.eval s = v) (hown : OwnR R T B w v L) (ad : Option Addr) (m c : Nat) (M : List α) (hx : a.eval x = .slice ad m c) (hw : Recs R w ad m M) (hc : ad = none → c = 0)
    (hmx : L.length + m ≤ maxLen) (hbb : (L.length + m) * by_ ≤ 140737488355328) (hbase : B ≤ w.heap.size)
    (h : ∀ v' w', OwnR R T B w' v' (L ++ M) → w.grownBy w' v.ownBlock → wpList P ops Q rest (a.put o.dst v') w') : wpList P ops Q (o :: rest) a w :=
  wpList_plain hgd fun K hK => by
    obtain ⟨i0, hi, hz0, hz1, hz2⟩ := info_parts hinfo
    rcases ad with _ | ad
    · obtain ⟨hM, hm, hall, hcell⟩ := hw
      have h0 : m = 0 := by
        rcases Nat.eq_zero_or_pos m with h0 | h0
        · exact h0
        · obtain ⟨_, e, _⟩ := hcell 0 _ (List.getElem?_eq_getElem (by omega))
          cases e
      subst h0
      obtain rfl := List.length_eq_zero_iff.1 hM
      obtain rfl := hc rfl
      have hrun := run_append_owned_none (P := P) (w := w) B t o.type T i0 R.k ht hi v _ _ hown.2
      unfold Oper.wp
      simp [execOp, ho, resolve, invoke, builtin, hs, hx, hrun, Result.andThen]
      exact hK _ _ (h v w (by simpa using hown) (World.grownBy.refl w _))
    · have hf := hw.flat
      obtain ⟨hM, hm, hall, hcell⟩ := hw
      obtain ⟨v', w', hr, h2, h3, _, h5⟩ := run_append_own_at (P := P) w B t o.type T i0 z R.k by_ ht hi hz0 hz1 hz2 hzk R.pos v _ _ hown.2 ad m c (R.row M) (by rw [R.row_len hall, hM]) hf (R.row_one _) hmx hbb hbase
      unfold Oper.wp execOp
      simp only [ho, resolve, invoke, builtin, Sem.run_bind, Sem.run_pure, Result.andThen_ok, List.map_toArray, List.map_cons, List.map_nil, hs, hx, hr]
      exact hK _ _ (h v' w' (OwnR.all hown.1 hall hM h2) h3)
theorem built_last (c : Option Addr) (k l : Nat) (vs : List Tx.V) : Tryz.prog.built 81 [(1, .slice c k l)] = some (ac13Cells ⟨0, c, k, l, vs, ⟨List.replicate 32 0#8, 0, none, 0, 0, []⟩⟩).toArray := by kernel_rfl
theorem last_at {W : World} {c : Option Addr} {k l : Nat} {vs : List Tx.V} (ht : Txs W c k vs) (hkl : k ≤ l ∧ (c = none → l = 0)) : Ch.Ac.At W ⟨0, c, k, l, vs, ⟨List.replicate 32 0#8, 0, none, 0, 0, []⟩⟩ :=
  ⟨(show (-9223372036854775808 : Int) ≤ 0 ∧ (0 : Int) < 9223372036854775808 by decide), ht, hkl, ⟨by simp, (show (-9223372036854775808 : Int) ≤ 0 ∧ (0 : Int) < 9223372036854775808 by decide), ⟨recs_none _ _, (fun _ h => by cases h)⟩, ⟨Nat.le_refl _, fun _ => rfl⟩⟩⟩
set_option maxRecDepth 100000 in
set_option maxHeartbeats 8000000 in
theorem chbackMain {W : World} (a : Option Addr) (n q : Nat) (L : List Cs.Hv) (b : Option Addr) (m r : Nat) (K : List Ch.Ac) (c : Option Addr) (k l : Nat) (vs : List Tx.V) (h : Recs hvRec W a n L) (hk : Recs (ac13In W) W b m K) (hmr : m ≤ r ∧ (b = none → r = 0)) (ht : Txs W c k vs) (hkl : k ≤ l ∧ (c = none → l = 0)) (hsz : m * 96 ≤ 140737488355328) (hK : KDg W) :
    Calls Tryz.prog 6 #[.slice a n q, .slice b m r, .slice c k l] W fun e w' => e = .returned (.bool true) ∧ Below W.heap.size W w' := by
  have HH := Lib.hid h
  have HKK := Lib.hid hk
  have HMR := Lib.hid (And.intro hmr hkl)
  have HT := Lib.hid ht
  have HSZ := Lib.hid hsz
  have HK := Lib.hid hK
  have HBU := fun (w : World) => run_build (P := Tryz.prog) w 81 #[(1, .slice c k l)] (ac13Cells ⟨0, c, k, l, vs, ⟨List.replicate 32 0#8, 0, none, 0, 0, []⟩⟩).toArray (built_last c k l vs)
  have HLA := Lib.hid (last_at ht hkl)
  have hmmx : m ≤ 9223372036854775807 := hk.2.1
  have hnmx : n ≤ 9223372036854775807 := h.2.1
  obtain ⟨Z, hZ⟩ : ∃ Z : Ch.Ac, Z = ⟨0, c, k, l, vs, ⟨List.replicate 32 0#8, 0, none, 0, 0, []⟩⟩ := ⟨_, rfl⟩
  rw [← hZ] at HLA HBU
  have HZ := Lib.hid hZ
  clear h hk hmr ht hkl hsz hK hZ
  go_enter Tryz.func6, Tryz.ntmps6
  go_upto_region 3 with (go_at_call 27; refine (alive13 W HK.out).mono ?_; rintro e w1 ⟨rfl, hb1⟩)
  go_upto_region 7 with (first
    | (go_at_call 29; have hblf : bl = false := by first | rfl | assumption | simp_all
       have HLG := Lib.hid (hlong hblf); have HT5 := Lib.hid (hb1.trans ((hb4.trans (hb5.mono hb4.size)).mono hb1.size)); refine (set13_any a n q L w5 (HH.out.below HT5.out) (by have := HLG.out.1; omega)).mono ?_; rintro e w6 ⟨sg0, sb0, M0, xa, xn, xq, ml, rfl, hSP⟩; have HSP := Lib.hid hSP; clear hSP)
    | (go_at_call 30; refine (pchnew_any HSP.out.s HSP.out.gd).mono ?_; rintro e w7 ⟨g, sg, sb, F0, rfl, hC0, hb7⟩)
    | (go_at_call 28; refine (long13_any (W := W) a n q _ _ _ (K ++ [Z]) w4 hnmx hrz (hb1.trans (hb4.mono hb1.size))).mono ?_; rintro e w5 ⟨bl, rfl, hlong, hb5⟩)
    | (at_builtin; refine wpList_append_rec_one (R := ac13In W) rfl (.tmp 29) (.tmp 32) 68 rfl 81 Tryz.underlying68 (info_act13 W) (by kernel_rfl) w1.heap.size v2 K rfl (ho2.below ((Below.refl _ _).alloc (Nat.le_refl _) _)) ⟨w2.heap.size, 0, none⟩ 1 Z rfl (recs_one' HLA.out (by rw [HZ.out]; rfl)) (by have e3 : K.length = m := HKK.out.1; have := HSZ.out; rw [e3]; unfold maxLen; omega) (by have e3 : K.length = m := HKK.out.1; rw [e3]; exact HSZ.out) (by decide) (by have := hb2.size; simp; omega) ?_; intro v4 w4 ho4 hg4; have hb4 : Below w1.heap.size w1 w4 := below_own_recs (hb2.alloc hb2.size _) hg4 (fun k e => (ho2.lt_size k e).1); obtain ⟨za, zq, rfl, hzq, hz0, _, hrz⟩ := ho4.shape (show (K ++ [Z]).length = m + 1 by rw [List.length_append]; have e3 : K.length = m := HKK.out.1; rw [e3]; rfl))
    | (at_builtin; have hoE : OwnR (ac13In W) 81 w1.heap.size (w1.alloc (.cells #[] 81)) (.slice (some ⟨w1.heap.size, 0, none⟩) 0 0) [] := OwnR.empty (Nat.le_refl _) (Has.fresh w1 _ _); refine wpList_append_recs_by (R := ac13In W) rfl (.tmp 27) (.tmp 28) 68 rfl 81 Tryz.underlying68 (info_act13 W) (by kernel_rfl) w1.heap.size _ [] rfl hoE b m r K rfl ((HKK.out.below hb1).below ((Below.refl _ _).alloc (Nat.le_refl _) _)) HMR.out.1.2 (by simp; unfold maxLen; omega) (by have := HSZ.out; simp; omega) (by simp) ?_; intro v2 w2 ho2 hg2; rw [List.nil_append] at ho2; have hb2 : Below w1.heap.size w1 w2 := below_own_recs ((Below.refl w1.heap.size w1).alloc (Nat.le_refl _) _) hg2 (fun k e => (hoE.lt_size k e).1)))
  all_goals try (go_ret; exact ⟨rfl, hb1.trans ((hb4.trans (hb5.mono hb4.size)).mono hb1.size)⟩)
  have HM0 := Lib.hid HSP.out.le.2
  have HB7 := Lib.hid (HT5.out.trans ((HSP.out.bl.trans (hb7.mono HSP.out.bl.size)).mono HT5.out.size))
  obtain ⟨D, hD⟩ : ∃ D, D = w6.heap.size := ⟨_, rfl⟩
  have HD := Lib.hid (show W.heap.size ≤ D by have := HT5.out.size; have := HSP.out.bl.size; omega)
  have HD7 := Lib.hid (show D ≤ w7.heap.size by have := hb7.size; omega)
  rw [← hD] at hC0
  have HC0 := Lib.hid hC0
  clear hD hC0 hb7 HSP hb5 hb4 ho4 hg4 hb2 ho2 hg2 hoE hb1 hlong
  go_wp2
  go_loopw [44] (fun iv wr => ∃ (i : Nat) (F G : Nat → Prop) (la : Option Addr) (lq : Nat) (M : Cs.Mp) (X : List Ch.L), i ≤ m ∧ iv = .int .i64 i ∧ RowKit.Hid (ChAt D wr g sg sb F G la lq M0 M X) ∧ X.length ≤ i ∧ M.length ≤ 30 + 1800 * i ∧ Below W.heap.size W wr ∧ D ≤ wr.heap.size) (fun iv _ => m - (intOf iv).toNat)
  case atStart => exact ⟨0, F0, _, none, 0, M0, [], Nat.zero_le _, rfl, HC0, Nat.zero_le _, (by have := HM0.out; have := HLG.out.1; omega), HB7.out, HD7.out⟩
  case round =>
    clear HC0 HB7 HD7
    obtain ⟨i, F, G, la, lq, M, X, hi, rfl, HC, hXl, hMl, hb, hDr⟩ := hrel
    have hm40 : m ≤ 40 := by have e3 : K.length = m := HKK.out.1; have h2 := HLG.out.2.1; rw [List.length_append, e3] at h2; exact Nat.le_trans (Nat.le_add_right _ _) h2
    have HSI := Lib.hid (And.intro hXl hMl)
    clear hXl hMl
    by_cases hlt : i < m
    · have hii : (i : Int) < (m : Int) := by omega
      have hi0 : (0 : Int) ≤ (i : Int) := by omega
      obtain ⟨x, hx⟩ := HKK.out.get hlt
      have hok : x.At W := HKK.out.okay hx
      obtain ⟨y, rfl, _⟩ := HKK.out.2.2.2 i x hx
      have hy := act_load (HKK.out.below hb) hx
      have HOW := Lib.hid hok
      have HFI := Lib.hid (HLG.out.2.2 x (List.mem_append_left _ (List.mem_of_getElem? hx)))
      clear hx hok
      go_upto_region 10 with (first
        | (refine wpList_store_mid rfl 81 (.tmp 11) (.tmp 47) rfl wr.heap.size 0 (ac13Cells x).toArray rfl rfl ((ac13In W).there wr 81 (by kernel_rfl) HOW.out) ((ac13In W).size_eq (size_act13 W) HOW.out) ((ac13In W).all_one x) ?_)
        | (refine wpList_load_run rfl 81 (.tmp 46) rfl _ _ rfl hy ?_))
      obtain ⟨w5b, hw5⟩ : ∃ u, u = (wr.alloc (.cells zAct 81)).setCells wr.heap.size 0 (ac13Cells x) := ⟨_, rfl⟩
      obtain ⟨hG5, hb5⟩ := Rec.new (R := ac13In W) (by kernel_rfl) HOW.out hw5
      rw [← hw5]
      obtain ⟨g4, hg4⟩ : ∃ g, g = wr.heap.size := ⟨_, rfl⟩
      rw [← hg4] at hG5 ⊢
      clear hw5 hy hg4
      have c0 := ac_kind hG5
      have c1 := ac_ts hG5
      have hT5b := hb.trans (hb5.mono hb.size)
      have hD5 : D ≤ w5b.heap.size := by have := hb5.size; omega
      have HC5 := Lib.hid (HC.out.below hb5)
      have HK5 := Lib.hid (HK.out.below hT5b)
      have HAT := Lib.hid (HOW.out.below hT5b)
      have hX5 : X.length ≤ 100000 := by have := HSI.out.1; omega
      clear hG5
      by_cases hkd : x.kind = 0
      · have hkb : (x.kind == 0) = true := by simpa using hkd
        go_upto_region 12 with (first
          | (go_at_call 32; refine (pnext_any HC5.out.lks (by omega) x.a x.n x.q x.vs HAT.out.ts HAT.out.nq HFI.out.sm (by have := HFI.out.n; omega) HK5.out).mono ?_; rintro e w6b ⟨b', rfl, hOw, e1, e2, e3, e4, hb6⟩)
          | (go_at_call 35; refine (pconn_any (HC5.out.below hb6) hX5 b' hOw.at (small_same e4 HFI.out.sm) (HK5.out.below hb6) (by have := hb6.size; omega)).mono ?_; rintro e w7b ⟨F', G', la', lq', M', X', rfl, hC', hm, hF', hG', hok', hno'⟩))
        have hcl := con_len HC.out.s.keys hC'.s.keys (small_same e4 HFI.out.sm) hOw.at.ts.1.1 hok' hno'
        have HC' := Lib.hid hC'
        have hT7b : Below W.heap.size W w7b := (hT5b.trans (hb6.mono hT5b.size)).trans (hm.below (fun j e => by have := (HC5.out.Fl j e).1; have := HD.out; omega) (by have := hT5b.size; have := hb6.size; omega))
        clear hok' hno' hC'
        go_wp2
        go_roundw
        case rel => exact ⟨i + 1, F', G', la', lq', M', X', by omega, by go_num, HC', by have := HSI.out; omega, by have := HSI.out; omega, hT7b, by have := hm.size; have := hb6.size; omega⟩
        case measure => (simp [intOf]; try omega)
      · have hkb : (x.kind == 0) = false := by simpa using hkd
        go_wp2
        go_roundw
        case rel => exact ⟨i + 1, F, G, la, lq, M, X, by omega, by go_num, HC5, by have := HSI.out; omega, by have := HSI.out; omega, hT5b, hD5⟩
        case measure => (simp [intOf]; try omega)
    · have hii : ¬ (i : Int) < (m : Int) := by omega
      obtain rfl : i = m := by omega
      have hii2 : True := trivial
      obtain ⟨T, hT⟩ : ∃ T, T = Ch.tipOf X := ⟨_, rfl⟩
      have HTP := Lib.hid hT
      have HTL := Lib.hid (show T.length = 32 by rw [hT]; exact Ch.tipOf_len X)
      have hX5 : X.length ≤ 100000 := by have := HSI.out.1; omega
      have hM9 : M.length ≤ 1000000000 := by have := HSI.out.2; omega
      have HKr := Lib.hid (HK.out.below hb)
      clear hT
      go_upto_region 14 with (first
        | (refine wpList_store_mid rfl 34 (.tmp 14) (.tmp 63) rfl w4.heap.size 0 (blist T).toArray rfl rfl (haRec.there w4 34 (by kernel_rfl) HTL.out) (haRec.size_eq size_ha HTL.out) (haRec.all_one T) ?_)
        | (go_at_call 44; refine (pcoins_any HC.out).mono ?_; rintro e w2 ⟨rfl, hS2, hb2⟩)
        | (go_at_call 45; refine (pheight_any ((HC.out.below hb2).lks) (by omega)).mono ?_; rintro e w2 ⟨rfl, rfl⟩)
        | (go_at_call 46; refine (ptip_any ((HC.out.below hb2).lks) (by omega) (HKr.out.below hb2)).mono ?_; rw [← HTP.out]; rintro e w4 ⟨rfl, hb4⟩))
      obtain ⟨w5, hw5⟩ : ∃ u, u = (w4.alloc (.cells z32 34)).setCells w4.heap.size 0 (blist T) := ⟨_, rfl⟩
      obtain ⟨hG5, hb5⟩ := Rec.new (R := haRec) (by kernel_rfl) HTL.out hw5
      rw [← hw5]
      obtain ⟨gT, hgT⟩ : ∃ g, g = w4.heap.size := ⟨_, rfl⟩
      rw [← hgT] at hG5 ⊢
      have hb25 : Below w2.heap.size w2 w5 := hb4.trans (hb5.mono hb4.size)
      have hbr5 : Below wr.heap.size wr w5 := hb2.trans (hb25.mono hb2.size)
      have HS5 := Lib.hid (show SetG w5 (.pointer (some ⟨wr.heap.size + 1, 0, none⟩)) (fun j => j = wr.heap.size + 1 ∨ j = wr.heap.size) M from ⟨⟨_, _, rfl, hS2.below hb25, rfl⟩, HC.out.gd⟩)
      have HC5 := Lib.hid (HC.out.below hbr5)
      have hT5b := hb.trans (hbr5.mono hb.size)
      have hD5 : D ≤ w5.heap.size := by have := hbr5.size; omega
      have HFg := Lib.hid (show (∀ j, F j → j ≠ gT ∧ j < wr.heap.size) ∧ gT < w5.heap.size from ⟨fun j e => by have := (HC.out.Fl j e).2; have := hb2.size; have := hb4.size; omega, hG5.lt⟩)
      obtain ⟨ow, how⟩ : ∃ z, z = (Cs.worthT M).1 := ⟨_, rfl⟩
      obtain ⟨oe, hoe⟩ : ∃ z, z = (Cs.worthT M).2 := ⟨_, rfl⟩
      have HWO := Lib.hid (And.intro how hoe)
      have HWR := Lib.hid (coinsOk2.worth HS5.out hM9)
      rw [← how, ← hoe] at HWR
      clear how hoe hw5 hgT hb5 hb4 hS2
      go_upto_region 15 with (go_at_call 20; refine HWR.out.mono ?_; rintro e w6 ⟨rfl, hb6⟩)
      have hT6 := hT5b.trans (hb6.mono hT5b.size)
      have HC6 := Lib.hid (HC5.out.below hb6)
      have HFZ := Lib.hid (HLG.out.2.2 Z (List.mem_append_right _ (List.mem_singleton.2 rfl)))
      have HFV := Lib.hid (show k ≤ 40 ∧ ∀ v, v ∈ vs → Tx.Small v.t by have h1 := HFZ.out.n; have h2 := HFZ.out.sm; rw [HZ.out] at h1 h2; exact ⟨h1, h2⟩)
      clear HFZ
      go_upto_region 16 with (first
        | (refine wpList_store_mid rfl 79 (.tmp 17) (.tmp 71) rfl w7.heap.size 0 (bkCells b').toArray rfl rfl (bkRec.there w7 79 (by kernel_rfl) HBO.out.p) (bkRec.size_eq size_bk HBO.out.p) (bkRec.all_one _) ?_)
        | (go_at_call 32; refine (pnext_any HC6.out.lks (by omega) c k l vs (HT.out.below hT6) HMR.out.2 HFV.out.2 (by have := HFV.out.1; omega) (HK.out.below hT6)).mono ?_; rintro e w7 ⟨b', rfl, hOw, e1, e2, e3, e4, hb7⟩; have HBO := Lib.hid hOw; have HBX := Lib.hid (And.intro e1 (And.intro e2 (And.intro e3 e4))); clear hOw e1 e2 e3 e4))
      obtain ⟨w8, hw8⟩ : ∃ x, x = (w7.alloc (.cells zBk 79)).setCells w7.heap.size 0 (bkCells b') := ⟨_, rfl⟩
      obtain ⟨hG8, hb78⟩ := Rec.new (R := bkRec) (by kernel_rfl) HBO.out.p hw8
      rw [← hw8]
      obtain ⟨gB, hgB⟩ : ∃ x, x = w7.heap.size := ⟨_, rfl⟩
      rw [← hgB] at hG8 ⊢
      have hb68 : Below w6.heap.size w6 w8 := hb7.trans (hb78.mono hb7.size)
      have hT8 := hT6.trans (hb68.mono hT6.size)
      have hD8 : D ≤ w8.heap.size := by have := hb6.size; have := hb68.size; omega
      have HC8 := Lib.hid (HC6.out.below hb68)
      have HBI := Lib.hid (HBO.out.below hb78)
      have HK8 := Lib.hid (HK.out.below hT8)
      have hb58 : Below w5.heap.size w5 w8 := hb6.trans (hb68.mono hb6.size)
      have hG58 := hG5.under hb58 hG5.lt
      have HS8 := Lib.hid (coinsOk2.below HS5.out hb58)
      have HFB := Lib.hid (show (∀ j, F j → j ≠ gB) ∧ (∀ j, F j → j < w6.heap.size) ∧ gB < w8.heap.size ∧ w6.heap.size ≤ w7.heap.size from ⟨fun j e => by have := (HC6.out.Fl j e).2; have := hb7.size; omega, fun j e => (HC6.out.Fl j e).2, hG8.lt, hb7.size⟩)
      have HSM := Lib.hid (small_same HBX.out.2.2.2 HFV.out.2)
      have lB8 := hG8.load_agg (P := Tryz.prog) (t := 79) Tryz.underlying79 rfl (bkRec.size_eq size_bk HBO.out.p)
      obtain ⟨ce, hce⟩ : ∃ z, z = Ch.conE M X b'.prev b'.h (Ch.tsOf b'.vs) := ⟨_, rfl⟩
      have HCE := Lib.hid hce
      clear hw8 hgB hce
      go_upto_region 17 with (first
        | (go_at_call 35; refine (pconn_any HC8.out hX5 b' HBI.out.at HSM.out HK8.out hD8).mono ?_; rintro e w9 ⟨F', G', la', lq', M', X', rfl, hC', hm, hF', hG', hok', hno'⟩; rw [← HCE.out])
        | (refine wpList_load_run rfl 79 (.tmp 17) rfl _ _ rfl lB8 ?_))
      rw [← HCE.out] at hok' hno'
      have HC' := Lib.hid hC'
      have HM := Lib.hid hm
      have HOK := Lib.hid hok'
      have HNO := Lib.hid hno'
      have hT9 : Below W.heap.size W w9 := hT8.trans (hm.below (fun j e => by have := (HC8.out.Fl j e).1; have := HD.out; omega) (by have := hT8.size; omega))
      have HFN := Lib.hid (And.intro hF' hG')
      clear lB8 hC' hm hok' hno' hF' hG'
      have hG9 := hG58.moved HM.out (fun e => (HFg.out.1 _ e).1 rfl)
      have hB9 := hG8.moved HM.out (fun e => HFB.out.1 _ e rfl)
      have HS9 := Lib.hid (coinsOk2.moved HS8.out HM.out (fun j hj e => by have h1 := (HFg.out.1 j e).2; rcases hj with h | h <;> omega))
      by_cases h0 : ce = 0
      · subst h0
        rw [show errn 0 = Value.nilIface from rfl]
        obtain ⟨lk, hXX, hl1, hl2, hl3, hl4, hMM⟩ := HOK.out rfl
        subst hXX
        have HLK := Lib.hid (And.intro hl1 (And.intro hl2 (And.intro hl3 hl4)))
        have HMM := Lib.hid hMM
        have HGD := Lib.hid (Ch.con_parts HCE.out.symm)
        have hbn : b'.vs.length = b'.n := HBI.out.at.ts.1.1
        have hM' : M'.length ≤ 1000000000 := by
          have := (con_len HC8.out.s.keys HC'.out.s.keys HSM.out hbn (fun _ => HOK.out rfl) (fun e => absurd HCE.out.symm e)).2
          have := HSI.out.2
          omega
        have hX7 : (X ++ [lk]).length ≤ 1000000 := by rw [List.length_append]; show X.length + 1 ≤ 1000000; omega
        have hXL : (((X ++ [lk]).length : Nat) : Int) = (X.length : Int) + 1 := by rw [List.length_append]; rfl
        have hwz : IntKind.i64.wrap ((X.length : Int) + 1) = (X.length : Int) + 1 := IntWalk.i64_in _ (by omega)
        obtain ⟨fz, hfz⟩ : ∃ z, z = Ch.feesOf (Ch.tsOf b'.vs) (Ch.spN M (Ch.tsOf b'.vs) b'.n) := ⟨_, rfl⟩
        have HFZ := Lib.hid hfz
        have HFE := Lib.hid (show ∀ wx, Below w9.heap.size w9 wx → Calls Tryz.prog 48 #[.pointer (some ⟨g, 0, none⟩), .int .i64 ((X.length : Int) + 1)] wx fun e w' => e = .returned (.tuple #[.int .i64 fz, .bool true]) ∧ Below wx.heap.size wx w' from fun wx hwx => by
          have := pfees_any (HC'.out.below hwx).lks hX7 ((X.length : Int) + 1) (by omega)
          rw [Ch.lkAt_snoc] at this
          rw [hfz, ← hl4, ← hl3]
          exact this)
        obtain ⟨nw, hnw⟩ : ∃ z, z = (Cs.worthT M').1 := ⟨_, rfl⟩
        obtain ⟨ne, hne⟩ : ∃ z, z = (Cs.worthT M').2 := ⟨_, rfl⟩
        have HNW := Lib.hid (And.intro hnw hne)
        obtain ⟨DD, hDD⟩ : ∃ z, z = Ch.idOf b'.prev b'.h (Ch.tsOf b'.vs) := ⟨_, rfl⟩
        have HDD := Lib.hid hDD
        have HDL := Lib.hid (show DD.length = 32 by rw [hDD]; exact Ch.idOf_len _ _ _)
        clear hl1 hl2 hl3 hl4 hMM hfz hnw hne hDD
        go_upto_region 21 with (first
          | (go_at_call 48; refine (HFE.out w9 (Below.refl _ _)).mono ?_; rintro e w10 ⟨rfl, hb10⟩)
          | (go_at_call 44; refine (pcoins_any (HC'.out.below hb10)).mono ?_; rintro e w11 ⟨rfl, hS11, hb11⟩)
          | (go_at_call 20; refine (coinsOk2.worth (show SetG w11 (.pointer (some ⟨w10.heap.size + 1, 0, none⟩)) _ M' from ⟨⟨_, _, rfl, hS11, rfl⟩, HC'.out.gd⟩) hM').mono ?_; rw [← HNW.out.1, ← HNW.out.2]; rintro e w12 ⟨rfl, hb12⟩))
        have hb912 : Below w9.heap.size w9 w12 := hb10.trans ((hb11.trans (hb12.mono hb11.size)).mono hb10.size)
        obtain ⟨ws, hws⟩ : ∃ u, u = w12.drew := ⟨_, rfl⟩
        have hbs0 : Below w12.heap.size w12 ws := by rw [hws]; exact (Below.refl _ _).drew
        have hbs : Below w9.heap.size w9 ws := hb912.trans (hbs0.mono hb912.size)
        have HCs := Lib.hid (HC'.out.below hbs)
        have HSs := Lib.hid (coinsOk2.below HS9.out hbs)
        have HBs := Lib.hid ((HBI.out.in.moved HM.out (fun j hj e => by have := HFB.out.2.1 j e; have h2 := hj.1; omega)).moved (Moved.of_below hbs) (fun _ _ e => e))
        have hTs := hT9.trans (hbs.mono hT9.size)
        have hBs' := hB9.under hbs hB9.lt
        have hGs' := hG9.under hbs hG9.lt
        have lB := fun (wq : World) (hSw : Held ws wq) => (hBs'.under hSw.below hBs'.lt).load_agg (P := Tryz.prog) (t := 79) Tryz.underlying79 rfl (bkRec.size_eq size_bk HBO.out.p)
        clear hb10 hb11 hb12 hS11 hbs0
        by_cases hgw : Am.Good (Cs.worth M)
        · have hdw := Ch.doN_worth HC8.out.s.keys HC8.out.gd hgw (i := b'.n) (ts := Ch.tsOf b'.vs) (fun j u _ h => HGD.out.2.2.2 j u h) (by rw [Ch.tsOf_len, hbn]; exact Nat.le_refl _)
          rw [List.take_of_length_le (by rw [Ch.tsOf_len, hbn]; exact Nat.le_refl _), ← HMM.out, ← HFZ.out] at hdw
          have e1 : Cs.worthT M = (Cs.worth M, 0) := if_pos hgw
          have e2 : Cs.worthT M' = (Cs.worth M', 0) := if_pos hdw.1
          have hoe : oe = 0 := by rw [HWO.out.2, e1]
          have how : ow = Cs.worth M := by rw [HWO.out.1, e1]
          have hne : ne = 0 := by rw [HNW.out.2, e2]
          have hnw : nw = Cs.worth M' := by rw [HNW.out.1, e2]
          have hws2 : IntKind.i64.wrap (ow - fz) = nw := by
            have h3 : ow - fz = nw := by rw [how, hnw]; exact hdw.2.symm
            rw [h3]
            have h4 := hdw.1
            unfold Am.Good at h4
            exact IntWalk.i64_in _ (by rw [hnw]; omega)
          rw [hoe, hne, show errn 0 = Value.nilIface from rfl]
          clear hdw e1 e2 hoe how hne hnw
          refine wp_region_held_drew (S := Held ws) (by kernel_rfl) (by rw [hws]; exact Held.refl _) (fun hHeld => ?_)
          rw [← hws] at hHeld ⊢
          clear hws
          refine take_at (v := ?_) 0 106 rfl rfl (by kernel_rfl) (by kernel_rfl) (by kernel_rfl) (fun _ _ _ h => h) hHeld (Or.inl ⟨by rfl, ?_⟩) rfl ?_
          rotate_left
          · intro wq hSw
            go_simp
            try with_reducible rfl
          simp only [List.set_cons_zero, List.set_cons_succ]
          refine take_at (v := ?_) 1 107 rfl rfl (by kernel_rfl) (by kernel_rfl) (by kernel_rfl) (fun _ _ _ h => h) hHeld (Or.inl ⟨by rfl, ?_⟩) rfl ?_
          rotate_left
          · intro wq hSw
            go_simp
            try with_reducible rfl
          simp only [List.set_cons_zero, List.set_cons_succ]
          refine take_at (v := ?_) 2 108 rfl rfl (by kernel_rfl) (by kernel_rfl) (by kernel_rfl) (fun _ _ _ h => h) hHeld (Or.inl ⟨by rfl, ?_⟩) rfl ?_
          rotate_left
          · intro wq hSw
            go_simp
            try with_reducible rfl
          simp only [List.set_cons_zero, List.set_cons_succ]
          refine take_at (v := ?_) 3 109 rfl rfl (by kernel_rfl) (by kernel_rfl) (by kernel_rfl) (fun _ _ _ h => h) hHeld (Or.inl ⟨by rfl, ?_⟩) rfl ?_
          rotate_left
          · intro wq hSw
            go_simp
            try with_reducible rfl
          simp only [List.set_cons_zero, List.set_cons_succ]
          refine take_at (v := ?_) 4 110 rfl rfl (by kernel_rfl) (by kernel_rfl) (by kernel_rfl) (fun _ _ _ h => h) hHeld (Or.inl ⟨by rfl, ?_⟩) rfl ?_
          rotate_left
          · intro wq hSw
            go_simp
            try with_reducible rfl
          simp only [List.set_cons_zero, List.set_cons_succ]
          refine take_at (v := ?_) 5 111 rfl rfl (by kernel_rfl) (by kernel_rfl) (by kernel_rfl) (fun _ _ _ h => h) hHeld (Or.inl ⟨by rfl, ?_⟩) rfl ?_
          rotate_left
          · intro wq hSw
            go_simp
            try with_reducible rfl
          simp only [List.set_cons_zero, List.set_cons_succ]
          refine take_at (v := ?_) 6 112 rfl rfl (by kernel_rfl) (by kernel_rfl) (by kernel_rfl) (fun _ _ _ h => h) hHeld (Or.inl ⟨by rfl, ?_⟩) rfl ?_
          rotate_left
          · intro wq hSw
            go_simp
            try with_reducible rfl
          simp only [List.set_cons_zero, List.set_cons_succ]
          refine take_at (v := ?_) 7 113 rfl rfl (by kernel_rfl) (by kernel_rfl) (by kernel_rfl) (fun _ _ _ h => h) hHeld (Or.inl ⟨by rfl, ?_⟩) rfl ?_
          rotate_left
          · intro wq hSw
            go_simp
            try with_reducible rfl
          simp only [List.set_cons_zero, List.set_cons_succ]
          refine take_at (v := ?_) 8 114 rfl rfl (by kernel_rfl) (by kernel_rfl) (by kernel_rfl) (fun _ _ _ h => h) hHeld (Or.inl ⟨by rfl, ?_⟩) rfl ?_
          rotate_left
          · intro wq hSw
            go_simp
            try with_reducible rfl
          simp only [List.set_cons_zero, List.set_cons_succ]
          refine take_at (v := ?_) 9 115 rfl rfl (by kernel_rfl) (by kernel_rfl) (by kernel_rfl) (fun _ _ _ h => h) hHeld (Or.inl ⟨by rfl, ?_⟩) rfl ?_
          rotate_left
          · intro wq hSw
            go_simp
            try with_reducible rfl
          simp only [List.set_cons_zero, List.set_cons_succ]
          refine take_at (v := ?_) 10 116 rfl rfl (by kernel_rfl) (by kernel_rfl) (by kernel_rfl) (fun _ _ _ h => h) hHeld (Or.inl ⟨by rfl, ?_⟩) rfl ?_
          rotate_left
          · intro wq hSw
            go_simp
            try with_reducible rfl
          simp only [List.set_cons_zero, List.set_cons_succ]
          refine take_at (v := ?_) 11 117 rfl rfl (by kernel_rfl) (by kernel_rfl) (by kernel_rfl) (fun _ _ _ h => h) hHeld (Or.inl ⟨by rfl, ?_⟩) rfl ?_
          rotate_left
          · intro wq hSw
            go_simp
            try with_reducible rfl
          simp only [List.set_cons_zero, List.set_cons_succ]
          refine take_at (v := ?_) 12 118 rfl rfl (by kernel_rfl) (by kernel_rfl) (by kernel_rfl) (fun _ _ _ h => h) hHeld (Or.inl ⟨by rfl, ?_⟩) rfl ?_
          rotate_left
          · intro wq hSw
            go_simp
            try with_reducible rfl
          simp only [List.set_cons_zero, List.set_cons_succ]
          refine take_at (v := ?_) 13 119 rfl rfl (by kernel_rfl) (by kernel_rfl) (by kernel_rfl) (fun _ _ _ h => h) hHeld (Or.inl ⟨by rfl, ?_⟩) rfl ?_
          rotate_left
          · intro wq hSw
            go_simp
            try with_reducible rfl
          simp only [List.set_cons_zero, List.set_cons_succ]
          refine take_at (v := ?_) 14 120 rfl rfl (by kernel_rfl) (by kernel_rfl) (by kernel_rfl) (fun _ _ _ h => h) hHeld (Or.inl ⟨by rfl, ?_⟩) rfl ?_
          rotate_left
          · intro wq hSw
            go_simp
            try with_reducible rfl
          simp only [List.set_cons_zero, List.set_cons_succ]
          refine take_at (v := ?_) 15 121 rfl rfl (by kernel_rfl) (by kernel_rfl) (by kernel_rfl) (fun _ _ _ h => h) hHeld (Or.inl ⟨by rfl, ?_⟩) rfl ?_
          rotate_left
          · intro wq hSw
            go_simp
            try with_reducible rfl
          simp only [List.set_cons_zero, List.set_cons_succ]
          refine take_at (v := ?_) 16 122 rfl rfl (by kernel_rfl) (by kernel_rfl) (by kernel_rfl) (fun _ _ _ h => h) hHeld (Or.inl ⟨by rfl, ?_⟩) rfl ?_
          rotate_left
          · intro wq hSw
            go_simp
            try with_reducible rfl
          simp only [List.set_cons_zero, List.set_cons_succ]
          refine take_at (v := ?_) 17 123 rfl rfl (by kernel_rfl) (by kernel_rfl) (by kernel_rfl) (fun _ _ _ h => h) hHeld (Or.inl ⟨by rfl, ?_⟩) rfl ?_
          rotate_left
          · intro wq hSw
            go_simp
            try with_reducible rfl
          simp only [List.set_cons_zero, List.set_cons_succ]
          refine take_at (v := ?_) 18 124 rfl rfl (by kernel_rfl) (by kernel_rfl) (by kernel_rfl) (fun _ _ _ h => h) hHeld (Or.inl ⟨by rfl, ?_⟩) rfl ?_
          rotate_left
          · intro wq hSw
            go_simp
            try with_reducible rfl
          simp only [List.set_cons_zero, List.set_cons_succ]
          refine take_at (v := ?_) 20 126 rfl rfl (by kernel_rfl) (by kernel_rfl) (by kernel_rfl) (fun _ _ _ h => h) hHeld (Or.inl ⟨by rfl, ?_⟩) rfl ?_
          rotate_left
          · intro wq hSw
            go_simp
            try with_reducible rfl
          simp only [List.set_cons_zero, List.set_cons_succ]
          refine take_at (v := ?_) 21 127 rfl rfl (by kernel_rfl) (by kernel_rfl) (by kernel_rfl) (fun _ _ _ h => h) hHeld (Or.inl ⟨by rfl, ?_⟩) rfl ?_
          rotate_left
          · intro wq hSw
            go_simp
            try with_reducible rfl
          simp only [List.set_cons_zero, List.set_cons_succ]
          refine wpAnyH_ready (rs := [19]) (by kernel_rfl) (by simp) ?_
          refine AllReadyH.cons rfl (fun K hK => ?_) AllReadyH.nil
          go_simp
          go_at_call 45
          refine (pheight_any HCs.out.lks hX7).mono ?_
          rw [hXL]
          rintro e ws ⟨rfl, rfl⟩
          refine hK.out _ _ (Held.of (Below.refl ws.heap.size ws)) (fun _ => ?_)
          clear hK K
          try simp only [Act.put, List.setIfInBounds_toArray, List.set_cons_zero, List.set_cons_succ]
          replace hHeld := Held.of (Below.refl ws.heap.size ws)
          refine take_at (v := ?_) 22 128 rfl rfl (by kernel_rfl) (by kernel_rfl) (by kernel_rfl) (fun _ _ _ h => h) hHeld (Or.inl ⟨by rfl, ?_⟩) rfl ?_
          rotate_left
          · intro wq hSw
            go_simp
            try with_reducible rfl
          simp only [List.set_cons_zero, List.set_cons_succ]
          refine take_at (v := ?_) 23 129 rfl rfl (by kernel_rfl) (by kernel_rfl) (by kernel_rfl) (fun _ _ _ h => h) hHeld (Or.inl ⟨by rfl, ?_⟩) rfl ?_
          rotate_left
          · intro wq hSw
            go_simp
            try with_reducible rfl
          simp only [List.set_cons_zero, List.set_cons_succ]
          refine take_at (v := ?_) 24 130 rfl rfl (by kernel_rfl) (by kernel_rfl) (by kernel_rfl) (fun _ _ _ h => h) hHeld (Or.inl ⟨by rfl, ?_⟩) rfl ?_
          rotate_left
          · intro wq hSw
            go_simp
            try with_reducible rfl
          simp only [List.set_cons_zero, List.set_cons_succ]
          refine take_at (v := ?_) 25 131 rfl rfl (by kernel_rfl) (by kernel_rfl) (by kernel_rfl) (fun _ _ _ h => h) hHeld (Or.inl ⟨by rfl, ?_⟩) rfl ?_
          rotate_left
          · intro wq hSw
            go_simp
            try with_reducible rfl
          simp only [List.set_cons_zero, List.set_cons_succ]
          refine take_at 27 133 rfl rfl (by kernel_rfl) (by kernel_rfl) (by kernel_rfl) (fun _ _ _ h => h) hHeld (yieldsIf_load_agg (by rfl) 79 (.tmp 17) rfl _ _ (by rfl) (fun wq hSw => lB wq hSw)) rfl ?_
          simp only [List.set_cons_zero, List.set_cons_succ]
          refine wpAnyH_ready (rs := [26]) (by kernel_rfl) (by simp) ?_
          refine AllReadyH.cons rfl (fun K hK => ?_) AllReadyH.nil
          go_simp
          go_at_call 46
          refine (ptip_any HCs.out.lks hX7 (HK.out.below hTs)).mono ?_
          rw [Ch.tipOf_snoc, HLK.out.1, HLK.out.2.1, HLK.out.2.2.1, ← HDD.out]
          rintro e k1 ⟨rfl, hb11'⟩
          refine hK.out _ _ (Held.of hb11') (fun _ => ?_)
          clear hK K
          try simp only [Act.put, List.setIfInBounds_toArray, List.set_cons_zero, List.set_cons_succ]
          replace hHeld := Held.of hb11'
          refine wpAnyH_ready (rs := [28]) (by kernel_rfl) (by simp) ?_
          refine AllReadyH.cons rfl (fun K hK => ?_) AllReadyH.nil
          go_simp
          go_at_call 40
          refine (pbid_any b' k1 (HBs.out.at.below hb11') HSM.out (by rw [HBX.out.2.2.1]; have := HFV.out.1; show k ≤ 1000; omega) ((HK.out.below hTs).below hb11')).mono ?_
          rw [← HDD.out]
          rintro e k2 ⟨rfl, hb12'⟩
          have hb13 := hb11'.trans (hb12'.mono hb11'.size)
          refine hK.out _ _ (Held.of hb13) (fun _ => ?_)
          clear hK K
          try simp only [Act.put, List.setIfInBounds_toArray, List.set_cons_zero, List.set_cons_succ]
          replace hHeld := Held.of hb13
          refine take_at 29 135 rfl rfl (by kernel_rfl) (by kernel_rfl) (by kernel_rfl) (fun _ _ _ h => h) hHeld (yieldsIf_neq_same (by rfl) 34 5 34 32 (.tmp 132) (.tmp 134) rfl DD (by rfl) (by rfl) (by kernel_rfl) Tryz.underlying34 Tryz.underlying5 (by kernel_rfl) HDL.out) rfl ?_
          simp only [List.set_cons_zero, List.set_cons_succ]
          refine take_at (v := ?_) 30 136 rfl rfl (by kernel_rfl) (by kernel_rfl) (by kernel_rfl) (fun _ _ _ h => h) hHeld (Or.inl ⟨by rfl, ?_⟩) rfl ?_
          rotate_left
          · intro wq hSw
            go_simp
            try with_reducible rfl
          simp only [List.set_cons_zero, List.set_cons_succ]
          refine wpAnyH_done (by kernel_rfl) ?_ _
          have hT13 := hTs.trans (hb13.mono hTs.size)
          have HC13 := Lib.hid (HCs.out.below hb13)
          have hB13 := hBs'.under hb13 hBs'.lt
          have hG13 := hGs'.under hb13 hGs'.lt
          have HS13 := Lib.hid (coinsOk2.below HSs.out hb13)
          have HBI13 := Lib.hid (HBs.out.moved (Moved.of_below hb13) (fun _ _ e => e))
          have hs13 : w8.heap.size ≤ k2.heap.size := by have := hbs.size; have := hb13.size; have := HM.out.size; have := hb912.size; omega
          clear hHeld lB hBs' hGs' HCs HSs HBs
          go_upto_region 24 with (first
            | (refine wpList_store_mid rfl 79 (.tmp 23) (.tmp 140) rfl w14.heap.size 0 (bkCells d).toArray rfl rfl (bkRec.there w14 79 (by kernel_rfl) HOD.out.p) (bkRec.size_eq size_bk HOD.out.p) (bkRec.all_one _) ?_)
            | (go_at_call 38; refine (pdis_any (Y := X) (l := lk) HC13.out hX5 (HK.out.below hT13)).mono ?_; rintro e w14 ⟨F2, G2, la2, M2, d, rfl, hOd, d1, d2, d3, d4, hC14, hm14, hF14, hG14⟩; have HOD := Lib.hid hOd; clear hOd))
          have hT14 : Below W.heap.size W w14 := hT13.trans (hm14.below (fun j e => by have := (HC13.out.Fl j e).1; have := HD.out; omega) (by have := hT13.size; omega))
          have hB14 := hB13.moved hm14 (fun e => (HFN.out.1 _ e).elim (fun e => HFB.out.1 _ e rfl) (fun e => by have := HFB.out.2.2.1; omega))
          have hG14' := hG13.moved hm14 (fun e => (HFN.out.1 _ e).elim (fun e => (HFg.out.1 _ e).1 rfl) (fun e => by have := HFg.out.2; have := hb58.size; omega))
          have HS14 := Lib.hid (coinsOk2.moved HS13.out hm14 (fun j hj e => by
            have h8 := coinsOk2.lt HS8.out j hj
            rcases HFN.out.1 j e with h1 | h1
            · have h1 := (HFg.out.1 j h1).2
              rcases hj with h | h <;> omega
            · omega))
          have HBI14 := Lib.hid (HBI13.out.moved hm14 (fun j hj e => by
            have h2 := hj.1
            have h3 := hj.2
            rcases HFN.out.1 j e with h1 | h1
            · have h1 := HFB.out.2.1 j h1
              omega
            · omega))
          have HC14 := Lib.hid hC14
          have HDE := Lib.hid (show b'.prev = d.prev ∧ b'.h = d.h ∧ Ch.tsOf b'.vs = Ch.tsOf d.vs from ⟨by rw [d1, HLK.out.1], by rw [d2, HLK.out.2.1], by rw [d4, HLK.out.2.2.1]⟩)
          have hdet := Cs.chain_det HC14.out.ch HC.out.ch
          have HDT := Lib.hid (show (∀ q, Cs.look M2 q = Cs.look M q) ∧ M2.length ≤ 1000000000 from ⟨hdet, by rw [(Cs.perm_of_look HC14.out.s.keys HC.out.s.keys hdet).length_eq]; exact hM9⟩)
          clear hm14 hC14 hB13 hG13 HS13 HBI13 hdet d1 d2 d3 d4 hF14 hG14
          obtain ⟨w15, hw15⟩ : ∃ x, x = (w14.alloc (.cells zBk 79)).setCells w14.heap.size 0 (bkCells d) := ⟨_, rfl⟩
          obtain ⟨hE15, hb15⟩ := Rec.new (R := bkRec) (by kernel_rfl) HOD.out.p hw15
          rw [← hw15]
          obtain ⟨gE, hgE⟩ : ∃ x, x = w14.heap.size := ⟨_, rfl⟩
          rw [← hgE] at hE15 ⊢
          clear hw15 hgE
          obtain ⟨ws, hws⟩ : ∃ u, u = w15.drew := ⟨_, rfl⟩
          have hbs9 : Below w15.heap.size w15 ws := by rw [hws]; exact (Below.refl _ _).drew
          have hbs' : Below w14.heap.size w14 ws := hb15.trans (hbs9.mono hb15.size)
          have hTs := hT14.trans (hbs'.mono hT14.size)
          have HCs := Lib.hid (HC14.out.below hbs')
          have HSs := Lib.hid (coinsOk2.below HS14.out hbs')
          have HBs := Lib.hid (HBI14.out.moved (Moved.of_below hbs') (fun _ _ e => e))
          have HDs := Lib.hid (HOD.out.at.below hbs')
          have lB := fun (wq : World) (hSw : Held ws wq) => ((hB14.under hbs' hB14.lt).under hSw.below (hB14.under hbs' hB14.lt).lt).load_agg (P := Tryz.prog) (t := 79) Tryz.underlying79 rfl (bkRec.size_eq size_bk HBO.out.p)
          have lT := fun (wq : World) (hSw : Held ws wq) => ((hG14'.under hbs' hG14'.lt).under hSw.below (hG14'.under hbs' hG14'.lt).lt).load_agg (P := Tryz.prog) (t := 34) Tryz.underlying34 rfl (haRec.size_eq size_ha HTL.out)
          have lE := fun (wq : World) (hSw : Held ws wq) => ((hE15.under hbs9 hE15.lt).under hSw.below (hE15.under hbs9 hE15.lt).lt).load_agg (P := Tryz.prog) (t := 79) Tryz.underlying79 rfl (bkRec.size_eq size_bk HOD.out.p)
          refine wp_region_held_drew (S := Held ws) (by kernel_rfl) (by rw [hws]; exact Held.refl _) (fun hHeld => ?_)
          rw [← hws] at hHeld ⊢
          clear hws
          refine take_at (v := ?_) 0 142 rfl rfl (by kernel_rfl) (by kernel_rfl) (by kernel_rfl) (fun _ _ _ h => h) hHeld (Or.inl ⟨by rfl, ?_⟩) rfl ?_
          rotate_left
          · intro wq hSw
            go_simp
            try with_reducible rfl
          simp only [List.set_cons_zero, List.set_cons_succ]
          refine take_at (v := ?_) 1 143 rfl rfl (by kernel_rfl) (by kernel_rfl) (by kernel_rfl) (fun _ _ _ h => h) hHeld (Or.inl ⟨by rfl, ?_⟩) rfl ?_
          rotate_left
          · intro wq hSw
            go_simp
            try with_reducible rfl
          simp only [List.set_cons_zero, List.set_cons_succ]
          refine take_at (v := ?_) 2 144 rfl rfl (by kernel_rfl) (by kernel_rfl) (by kernel_rfl) (fun _ _ _ h => h) hHeld (Or.inl ⟨by rfl, ?_⟩) rfl ?_
          rotate_left
          · intro wq hSw
            go_simp
            try with_reducible rfl
          simp only [List.set_cons_zero, List.set_cons_succ]
          refine take_at 3 145 rfl rfl (by kernel_rfl) (by kernel_rfl) (by kernel_rfl) (fun _ _ _ h => h) hHeld (yieldsIf_load_agg (by rfl) 79 (.tmp 17) rfl _ _ (by rfl) (fun wq hSw => lB wq hSw)) rfl ?_
          simp only [List.set_cons_zero, List.set_cons_succ]
          refine take_at 4 146 rfl rfl (by kernel_rfl) (by kernel_rfl) (by kernel_rfl) (fun _ _ _ h => h) hHeld (yieldsIf_load_agg (by rfl) 79 (.tmp 23) rfl _ _ (by rfl) (fun wq hSw => lE wq hSw)) rfl ?_
          simp only [List.set_cons_zero, List.set_cons_succ]
          refine wpAnyH_ready (rs := [5]) (by kernel_rfl) (by simp) ?_
          refine AllReadyH.cons rfl (fun K hK => ?_) AllReadyH.nil
          go_simp
          go_at_call 34
          refine (block_same b' d ws HBs.out.at HDs.out HDE.out.1 HDE.out.2.1 HDE.out.2.2).mono ?_
          rintro e k0 ⟨rfl, hk0⟩
          refine hK.out _ _ (Held.of hk0) (fun _ => ?_)
          clear hK K
          try simp only [Act.put, List.setIfInBounds_toArray, List.set_cons_zero, List.set_cons_succ]
          replace hHeld := Held.of hk0
          refine take_at (v := ?_) 6 148 rfl rfl (by kernel_rfl) (by kernel_rfl) (by kernel_rfl) (fun _ _ _ h => h) hHeld (Or.inl ⟨by rfl, ?_⟩) rfl ?_
          rotate_left
          · intro wq hSw
            go_simp
            try with_reducible rfl
          simp only [List.set_cons_zero, List.set_cons_succ]
          refine take_at (v := ?_) 7 149 rfl rfl (by kernel_rfl) (by kernel_rfl) (by kernel_rfl) (fun _ _ _ h => h) hHeld (Or.inl ⟨by rfl, ?_⟩) rfl ?_
          rotate_left
          · intro wq hSw
            go_simp
            try with_reducible rfl
          simp only [List.set_cons_zero, List.set_cons_succ]
          refine take_at (v := ?_) 8 150 rfl rfl (by kernel_rfl) (by kernel_rfl) (by kernel_rfl) (fun _ _ _ h => h) hHeld (Or.inl ⟨by rfl, ?_⟩) rfl ?_
          rotate_left
          · intro wq hSw
            go_simp
            try with_reducible rfl
          simp only [List.set_cons_zero, List.set_cons_succ]
          refine take_at (v := ?_) 10 152 rfl rfl (by kernel_rfl) (by kernel_rfl) (by kernel_rfl) (fun _ _ _ h => h) hHeld (Or.inl ⟨by rfl, ?_⟩) rfl ?_
          rotate_left
          · intro wq hSw
            go_simp
            try with_reducible rfl
          simp only [List.set_cons_zero, List.set_cons_succ]
          refine wpAnyH_ready (rs := [9]) (by kernel_rfl) (by simp) ?_
          refine AllReadyH.cons rfl (fun K hK => ?_) AllReadyH.nil
          go_simp
          go_at_call 45
          refine (pheight_any (HCs.out.below hk0).lks (by omega)).mono ?_
          rintro e k0 ⟨rfl, rfl⟩
          refine hK.out _ _ (Held.of hk0) (fun _ => ?_)
          clear hK K
          try simp only [Act.put, List.setIfInBounds_toArray, List.set_cons_zero, List.set_cons_succ]
          replace hHeld := Held.of hk0
          refine take_at (v := ?_) 11 153 rfl rfl (by kernel_rfl) (by kernel_rfl) (by kernel_rfl) (fun _ _ _ h => h) hHeld (Or.inl ⟨by rfl, ?_⟩) rfl ?_
          rotate_left
          · intro wq hSw
            go_simp
            try with_reducible rfl
          simp only [List.set_cons_zero, List.set_cons_succ]
          refine take_at (v := ?_) 12 154 rfl rfl (by kernel_rfl) (by kernel_rfl) (by kernel_rfl) (fun _ _ _ h => h) hHeld (Or.inl ⟨by rfl, ?_⟩) rfl ?_
          rotate_left
          · intro wq hSw
            go_simp
            try with_reducible rfl
          simp only [List.set_cons_zero, List.set_cons_succ]
          refine take_at (v := ?_) 13 155 rfl rfl (by kernel_rfl) (by kernel_rfl) (by kernel_rfl) (fun _ _ _ h => h) hHeld (Or.inl ⟨by rfl, ?_⟩) rfl ?_
          rotate_left
          · intro wq hSw
            go_simp
            try with_reducible rfl
          simp only [List.set_cons_zero, List.set_cons_succ]
          refine take_at (v := ?_) 14 156 rfl rfl (by kernel_rfl) (by kernel_rfl) (by kernel_rfl) (fun _ _ _ h => h) hHeld (Or.inl ⟨by rfl, ?_⟩) rfl ?_
          rotate_left
          · intro wq hSw
            go_simp
            try with_reducible rfl
          simp only [List.set_cons_zero, List.set_cons_succ]
          refine take_at 16 158 rfl rfl (by kernel_rfl) (by kernel_rfl) (by kernel_rfl) (fun _ _ _ h => h) hHeld (yieldsIf_load_agg (by rfl) 34 (.tmp 14) rfl _ _ (by rfl) (fun wq hSw => lT wq hSw)) rfl ?_
          simp only [List.set_cons_zero, List.set_cons_succ]
          refine wpAnyH_ready (rs := [15]) (by kernel_rfl) (by simp) ?_
          refine AllReadyH.cons rfl (fun K hK => ?_) AllReadyH.nil
          go_simp
          go_at_call 46
          refine (ptip_any (HCs.out.below hk0).lks (by omega) ((HK.out.below hTs).below hk0)).mono ?_
          rw [← HTP.out]
          rintro e k1 ⟨rfl, hk1⟩
          have hk01 := hk0.trans (hk1.mono hk0.size)
          refine hK.out _ _ (Held.of hk01) (fun _ => ?_)
          clear hK K
          try simp only [Act.put, List.setIfInBounds_toArray, List.set_cons_zero, List.set_cons_succ]
          replace hHeld := Held.of hk01
          refine take_at 17 159 rfl rfl (by kernel_rfl) (by kernel_rfl) (by kernel_rfl) (fun _ _ _ h => h) hHeld (yieldsIf_eql_same (by rfl) 34 5 34 32 (.tmp 157) (.tmp 158) rfl T (by rfl) (by rfl) (by kernel_rfl) Tryz.underlying34 Tryz.underlying5 (by kernel_rfl) HTL.out) rfl ?_
          simp only [List.set_cons_zero, List.set_cons_succ]
          refine take_at (v := ?_) 18 160 rfl rfl (by kernel_rfl) (by kernel_rfl) (by kernel_rfl) (fun _ _ _ h => h) hHeld (Or.inl ⟨by rfl, ?_⟩) rfl ?_
          rotate_left
          · intro wq hSw
            go_simp
            try with_reducible rfl
          simp only [List.set_cons_zero, List.set_cons_succ]
          refine take_at (v := ?_) 19 161 rfl rfl (by kernel_rfl) (by kernel_rfl) (by kernel_rfl) (fun _ _ _ h => h) hHeld (Or.inl ⟨by rfl, ?_⟩) rfl ?_
          rotate_left
          · intro wq hSw
            go_simp
            try with_reducible rfl
          simp only [List.set_cons_zero, List.set_cons_succ]
          refine take_at (v := ?_) 20 162 rfl rfl (by kernel_rfl) (by kernel_rfl) (by kernel_rfl) (fun _ _ _ h => h) hHeld (Or.inl ⟨by rfl, ?_⟩) rfl ?_
          rotate_left
          · intro wq hSw
            go_simp
            try with_reducible rfl
          simp only [List.set_cons_zero, List.set_cons_succ]
          refine take_at (v := ?_) 22 164 rfl rfl (by kernel_rfl) (by kernel_rfl) (by kernel_rfl) (fun _ _ _ h => h) hHeld (Or.inl ⟨by rfl, ?_⟩) rfl ?_
          rotate_left
          · intro wq hSw
            go_simp
            try with_reducible rfl
          simp only [List.set_cons_zero, List.set_cons_succ]
          refine wpAnyH_ready (rs := [21]) (by kernel_rfl) (by simp) ?_
          refine AllReadyH.cons rfl (fun K hK => ?_) AllReadyH.nil
          go_simp
          go_at_call 44
          refine (pcoins_any (HCs.out.below hk01)).mono ?_
          rintro e k2 ⟨rfl, hS2, hk2⟩
          have hk02 := hk01.trans (hk2.mono hk01.size)
          refine hK.out _ _ (Held.of hk02) (fun _ => ?_)
          clear hK K
          try simp only [Act.put, List.setIfInBounds_toArray, List.set_cons_zero, List.set_cons_succ]
          replace hHeld := Held.of hk02
          refine wpAnyH_ready (rs := [23]) (by kernel_rfl) (by simp) ?_
          refine AllReadyH.cons rfl (fun K hK => ?_) AllReadyH.nil
          go_simp
          go_at_call 47
          refine (same13 (show SetG k2 (.pointer (some ⟨k1.heap.size + 1, 0, none⟩)) _ _ from ⟨⟨_, _, rfl, hS2, rfl⟩, HC14.out.gd⟩) (coinsOk2.below HSs.out hk02) HDT.out.1 HDT.out.2).mono ?_
          rintro e k3 ⟨rfl, hk3⟩
          have hk03 := hk02.trans (hk3.mono hk02.size)
          refine hK.out _ _ (Held.of hk03) (fun _ => ?_)
          clear hK K
          try simp only [Act.put, List.setIfInBounds_toArray, List.set_cons_zero, List.set_cons_succ]
          replace hHeld := Held.of hk03
          refine take_at (v := ?_) 24 166 rfl rfl (by kernel_rfl) (by kernel_rfl) (by kernel_rfl) (fun _ _ _ h => h) hHeld (Or.inl ⟨by rfl, ?_⟩) rfl ?_
          rotate_left
          · intro wq hSw
            go_simp
            try with_reducible rfl
          simp only [List.set_cons_zero, List.set_cons_succ]
          refine take_at (v := ?_) 25 6 rfl rfl (by kernel_rfl) (by kernel_rfl) (by kernel_rfl) (fun _ _ _ h => h) hHeld (Or.inl ⟨by rfl, ?_⟩) rfl ?_
          rotate_left
          · intro wq hSw
            go_simp
            try with_reducible rfl
          simp only [List.set_cons_zero, List.set_cons_succ]
          refine wpAnyH_done (by kernel_rfl) ?_ _
          go_wp2
          go_ret
          exact ⟨rfl, hTs.trans (hk03.mono hTs.size)⟩
        · have hoe : oe = 9 := by rw [HWO.out.2, show Cs.worthT M = (0, 9) from if_neg hgw]
          rw [hoe, show errn 9 = erro 9 from rfl]
          clear hoe
          refine wp_region_held_drew (S := Held ws) (by kernel_rfl) (by rw [hws]; exact Held.refl _) (fun hHeld => ?_)
          rw [← hws] at hHeld ⊢
          clear hws
          refine take_at (v := ?_) 0 106 rfl rfl (by kernel_rfl) (by kernel_rfl) (by kernel_rfl) (fun _ _ _ h => h) hHeld (Or.inl ⟨by rfl, ?_⟩) rfl ?_
          rotate_left
          · intro wq hSw
            go_simp
            try with_reducible rfl
          simp only [List.set_cons_zero, List.set_cons_succ]
          refine take_at (v := .bool false) 1 107 rfl rfl (by kernel_rfl) (by kernel_rfl) (by kernel_rfl) (fun _ _ _ h => h) hHeld (Or.inl ⟨by rfl, ?_⟩) rfl ?_
          · intro wq hSw
            (go_simp; try rfl)
            skip
          simp only [List.set_cons_zero, List.set_cons_succ]
          refine take_at (v := .bool false) 2 108 rfl rfl (by kernel_rfl) (by kernel_rfl) (by kernel_rfl) (fun _ _ _ h => h) hHeld (Or.inl ⟨by rfl, ?_⟩) rfl ?_
          · intro wq hSw
            go_simp
            try with_reducible rfl
          simp only [List.set_cons_zero, List.set_cons_succ]
          refine take_at (v := undef) 3 109 rfl rfl (by kernel_rfl) (by kernel_rfl) (by kernel_rfl) (fun _ _ _ h => h) hHeld (Or.inr ⟨by rfl, rfl⟩) rfl ?_
          simp only [List.set_cons_zero, List.set_cons_succ]
          refine take_at (v := undef) 4 110 rfl rfl (by kernel_rfl) (by kernel_rfl) (by kernel_rfl) (fun _ _ _ h => h) hHeld (Or.inr ⟨by rfl, rfl⟩) rfl ?_
          simp only [List.set_cons_zero, List.set_cons_succ]
          refine take_at (v := undef) 5 111 rfl rfl (by kernel_rfl) (by kernel_rfl) (by kernel_rfl) (fun _ _ _ h => h) hHeld (Or.inr ⟨by rfl, rfl⟩) rfl ?_
          simp only [List.set_cons_zero, List.set_cons_succ]
          refine take_at (v := undef) 6 112 rfl rfl (by kernel_rfl) (by kernel_rfl) (by kernel_rfl) (fun _ _ _ h => h) hHeld (Or.inr ⟨by rfl, rfl⟩) rfl ?_
          simp only [List.set_cons_zero, List.set_cons_succ]
          refine take_at (v := undef) 7 113 rfl rfl (by kernel_rfl) (by kernel_rfl) (by kernel_rfl) (fun _ _ _ h => h) hHeld (Or.inr ⟨by rfl, rfl⟩) rfl ?_
          simp only [List.set_cons_zero, List.set_cons_succ]
          refine take_at (v := undef) 8 114 rfl rfl (by kernel_rfl) (by kernel_rfl) (by kernel_rfl) (fun _ _ _ h => h) hHeld (Or.inr ⟨by rfl, rfl⟩) rfl ?_
          simp only [List.set_cons_zero, List.set_cons_succ]
          refine take_at (v := undef) 9 115 rfl rfl (by kernel_rfl) (by kernel_rfl) (by kernel_rfl) (fun _ _ _ h => h) hHeld (Or.inr ⟨by rfl, rfl⟩) rfl ?_
          simp only [List.set_cons_zero, List.set_cons_succ]
          refine take_at (v := undef) 10 116 rfl rfl (by kernel_rfl) (by kernel_rfl) (by kernel_rfl) (fun _ _ _ h => h) hHeld (Or.inr ⟨by rfl, rfl⟩) rfl ?_
          simp only [List.set_cons_zero, List.set_cons_succ]
          refine take_at (v := undef) 11 117 rfl rfl (by kernel_rfl) (by kernel_rfl) (by kernel_rfl) (fun _ _ _ h => h) hHeld (Or.inr ⟨by rfl, rfl⟩) rfl ?_
          simp only [List.set_cons_zero, List.set_cons_succ]
          refine take_at (v := undef) 12 118 rfl rfl (by kernel_rfl) (by kernel_rfl) (by kernel_rfl) (fun _ _ _ h => h) hHeld (Or.inr ⟨by rfl, rfl⟩) rfl ?_
          simp only [List.set_cons_zero, List.set_cons_succ]
          refine take_at (v := undef) 13 119 rfl rfl (by kernel_rfl) (by kernel_rfl) (by kernel_rfl) (fun _ _ _ h => h) hHeld (Or.inr ⟨by rfl, rfl⟩) rfl ?_
          simp only [List.set_cons_zero, List.set_cons_succ]
          refine take_at (v := undef) 14 120 rfl rfl (by kernel_rfl) (by kernel_rfl) (by kernel_rfl) (fun _ _ _ h => h) hHeld (Or.inr ⟨by rfl, rfl⟩) rfl ?_
          simp only [List.set_cons_zero, List.set_cons_succ]
          refine take_at (v := undef) 15 121 rfl rfl (by kernel_rfl) (by kernel_rfl) (by kernel_rfl) (fun _ _ _ h => h) hHeld (Or.inr ⟨by rfl, rfl⟩) rfl ?_
          simp only [List.set_cons_zero, List.set_cons_succ]
          refine take_at (v := .bool false) 16 122 rfl rfl (by kernel_rfl) (by kernel_rfl) (by kernel_rfl) (fun _ _ _ h => h) hHeld (Or.inl ⟨by rfl, ?_⟩) rfl ?_
          · intro wq hSw
            go_simp
            try with_reducible rfl
          simp only [List.set_cons_zero, List.set_cons_succ]
          refine take_at (v := ?_) 17 123 rfl rfl (by kernel_rfl) (by kernel_rfl) (by kernel_rfl) (fun _ _ _ h => h) hHeld (Or.inl ⟨by rfl, ?_⟩) rfl ?_
          rotate_left
          · intro wq hSw
            go_simp
            try with_reducible rfl
          simp only [List.set_cons_zero, List.set_cons_succ]
          refine take_at (v := ?_) 18 124 rfl rfl (by kernel_rfl) (by kernel_rfl) (by kernel_rfl) (fun _ _ _ h => h) hHeld (Or.inl ⟨by rfl, ?_⟩) rfl ?_
          rotate_left
          · intro wq hSw
            go_simp
            try with_reducible rfl
          simp only [List.set_cons_zero, List.set_cons_succ]
          refine take_at (v := ?_) 20 126 rfl rfl (by kernel_rfl) (by kernel_rfl) (by kernel_rfl) (fun _ _ _ h => h) hHeld (Or.inl ⟨by rfl, ?_⟩) rfl ?_
          rotate_left
          · intro wq hSw
            go_simp
            try with_reducible rfl
          simp only [List.set_cons_zero, List.set_cons_succ]
          refine take_at (v := ?_) 21 127 rfl rfl (by kernel_rfl) (by kernel_rfl) (by kernel_rfl) (fun _ _ _ h => h) hHeld (Or.inl ⟨by rfl, ?_⟩) rfl ?_
          rotate_left
          · intro wq hSw
            go_simp
            try with_reducible rfl
          simp only [List.set_cons_zero, List.set_cons_succ]
          refine wpAnyH_ready (rs := [19]) (by kernel_rfl) (by simp) ?_
          refine AllReadyH.cons rfl (fun K hK => ?_) AllReadyH.nil
          go_simp
          go_at_call 45
          refine (pheight_any HCs.out.lks hX7).mono ?_
          rw [hXL]
          rintro e ws ⟨rfl, rfl⟩
          refine hK.out _ _ (Held.of (Below.refl ws.heap.size ws)) (fun _ => ?_)
          clear hK K
          try simp only [Act.put, List.setIfInBounds_toArray, List.set_cons_zero, List.set_cons_succ]
          replace hHeld := Held.of (Below.refl ws.heap.size ws)
          refine take_at (v := ?_) 22 128 rfl rfl (by kernel_rfl) (by kernel_rfl) (by kernel_rfl) (fun _ _ _ h => h) hHeld (Or.inl ⟨by rfl, ?_⟩) rfl ?_
          rotate_left
          · intro wq hSw
            go_simp
            try with_reducible rfl
          simp only [List.set_cons_zero, List.set_cons_succ]
          refine take_at (v := ?_) 23 129 rfl rfl (by kernel_rfl) (by kernel_rfl) (by kernel_rfl) (fun _ _ _ h => h) hHeld (Or.inl ⟨by rfl, ?_⟩) rfl ?_
          rotate_left
          · intro wq hSw
            go_simp
            try with_reducible rfl
          simp only [List.set_cons_zero, List.set_cons_succ]
          refine take_at (v := ?_) 24 130 rfl rfl (by kernel_rfl) (by kernel_rfl) (by kernel_rfl) (fun _ _ _ h => h) hHeld (Or.inl ⟨by rfl, ?_⟩) rfl ?_
          rotate_left
          · intro wq hSw
            go_simp
            try with_reducible rfl
          simp only [List.set_cons_zero, List.set_cons_succ]
          refine take_at (v := ?_) 25 131 rfl rfl (by kernel_rfl) (by kernel_rfl) (by kernel_rfl) (fun _ _ _ h => h) hHeld (Or.inl ⟨by rfl, ?_⟩) rfl ?_
          rotate_left
          · intro wq hSw
            go_simp
            try with_reducible rfl
          simp only [List.set_cons_zero, List.set_cons_succ]
          refine take_at 27 133 rfl rfl (by kernel_rfl) (by kernel_rfl) (by kernel_rfl) (fun _ _ _ h => h) hHeld (yieldsIf_load_agg (by rfl) 79 (.tmp 17) rfl _ _ (by rfl) (fun wq hSw => lB wq hSw)) rfl ?_
          simp only [List.set_cons_zero, List.set_cons_succ]
          refine wpAnyH_ready (rs := [26]) (by kernel_rfl) (by simp) ?_
          refine AllReadyH.cons rfl (fun K hK => ?_) AllReadyH.nil
          go_simp
          go_at_call 46
          refine (ptip_any HCs.out.lks hX7 (HK.out.below hTs)).mono ?_
          rw [Ch.tipOf_snoc, HLK.out.1, HLK.out.2.1, HLK.out.2.2.1, ← HDD.out]
          rintro e k1 ⟨rfl, hb11'⟩
          refine hK.out _ _ (Held.of hb11') (fun _ => ?_)
          clear hK K
          try simp only [Act.put, List.setIfInBounds_toArray, List.set_cons_zero, List.set_cons_succ]
          replace hHeld := Held.of hb11'
          refine wpAnyH_ready (rs := [28]) (by kernel_rfl) (by simp) ?_
          refine AllReadyH.cons rfl (fun K hK => ?_) AllReadyH.nil
          go_simp
          go_at_call 40
          refine (pbid_any b' k1 (HBs.out.at.below hb11') HSM.out (by rw [HBX.out.2.2.1]; have := HFV.out.1; show k ≤ 1000; omega) ((HK.out.below hTs).below hb11')).mono ?_
          rw [← HDD.out]
          rintro e k2 ⟨rfl, hb12'⟩
          have hb13 := hb11'.trans (hb12'.mono hb11'.size)
          refine hK.out _ _ (Held.of hb13) (fun _ => ?_)
          clear hK K
          try simp only [Act.put, List.setIfInBounds_toArray, List.set_cons_zero, List.set_cons_succ]
          replace hHeld := Held.of hb13
          refine take_at 29 135 rfl rfl (by kernel_rfl) (by kernel_rfl) (by kernel_rfl) (fun _ _ _ h => h) hHeld (yieldsIf_neq_same (by rfl) 34 5 34 32 (.tmp 132) (.tmp 134) rfl DD (by rfl) (by rfl) (by kernel_rfl) Tryz.underlying34 Tryz.underlying5 (by kernel_rfl) HDL.out) rfl ?_
          simp only [List.set_cons_zero, List.set_cons_succ]
          refine take_at (v := ?_) 30 136 rfl rfl (by kernel_rfl) (by kernel_rfl) (by kernel_rfl) (fun _ _ _ h => h) hHeld (Or.inl ⟨by rfl, ?_⟩) rfl ?_
          rotate_left
          · intro wq hSw
            go_simp
            try with_reducible rfl
          simp only [List.set_cons_zero, List.set_cons_succ]
          refine wpAnyH_done (by kernel_rfl) ?_ _
          have hT13 := hTs.trans (hb13.mono hTs.size)
          have HC13 := Lib.hid (HCs.out.below hb13)
          have hB13 := hBs'.under hb13 hBs'.lt
          have hG13 := hGs'.under hb13 hGs'.lt
          have HS13 := Lib.hid (coinsOk2.below HSs.out hb13)
          have HBI13 := Lib.hid (HBs.out.moved (Moved.of_below hb13) (fun _ _ e => e))
          have hs13 : w8.heap.size ≤ k2.heap.size := by have := hbs.size; have := hb13.size; have := HM.out.size; have := hb912.size; omega
          clear hHeld lB hBs' hGs' HCs HSs HBs
          go_upto_region 24 with (first
            | (refine wpList_store_mid rfl 79 (.tmp 23) (.tmp 140) rfl w14.heap.size 0 (bkCells d).toArray rfl rfl (bkRec.there w14 79 (by kernel_rfl) HOD.out.p) (bkRec.size_eq size_bk HOD.out.p) (bkRec.all_one _) ?_)
            | (go_at_call 38; refine (pdis_any (Y := X) (l := lk) HC13.out hX5 (HK.out.below hT13)).mono ?_; rintro e w14 ⟨F2, G2, la2, M2, d, rfl, hOd, d1, d2, d3, d4, hC14, hm14, hF14, hG14⟩; have HOD := Lib.hid hOd; clear hOd))
          have hT14 : Below W.heap.size W w14 := hT13.trans (hm14.below (fun j e => by have := (HC13.out.Fl j e).1; have := HD.out; omega) (by have := hT13.size; omega))
          have hB14 := hB13.moved hm14 (fun e => (HFN.out.1 _ e).elim (fun e => HFB.out.1 _ e rfl) (fun e => by have := HFB.out.2.2.1; omega))
          have hG14' := hG13.moved hm14 (fun e => (HFN.out.1 _ e).elim (fun e => (HFg.out.1 _ e).1 rfl) (fun e => by have := HFg.out.2; have := hb58.size; omega))
          have HS14 := Lib.hid (coinsOk2.moved HS13.out hm14 (fun j hj e => by
            have h8 := coinsOk2.lt HS8.out j hj
            rcases HFN.out.1 j e with h1 | h1
            · have h1 := (HFg.out.1 j h1).2
              rcases hj with h | h <;> omega
            · omega))
          have HBI14 := Lib.hid (HBI13.out.moved hm14 (fun j hj e => by
            have h2 := hj.1
            have h3 := hj.2
            rcases HFN.out.1 j e with h1 | h1
            · have h1 := HFB.out.2.1 j h1
              omega
            · omega))
          have HC14 := Lib.hid hC14
          have HDE := Lib.hid (show b'.prev = d.prev ∧ b'.h = d.h ∧ Ch.tsOf b'.vs = Ch.tsOf d.vs from ⟨by rw [d1, HLK.out.1], by rw [d2, HLK.out.2.1], by rw [d4, HLK.out.2.2.1]⟩)
          have hdet := Cs.chain_det HC14.out.ch HC.out.ch
          have HDT := Lib.hid (show (∀ q, Cs.look M2 q = Cs.look M q) ∧ M2.length ≤ 1000000000 from ⟨hdet, by rw [(Cs.perm_of_look HC14.out.s.keys HC.out.s.keys hdet).length_eq]; exact hM9⟩)
          clear hm14 hC14 hB13 hG13 HS13 HBI13 hdet d1 d2 d3 d4 hF14 hG14
          obtain ⟨w15, hw15⟩ : ∃ x, x = (w14.alloc (.cells zBk 79)).setCells w14.heap.size 0 (bkCells d) := ⟨_, rfl⟩
          obtain ⟨hE15, hb15⟩ := Rec.new (R := bkRec) (by kernel_rfl) HOD.out.p hw15
          rw [← hw15]
          obtain ⟨gE, hgE⟩ : ∃ x, x = w14.heap.size := ⟨_, rfl⟩
          rw [← hgE] at hE15 ⊢
          clear hw15 hgE
          obtain ⟨ws, hws⟩ : ∃ u, u = w15.drew := ⟨_, rfl⟩
          have hbs9 : Below w15.heap.size w15 ws := by rw [hws]; exact (Below.refl _ _).drew
          have hbs' : Below w14.heap.size w14 ws := hb15.trans (hbs9.mono hb15.size)
          have hTs := hT14.trans (hbs'.mono hT14.size)
          have HCs := Lib.hid (HC14.out.below hbs')
          have HSs := Lib.hid (coinsOk2.below HS14.out hbs')
          have HBs := Lib.hid (HBI14.out.moved (Moved.of_below hbs') (fun _ _ e => e))
          have HDs := Lib.hid (HOD.out.at.below hbs')
          have lB := fun (wq : World) (hSw : Held ws wq) => ((hB14.under hbs' hB14.lt).under hSw.below (hB14.under hbs' hB14.lt).lt).load_agg (P := Tryz.prog) (t := 79) Tryz.underlying79 rfl (bkRec.size_eq size_bk HBO.out.p)
          have lT := fun (wq : World) (hSw : Held ws wq) => ((hG14'.under hbs' hG14'.lt).under hSw.below (hG14'.under hbs' hG14'.lt).lt).load_agg (P := Tryz.prog) (t := 34) Tryz.underlying34 rfl (haRec.size_eq size_ha HTL.out)
          have lE := fun (wq : World) (hSw : Held ws wq) => ((hE15.under hbs9 hE15.lt).under hSw.below (hE15.under hbs9 hE15.lt).lt).load_agg (P := Tryz.prog) (t := 79) Tryz.underlying79 rfl (bkRec.size_eq size_bk HOD.out.p)
          refine wp_region_held_drew (S := Held ws) (by kernel_rfl) (by rw [hws]; exact Held.refl _) (fun hHeld => ?_)
          rw [← hws] at hHeld ⊢
          clear hws
          refine take_at (v := ?_) 0 142 rfl rfl (by kernel_rfl) (by kernel_rfl) (by kernel_rfl) (fun _ _ _ h => h) hHeld (Or.inl ⟨by rfl, ?_⟩) rfl ?_
          rotate_left
          · intro wq hSw
            go_simp
            try with_reducible rfl
          simp only [List.set_cons_zero, List.set_cons_succ]
          refine take_at (v := ?_) 1 143 rfl rfl (by kernel_rfl) (by kernel_rfl) (by kernel_rfl) (fun _ _ _ h => h) hHeld (Or.inl ⟨by rfl, ?_⟩) rfl ?_
          rotate_left
          · intro wq hSw
            go_simp
            try with_reducible rfl
          simp only [List.set_cons_zero, List.set_cons_succ]
          refine take_at (v := ?_) 2 144 rfl rfl (by kernel_rfl) (by kernel_rfl) (by kernel_rfl) (fun _ _ _ h => h) hHeld (Or.inl ⟨by rfl, ?_⟩) rfl ?_
          rotate_left
          · intro wq hSw
            go_simp
            try with_reducible rfl
          simp only [List.set_cons_zero, List.set_cons_succ]
          refine take_at 3 145 rfl rfl (by kernel_rfl) (by kernel_rfl) (by kernel_rfl) (fun _ _ _ h => h) hHeld (yieldsIf_load_agg (by rfl) 79 (.tmp 17) rfl _ _ (by rfl) (fun wq hSw => lB wq hSw)) rfl ?_
          simp only [List.set_cons_zero, List.set_cons_succ]
          refine take_at 4 146 rfl rfl (by kernel_rfl) (by kernel_rfl) (by kernel_rfl) (fun _ _ _ h => h) hHeld (yieldsIf_load_agg (by rfl) 79 (.tmp 23) rfl _ _ (by rfl) (fun wq hSw => lE wq hSw)) rfl ?_
          simp only [List.set_cons_zero, List.set_cons_succ]
          refine wpAnyH_ready (rs := [5]) (by kernel_rfl) (by simp) ?_
          refine AllReadyH.cons rfl (fun K hK => ?_) AllReadyH.nil
          go_simp
          go_at_call 34
          refine (block_same b' d ws HBs.out.at HDs.out HDE.out.1 HDE.out.2.1 HDE.out.2.2).mono ?_
          rintro e k0 ⟨rfl, hk0⟩
          refine hK.out _ _ (Held.of hk0) (fun _ => ?_)
          clear hK K
          try simp only [Act.put, List.setIfInBounds_toArray, List.set_cons_zero, List.set_cons_succ]
          replace hHeld := Held.of hk0
          refine take_at (v := ?_) 6 148 rfl rfl (by kernel_rfl) (by kernel_rfl) (by kernel_rfl) (fun _ _ _ h => h) hHeld (Or.inl ⟨by rfl, ?_⟩) rfl ?_
          rotate_left
          · intro wq hSw
            go_simp
            try with_reducible rfl
          simp only [List.set_cons_zero, List.set_cons_succ]
          refine take_at (v := ?_) 7 149 rfl rfl (by kernel_rfl) (by kernel_rfl) (by kernel_rfl) (fun _ _ _ h => h) hHeld (Or.inl ⟨by rfl, ?_⟩) rfl ?_
          rotate_left
          · intro wq hSw
            go_simp
            try with_reducible rfl
          simp only [List.set_cons_zero, List.set_cons_succ]
          refine take_at (v := ?_) 8 150 rfl rfl (by kernel_rfl) (by kernel_rfl) (by kernel_rfl) (fun _ _ _ h => h) hHeld (Or.inl ⟨by rfl, ?_⟩) rfl ?_
          rotate_left
          · intro wq hSw
            go_simp
            try with_reducible rfl
          simp only [List.set_cons_zero, List.set_cons_succ]
          refine take_at (v := ?_) 10 152 rfl rfl (by kernel_rfl) (by kernel_rfl) (by kernel_rfl) (fun _ _ _ h => h) hHeld (Or.inl ⟨by rfl, ?_⟩) rfl ?_
          rotate_left
          · intro wq hSw
            go_simp
            try with_reducible rfl
          simp only [List.set_cons_zero, List.set_cons_succ]
          refine wpAnyH_ready (rs := [9]) (by kernel_rfl) (by simp) ?_
          refine AllReadyH.cons rfl (fun K hK => ?_) AllReadyH.nil
          go_simp
          go_at_call 45
          refine (pheight_any (HCs.out.below hk0).lks (by omega)).mono ?_
          rintro e k0 ⟨rfl, rfl⟩
          refine hK.out _ _ (Held.of hk0) (fun _ => ?_)
          clear hK K
          try simp only [Act.put, List.setIfInBounds_toArray, List.set_cons_zero, List.set_cons_succ]
          replace hHeld := Held.of hk0
          refine take_at (v := ?_) 11 153 rfl rfl (by kernel_rfl) (by kernel_rfl) (by kernel_rfl) (fun _ _ _ h => h) hHeld (Or.inl ⟨by rfl, ?_⟩) rfl ?_
          rotate_left
          · intro wq hSw
            go_simp
            try with_reducible rfl
          simp only [List.set_cons_zero, List.set_cons_succ]
          refine take_at (v := ?_) 12 154 rfl rfl (by kernel_rfl) (by kernel_rfl) (by kernel_rfl) (fun _ _ _ h => h) hHeld (Or.inl ⟨by rfl, ?_⟩) rfl ?_
          rotate_left
          · intro wq hSw
            go_simp
            try with_reducible rfl
          simp only [List.set_cons_zero, List.set_cons_succ]
          refine take_at (v := ?_) 13 155 rfl rfl (by kernel_rfl) (by kernel_rfl) (by kernel_rfl) (fun _ _ _ h => h) hHeld (Or.inl ⟨by rfl, ?_⟩) rfl ?_
          rotate_left
          · intro wq hSw
            go_simp
            try with_reducible rfl
          simp only [List.set_cons_zero, List.set_cons_succ]
          refine take_at (v := ?_) 14 156 rfl rfl (by kernel_rfl) (by kernel_rfl) (by kernel_rfl) (fun _ _ _ h => h) hHeld (Or.inl ⟨by rfl, ?_⟩) rfl ?_
          rotate_left
          · intro wq hSw
            go_simp
            try with_reducible rfl
          simp only [List.set_cons_zero, List.set_cons_succ]
          refine take_at 16 158 rfl rfl (by kernel_rfl) (by kernel_rfl) (by kernel_rfl) (fun _ _ _ h => h) hHeld (yieldsIf_load_agg (by rfl) 34 (.tmp 14) rfl _ _ (by rfl) (fun wq hSw => lT wq hSw)) rfl ?_
          simp only [List.set_cons_zero, List.set_cons_succ]
          refine wpAnyH_ready (rs := [15]) (by kernel_rfl) (by simp) ?_
          refine AllReadyH.cons rfl (fun K hK => ?_) AllReadyH.nil
          go_simp
          go_at_call 46
          refine (ptip_any (HCs.out.below hk0).lks (by omega) ((HK.out.below hTs).below hk0)).mono ?_
          rw [← HTP.out]
          rintro e k1 ⟨rfl, hk1⟩
          have hk01 := hk0.trans (hk1.mono hk0.size)
          refine hK.out _ _ (Held.of hk01) (fun _ => ?_)
          clear hK K
          try simp only [Act.put, List.setIfInBounds_toArray, List.set_cons_zero, List.set_cons_succ]
          replace hHeld := Held.of hk01
          refine take_at 17 159 rfl rfl (by kernel_rfl) (by kernel_rfl) (by kernel_rfl) (fun _ _ _ h => h) hHeld (yieldsIf_eql_same (by rfl) 34 5 34 32 (.tmp 157) (.tmp 158) rfl T (by rfl) (by rfl) (by kernel_rfl) Tryz.underlying34 Tryz.underlying5 (by kernel_rfl) HTL.out) rfl ?_
          simp only [List.set_cons_zero, List.set_cons_succ]
          refine take_at (v := ?_) 18 160 rfl rfl (by kernel_rfl) (by kernel_rfl) (by kernel_rfl) (fun _ _ _ h => h) hHeld (Or.inl ⟨by rfl, ?_⟩) rfl ?_
          rotate_left
          · intro wq hSw
            go_simp
            try with_reducible rfl
          simp only [List.set_cons_zero, List.set_cons_succ]
          refine take_at (v := ?_) 19 161 rfl rfl (by kernel_rfl) (by kernel_rfl) (by kernel_rfl) (fun _ _ _ h => h) hHeld (Or.inl ⟨by rfl, ?_⟩) rfl ?_
          rotate_left
          · intro wq hSw
            go_simp
            try with_reducible rfl
          simp only [List.set_cons_zero, List.set_cons_succ]
          refine take_at (v := ?_) 20 162 rfl rfl (by kernel_rfl) (by kernel_rfl) (by kernel_rfl) (fun _ _ _ h => h) hHeld (Or.inl ⟨by rfl, ?_⟩) rfl ?_
          rotate_left
          · intro wq hSw
            go_simp
            try with_reducible rfl
          simp only [List.set_cons_zero, List.set_cons_succ]
          refine take_at (v := ?_) 22 164 rfl rfl (by kernel_rfl) (by kernel_rfl) (by kernel_rfl) (fun _ _ _ h => h) hHeld (Or.inl ⟨by rfl, ?_⟩) rfl ?_
          rotate_left
          · intro wq hSw
            go_simp
            try with_reducible rfl
          simp only [List.set_cons_zero, List.set_cons_succ]
          refine wpAnyH_ready (rs := [21]) (by kernel_rfl) (by simp) ?_
          refine AllReadyH.cons rfl (fun K hK => ?_) AllReadyH.nil
          go_simp
          go_at_call 44
          refine (pcoins_any (HCs.out.below hk01)).mono ?_
          rintro e k2 ⟨rfl, hS2, hk2⟩
          have hk02 := hk01.trans (hk2.mono hk01.size)
          refine hK.out _ _ (Held.of hk02) (fun _ => ?_)
          clear hK K
          try simp only [Act.put, List.setIfInBounds_toArray, List.set_cons_zero, List.set_cons_succ]
          replace hHeld := Held.of hk02
          refine wpAnyH_ready (rs := [23]) (by kernel_rfl) (by simp) ?_
          refine AllReadyH.cons rfl (fun K hK => ?_) AllReadyH.nil
          go_simp
          go_at_call 47
          refine (same13 (show SetG k2 (.pointer (some ⟨k1.heap.size + 1, 0, none⟩)) _ _ from ⟨⟨_, _, rfl, hS2, rfl⟩, HC14.out.gd⟩) (coinsOk2.below HSs.out hk02) HDT.out.1 HDT.out.2).mono ?_
          rintro e k3 ⟨rfl, hk3⟩
          have hk03 := hk02.trans (hk3.mono hk02.size)
          refine hK.out _ _ (Held.of hk03) (fun _ => ?_)
          clear hK K
          try simp only [Act.put, List.setIfInBounds_toArray, List.set_cons_zero, List.set_cons_succ]
          replace hHeld := Held.of hk03
          refine take_at (v := ?_) 24 166 rfl rfl (by kernel_rfl) (by kernel_rfl) (by kernel_rfl) (fun _ _ _ h => h) hHeld (Or.inl ⟨by rfl, ?_⟩) rfl ?_
          rotate_left
          · intro wq hSw
            go_simp
            try with_reducible rfl
          simp only [List.set_cons_zero, List.set_cons_succ]
          refine take_at (v := ?_) 25 6 rfl rfl (by kernel_rfl) (by kernel_rfl) (by kernel_rfl) (fun _ _ _ h => h) hHeld (Or.inl ⟨by rfl, ?_⟩) rfl ?_
          rotate_left
          · intro wq hSw
            go_simp
            try with_reducible rfl
          simp only [List.set_cons_zero, List.set_cons_succ]
          refine wpAnyH_done (by kernel_rfl) ?_ _
          go_wp2
          go_ret
          exact ⟨rfl, hTs.trans (hk03.mono hTs.size)⟩
      · have hen : errn ce = erro ce := if_neg h0
        rw [hen]
        have HX' := Lib.hid (HNO.out h0)
        have hXX : X' = X := HX'.out.1
        subst hXX
        go_upto_region 18 with fail
        obtain ⟨ws, hws⟩ : ∃ u, u = w9.drew := ⟨_, rfl⟩
        have hbs : Below w9.heap.size w9 ws := by rw [hws]; exact (Below.refl _ _).drew
        have HCs := Lib.hid (HC'.out.below hbs)
        have HSs := Lib.hid (coinsOk2.below HS9.out hbs)
        have hTs := hT9.trans (hbs.mono hT9.size)
        have hGs := hG9.under hbs hG9.lt
        have lT := fun (wq : World) (hSw : Held ws wq) => (hGs.under hSw.below hGs.lt).load_agg (P := Tryz.prog) (t := 34) Tryz.underlying34 rfl (haRec.size_eq size_ha HTL.out)
        clear h0 hen
        refine wp_region_held_drew (S := Held ws) (by kernel_rfl) (by rw [hws]; exact Held.refl _) (fun hHeld => ?_)
        rw [← hws] at hHeld ⊢
        clear hws
        refine take_at (v := ?_) 0 77 rfl rfl (by kernel_rfl) (by kernel_rfl) (by kernel_rfl) (fun _ _ _ h => h) hHeld (Or.inl ⟨by rfl, ?_⟩) rfl ?_
        rotate_left
        · intro wq hSw
          go_simp
          try with_reducible rfl
        simp only [List.set_cons_zero, List.set_cons_succ]
        refine take_at (v := ?_) 2 79 rfl rfl (by kernel_rfl) (by kernel_rfl) (by kernel_rfl) (fun _ _ _ h => h) hHeld (Or.inl ⟨by rfl, ?_⟩) rfl ?_
        rotate_left
        · intro wq hSw
          go_simp
          try with_reducible rfl
        simp only [List.set_cons_zero, List.set_cons_succ]
        refine wpAnyH_ready (rs := [1]) (by kernel_rfl) (by simp) ?_
        refine AllReadyH.cons rfl (fun K hK => ?_) AllReadyH.nil
        go_simp
        go_at_call 45
        refine (pheight_any HCs.out.lks (by omega)).mono ?_
        rintro e ws ⟨rfl, rfl⟩
        refine hK.out _ _ (Held.of (Below.refl ws.heap.size ws)) (fun _ => ?_)
        clear hK K
        try simp only [Act.put, List.setIfInBounds_toArray, List.set_cons_zero, List.set_cons_succ]
        replace hHeld := Held.of (Below.refl ws.heap.size ws)
        refine take_at (v := ?_) 3 80 rfl rfl (by kernel_rfl) (by kernel_rfl) (by kernel_rfl) (fun _ _ _ h => h) hHeld (Or.inl ⟨by rfl, ?_⟩) rfl ?_
        rotate_left
        · intro wq hSw
          go_simp
          try with_reducible rfl
        simp only [List.set_cons_zero, List.set_cons_succ]
        refine take_at (v := ?_) 4 81 rfl rfl (by kernel_rfl) (by kernel_rfl) (by kernel_rfl) (fun _ _ _ h => h) hHeld (Or.inl ⟨by rfl, ?_⟩) rfl ?_
        rotate_left
        · intro wq hSw
          go_simp
          try with_reducible rfl
        simp only [List.set_cons_zero, List.set_cons_succ]
        refine take_at (v := ?_) 5 82 rfl rfl (by kernel_rfl) (by kernel_rfl) (by kernel_rfl) (fun _ _ _ h => h) hHeld (Or.inl ⟨by rfl, ?_⟩) rfl ?_
        rotate_left
        · intro wq hSw
          go_simp
          try with_reducible rfl
        simp only [List.set_cons_zero, List.set_cons_succ]
        refine take_at 7 84 rfl rfl (by kernel_rfl) (by kernel_rfl) (by kernel_rfl) (fun _ _ _ h => h) hHeld (yieldsIf_load_agg (by rfl) 34 (.tmp 14) rfl _ _ (by rfl) (fun wq hSw => lT wq hSw)) rfl ?_
        simp only [List.set_cons_zero, List.set_cons_succ]
        refine wpAnyH_ready (rs := [6]) (by kernel_rfl) (by simp) ?_
        refine AllReadyH.cons rfl (fun K hK => ?_) AllReadyH.nil
        go_simp
        go_at_call 46
        refine (ptip_any HCs.out.lks (by omega) (HK.out.below hTs)).mono ?_
        rw [← HTP.out]
        rintro e k1 ⟨rfl, hb11⟩
        refine hK.out _ _ (Held.of hb11) (fun _ => ?_)
        clear hK K
        try simp only [Act.put, List.setIfInBounds_toArray, List.set_cons_zero, List.set_cons_succ]
        replace hHeld := Held.of hb11
        refine take_at 8 85 rfl rfl (by kernel_rfl) (by kernel_rfl) (by kernel_rfl) (fun _ _ _ h => h) hHeld (yieldsIf_eql_same (by rfl) 34 5 34 32 (.tmp 83) (.tmp 84) rfl T (by rfl) (by rfl) (by kernel_rfl) Tryz.underlying34 Tryz.underlying5 (by kernel_rfl) HTL.out) rfl ?_
        simp only [List.set_cons_zero, List.set_cons_succ]
        refine take_at (v := ?_) 9 86 rfl rfl (by kernel_rfl) (by kernel_rfl) (by kernel_rfl) (fun _ _ _ h => h) hHeld (Or.inl ⟨by rfl, ?_⟩) rfl ?_
        rotate_left
        · intro wq hSw
          go_simp
          try with_reducible rfl
        simp only [List.set_cons_zero, List.set_cons_succ]
        refine take_at (v := ?_) 10 87 rfl rfl (by kernel_rfl) (by kernel_rfl) (by kernel_rfl) (fun _ _ _ h => h) hHeld (Or.inl ⟨by rfl, ?_⟩) rfl ?_
        rotate_left
        · intro wq hSw
          go_simp
          try with_reducible rfl
        simp only [List.set_cons_zero, List.set_cons_succ]
        refine take_at (v := ?_) 11 88 rfl rfl (by kernel_rfl) (by kernel_rfl) (by kernel_rfl) (fun _ _ _ h => h) hHeld (Or.inl ⟨by rfl, ?_⟩) rfl ?_
        rotate_left
        · intro wq hSw
          go_simp
          try with_reducible rfl
        simp only [List.set_cons_zero, List.set_cons_succ]
        refine take_at (v := ?_) 13 90 rfl rfl (by kernel_rfl) (by kernel_rfl) (by kernel_rfl) (fun _ _ _ h => h) hHeld (Or.inl ⟨by rfl, ?_⟩) rfl ?_
        rotate_left
        · intro wq hSw
          go_simp
          try with_reducible rfl
        simp only [List.set_cons_zero, List.set_cons_succ]
        refine wpAnyH_ready (rs := [12]) (by kernel_rfl) (by simp) ?_
        refine AllReadyH.cons rfl (fun K hK => ?_) AllReadyH.nil
        go_simp
        go_at_call 44
        refine (pcoins_any (HCs.out.below hb11)).mono ?_
        rintro e k2 ⟨rfl, hS12, hb12⟩
        have hb02 := hb11.trans (hb12.mono hb11.size)
        refine hK.out _ _ (Held.of hb02) (fun _ => ?_)
        clear hK K
        try simp only [Act.put, List.setIfInBounds_toArray, List.set_cons_zero, List.set_cons_succ]
        replace hHeld := Held.of hb02
        refine wpAnyH_ready (rs := [14]) (by kernel_rfl) (by simp) ?_
        refine AllReadyH.cons rfl (fun K hK => ?_) AllReadyH.nil
        go_simp
        go_at_call 47
        refine (same13 (show SetG k2 (.pointer (some ⟨k1.heap.size + 1, 0, none⟩)) _ _ from ⟨⟨_, _, rfl, hS12, rfl⟩, HC'.out.gd⟩) (coinsOk2.below HSs.out hb02) HX'.out.2 (by rw [(Cs.perm_of_look HC'.out.s.keys (coinsOk2.keys HS9.out).1 HX'.out.2).length_eq]; exact hM9)).mono ?_
        rintro e k3 ⟨rfl, hb13'⟩
        have hb13 := hb02.trans (hb13'.mono hb02.size)
        refine hK.out _ _ (Held.of hb13) (fun _ => ?_)
        clear hK K
        try simp only [Act.put, List.setIfInBounds_toArray, List.set_cons_zero, List.set_cons_succ]
        replace hHeld := Held.of hb13
        refine take_at (v := ?_) 15 92 rfl rfl (by kernel_rfl) (by kernel_rfl) (by kernel_rfl) (fun _ _ _ h => h) hHeld (Or.inl ⟨by rfl, ?_⟩) rfl ?_
        rotate_left
        · intro wq hSw
          go_simp
          try with_reducible rfl
        simp only [List.set_cons_zero, List.set_cons_succ]
        refine take_at (v := ?_) 16 6 rfl rfl (by kernel_rfl) (by kernel_rfl) (by kernel_rfl) (fun _ _ _ h => h) hHeld (Or.inl ⟨by rfl, ?_⟩) rfl ?_
        rotate_left
        · intro wq hSw
          go_simp
          try with_reducible rfl
        simp only [List.set_cons_zero, List.set_cons_succ]
        refine wpAnyH_done (by kernel_rfl) ?_ _
        go_wp2
        go_ret
        exact ⟨rfl, hTs.trans (hb13.mono hTs.size)⟩
end Go.Proofs.YtdfplenniamnoaaGreatDoor
