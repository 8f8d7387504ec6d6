/- package coins: slices.SortFunc, slices.SortedFunc of points; Points · package coins: Back, Copy; the rest of what the premise asks (mkctm.py) · Sets that agree have the same points in order; a run of transactions applied, taken back in the other order (pure) -/
import Derived.Test.YtdfplenniamnoaaGreatDoorJ28
import Derived.Shelf.SlSortCmp.NoneTotal
import Derived.Test.YtdfplenniamnoaaGreatDoorJ27
import Derived.Test.YtdfplenniamnoaaGreatDoorJ16
/-! package coins: slices.SortFunc, slices.SortedFunc of points; Points -/
namespace Go.Proofs.YtdfplenniamnoaaGreatDoor
open Go Go.RowKit Go.ChangeShapes Go.WideShapes
open Go.Sort (HoldsK flatK size_flatK get_flatK size_putRowK putRowK PermIn SortedIn)
theorem Cs.enc_len (x : Cs.P32) : (Cs.enc32 x).length = 33 := ptCells_len x.2
theorem Cs.enc_one (x : Cs.P32) : ∀ v ∈ Cs.enc32 x, v.oneCell' = true := fun v hv => ptRec.one x.1 v hv
theorem sort_below {B g n : Nat} {w : World} {d : Array Cs.P32} {os : Array Obj} (hg : B ≤ g) (hlt : g < w.heap.size) : Below B w (sortWorldK Cs.enc32 33 w g 0 n d os) := by
  refine ⟨rfl, rfl, rfl, ?_, fun k hk => ?_⟩
  · unfold sortWorldK
    rw [Go.Sort.size_grow, size_putRowK]
    show w.heap.size ≤ w.heap.size + _
    omega
  · show (((Go.Sort.ahead w n).heap.modify g _) ++ os)[k]? = w.heap[k]?
    rw [Array.getElem?_append_left (by rw [Array.size_modify]; show k < w.heap.size; omega), Array.getElem?_modify, if_neg (by omega)]
    rfl
set_option maxHeartbeats 2000000 in
theorem sortfunc_any {w : World} {B : Nat} {v : Value} {L : List Cs.Pt} (ho : OwnR ptRec 36 B w v L) (hn : L.length ≤ 1000000000) (hd : L.Nodup) :
    Calls Tryz.prog 129 #[v, .func (.func 82) #[] #[]] w fun e w' => e = .returned (.tuple #[]) ∧ ∃ L' : List Cs.Pt, L'.Perm L ∧ L'.Pairwise Cs.Ahead ∧ (∃ (a : Option Addr) (n q : Nat), v = .slice a n q ∧ Recs ptRec w' a n L' ∧ n ≤ q ∧ (a = none → q = 0)) ∧ Below B w w' := by
  have hok := ho.1
  rcases ho.2.2 with ⟨rfl, h0⟩ | ⟨g, cap, cur, rfl, hgB, hgb, hnc, hcm, hcs, hct⟩
  · obtain rfl := List.length_eq_zero_iff.1 h0
    refine (AnyF.slices_SortFunc_none sortPt none 0 (.func (.func 82) #[] #[]) w).mono fun e w' ⟨he, hw⟩ => ⟨he, [], List.Perm.refl _, List.Pairwise.nil, ⟨none, 0, 0, rfl, recs_none _ _, Nat.le_refl _, fun _ => rfl⟩, ?_⟩
    rw [hw]
    exact Below.refl _ _
  · have hgl : g < w.heap.size := (Array.getElem?_eq_some_iff.1 hgb).1
    obtain ⟨dl, hdl⟩ : ∃ dl : List Cs.P32, dl = L.attachWith (fun p => p.1.length = 32) (fun p hp => (hok p hp).1) := ⟨_, rfl⟩
    have hdm : dl.map (·.1) = L := by rw [hdl]; exact List.attachWith_map_subtype_val ..
    have hds : dl.toArray.size = L.length := by rw [List.size_toArray, ← hdm, List.length_map]
    have hdg : ∀ i, i < L.length → ∃ x, dl[i]? = some x ∧ L[i]? = some x.1 := fun i hi => by
      have h9 : i < dl.length := by rw [← List.size_toArray, hds]; exact hi
      refine ⟨dl[i], List.getElem?_eq_getElem h9, ?_⟩
      rw [← hdm, List.getElem?_map, List.getElem?_eq_getElem h9]
      rfl
    have hH : HoldsK Cs.enc32 33 w g 0 dl.toArray := fun j hj => by
      rw [size_flatK, hds] at hj
      have hi : j / 33 < L.length := by omega
      obtain ⟨x, hx, hLx⟩ := hdg _ hi
      have hc : w.cell? ⟨g, 0 + j, none⟩ = cur[j]? := by
        rw [Nat.zero_add]
        unfold World.cell?
        rw [hgb]
        rfl
      refine ⟨?_, ?_⟩
      · have e1 : cur[j]? = (ptRec.row L)[j]? := by
          rw [← hct, List.getElem?_take, if_pos (by show j < L.length * 33; exact hj), Array.getElem?_toList]
        have e2 : (ptRec.row L)[j]? = (ptCells x.1.1 x.1.2)[j % 33]? := by
          have h7 := ptRec.row_at hok (j / 33) (j % 33) x.1 hLx (Nat.mod_lt _ (by decide))
          rw [show j / 33 * ptRec.k + j % 33 = j from by show j / 33 * 33 + j % 33 = j; omega] at h7
          exact h7
        have h8 : j % 33 < (ptCells x.1.1 x.1.2).length := by rw [ptCells_len x.2]; omega
        rw [hc, e1, e2, List.getElem?_eq_getElem h8, get_flatK _ _ _ _ (by rw [hds]; exact hj)]
        have e3 : dl.toArray[j / 33]! = x := by
          rw [getElem!_def, List.getElem?_toArray, hx]
        rw [e3]
        show some _ = some ((Cs.enc32 x)[j % 33]!)
        rw [getElem!_pos (Cs.enc32 x) (j % 33) (by rw [Cs.enc_len]; omega)]
        rfl
      · have hh : Has w g 36 cur := hgb
        rw [Nat.zero_add]
        exact hh.loose j
    have hS := AnyQ.slices_SortFunc sortPt 33 (fun w => Tryz.isAgg36 w) (fun w => Tryz.sizeOf36 w) Cs.enc32 Cs.enc_len Cs.enc_one Cs.cf32 Cs.swo32 82 #[] g 0 cap dl.toArray w (enters_of Tryz.func82 (by kernel_rfl) rfl) (cmpLaysPt g 0 _ w) hH hgl (by rw [hds]; omega)
    rw [hds] at hS
    refine hS.mono fun e w' ⟨he, d', n, os, hp, hs, hw⟩ => ?_
    have hsz : d'.size = L.length := hp.1.trans hds
    have hperm : d'.toList.Perm dl := by
      have h6 := hp.2.2
      rw [← hsz, Array.extract_size] at h6
      rw [hsz, ← hds, Array.extract_size] at h6
      simpa using h6
    have hPL : (d'.toList.map (·.1)).Perm L := by
      rw [← hdm]
      exact hperm.map _
    have hND : (d'.toList.map (·.1)).Nodup := hPL.nodup_iff.2 hd
    have hHw : HoldsK Cs.enc32 33 w' g 0 d' := by
      rw [hw]
      exact holdsK_sortWorldK Cs.enc32 33 w g 0 n dl.toArray d' os hgl hH hp.1
    refine ⟨he, d'.toList.map (·.1), hPL, ?_, ⟨some ⟨g, 0, none⟩, L.length, cap, rfl, ?_, hnc, fun e => by cases e⟩, ?_⟩
    · rw [List.pairwise_iff_getElem]
      intro i j hi hj hij
      rw [List.length_map, Array.length_toList] at hi hj
      have h5 := (Cs.lt32f _ _).1 (hs i j (Nat.zero_le _) hij (by omega))
      rw [getElem!_pos d' j hj, getElem!_pos d' i hi] at h5
      simp only [List.getElem_map, Array.getElem_toList]
      rcases Cs.ahead_total (d'[i]).2 (d'[j]).2 with h4 | h4 | h4
      · exact h4
      · exfalso
        have h3 := List.pairwise_iff_getElem.1 hND i j (by rw [List.length_map, Array.length_toList]; exact hi) (by rw [List.length_map, Array.length_toList]; exact hj) hij
        simp only [List.getElem_map, Array.getElem_toList] at h3
        exact h3 h4
      · exact absurd h4 h5
    · refine ⟨by rw [List.length_map, Array.length_toList]; exact hsz, by unfold maxLen; omega, fun p hp => hok p (hPL.subset hp), fun i p hi => ⟨_, rfl, fun j v hv => ?_⟩⟩
      rw [List.getElem?_map, Array.getElem?_toList] at hi
      obtain ⟨x, hx, rfl⟩ := Option.map_eq_some_iff.1 hi
      have hil : i < d'.size := (Array.getElem?_eq_some_iff.1 hx).1
      have h2 := HoldsK.cells hHw Cs.enc_len hil j v (by
        rw [getElem!_pos d' i hil, (Array.getElem?_eq_some_iff.1 hx).2]
        exact hv)
      rw [Nat.zero_add] at h2
      have e9 : (⟨g, 0, none⟩ : Addr).add (i * ptRec.k + j) = (⟨g, i * 33, none⟩ : Addr).add j := by
        rw [Addr.add_lit, Addr.add_lit, Nat.zero_add]
        rfl
      rw [e9]
      exact h2
    · rw [hw]
      exact sort_below hgB hgl
set_option maxHeartbeats 2000000 in
theorem collect_any {w w0 : World} (gf : Nat) (lb : Array Value) (eg : ∀ args w, (callFunc gf args).run Tryz.prog w = .ok (.enter gf args) w) (Kp : World → World → Prop) (hKt : ∀ {A B C : World}, Kp A B → Kp B C → Kp A C)
    (hKb : ∀ (W : World) (l : Nat) (o o' : Obj), w.heap.size ≤ l → W.heap[l]? = some o → o.isCells = false → o.isWalk = false → Kp W (W.putObj l o'))
    (hKo : ∀ W W' : World, KeepsOthers W W' → Below w.heap.size W W' → Kp W W') (KL : List Cs.Pt) (hN : KL.length ≤ 1000000000)
    (hseq : Iterates Fence.wide 4 Tryz.prog gf lb encPt Kp [] (RdPt KL.length) (fun s => s.Perm KL) w0) (hb0 : Below w0.heap.size w0 w) :
    Calls Tryz.prog 128 #[.func (.func gf) #[] lb] w fun e w' => ∃ v s, e = .returned v ∧ s.Perm KL ∧ OwnR ptRec 36 w.heap.size w' v s ∧ Below w.heap.size w w' := by
  have HA := Lib.hid (appendseq_any gf lb eg Kp hKt hKb hKo KL hN hseq hb0)
  clear hseq hKo hKb
  go_enter Tryz.func128, Tryz.ntmps128
  go_wp2_with (go_at_call 153; refine HA.out.mono ?_; rintro e w2 ⟨v, s, rfl, hp, ho, hb⟩)
  go_ret
  exact ⟨v, s, rfl, hp, ho, hb⟩
/-- what Points answers -/
def PtsPost (KL : List Cs.Pt) (w : World) (e : Ending) (w' : World) : Prop :=
  ∃ (a : Option Addr) (n q : Nat) (L : List Cs.Pt), e = .returned (.slice a n q) ∧ Recs ptRec w' a n L ∧ (n ≤ q ∧ (a = none → q = 0)) ∧ L.Pairwise Cs.Ahead ∧ L.Perm KL ∧ Below w.heap.size w w'
set_option maxHeartbeats 2000000 in
theorem sortedfunc_any {w : World} {mv : Option Nat} {M : Cs.Mp} (h : MapV w (.map mv) M) (hl : M.length ≤ 1000000000) (hk : Cs.Keys M) :
    Calls Tryz.prog 80 #[.func (.func 130) #[] #[.pointer (some ⟨w.heap.size, 0, none⟩)], .func (.func 82) #[] #[]] (w.alloc (.cells #[.map mv] 111)) (PtsPost (M.map (·.1)) w) := by
  obtain ⟨w1, hw1⟩ : ∃ x, x = w.alloc (.cells #[.map mv] 111) := ⟨_, rfl⟩
  have hB1 : Below w.heap.size w w1 := by rw [hw1]; exact (Below.refl _ _).alloc (Nat.le_refl _) _
  have hX1 : Has w1 w.heap.size 111 #[.map mv] := by rw [hw1]; exact Has.fresh _ _ _
  rw [← hw1]
  have hseq : Iterates Fence.wide 4 Tryz.prog 130 #[.pointer (some ⟨w.heap.size, 0, none⟩)] encPt KeepsWalks [] (RdPt (M.map (·.1)).length) (fun s => s.Perm (M.map (·.1))) w1 := by
    rw [List.length_map]
    rcases h with ⟨b, e, hm⟩ | ⟨e, rfl⟩
    · injection e with e
      subst e
      exact mkeys_iter 4 (by omega) w.heap.size b M w1 hX1 (hm.below hB1)
    · injection e with e
      subst e
      exact mkeys_none 4 (by omega) w.heap.size w1 hX1
  have HC := Lib.hid (collect_any 130 #[.pointer (some ⟨w.heap.size, 0, none⟩)] (enters_of Tryz.func130 (by kernel_rfl) rfl) KeepsWalks (fun h k => h.trans k)
    (fun W l o o' _ ho _ hw => KeepsWalks.putObj o' ho hw) (fun W W' hk _ => hk.walks) (M.map (·.1)) (by rw [List.length_map]; exact hl) hseq (Below.refl _ w1))
  have HN := Lib.hid (show (M.map (·.1)).Nodup ∧ (M.map (·.1)).length ≤ 1000000000 from ⟨hk, by rw [List.length_map]; exact hl⟩)
  have HB1 := Lib.hid hB1
  generalize M.map (·.1) = KL at HC HN ⊢
  clear h hl hk hw1 hX1 hseq hB1
  go_enter Tryz.func80, Tryz.ntmps80
  go_wp2_with (first
    | (go_at_call 129; refine (sortfunc_any HO.out.2.1 (by rw [HO.out.1.length_eq]; exact HN.out.2) (HO.out.1.nodup_iff.2 HN.out.1)).mono ?_; rintro e w3 ⟨rfl, L', hp3, hpw, ⟨a, n, q, rfl, hr, hq⟩, hb3⟩)
    | (go_at_call 128; refine HC.out.mono ?_; rintro e w2 ⟨v, s, rfl, hp, ho, hb2⟩; have HO := Lib.hid (And.intro hp (And.intro ho hb2)); clear hp ho hb2))
  go_ret
  exact ⟨a, n, q, L', rfl, hr, hq, hpw, hp3.trans HO.out.1, HB1.out.trans ((HO.out.2.2.trans hb3).mono HB1.out.size)⟩
set_option maxHeartbeats 4000000 in
theorem mkeys_any (mb : Option Nat) (w : World) : Calls Tryz.prog 81 #[.map mb] w fun e w' =>
    e = .returned (.func (.func 130) #[] #[.pointer (some ⟨w.heap.size, 0, none⟩)]) ∧ w.alloc (.cells #[.map mb] 111) = w' := by
  go_enter Tryz.func81, Tryz.ntmps81
  go_wp2
  go_ret
  exact ⟨rfl, rfl⟩
set_option maxHeartbeats 4000000 in
theorem ppoints_any {w : World} {v : Value} {F : Nat → Prop} {M : Cs.Mp} (h : SetN w v F M) (hl : M.length ≤ 1000000000) (hk : Cs.Keys M) :
    Calls Tryz.prog 26 #[v] w (PtsPost (M.map (·.1)) w) := by
  obtain ⟨m, hm, HA⟩ := all_any h
  have HS := Lib.hid (sortedfunc_any hm hl hk)
  clear h hm hl hk
  generalize M.map (·.1) = KL at HS ⊢
  go_enter Tryz.func26, Tryz.ntmps26
  go_wp2_with (first
    | (go_at_call 80; refine HS.out.mono ?_; rintro e w4 ⟨a, n, q, L, rfl, hr, hq, hpw, hp, hb4⟩)
    | (go_at_call 81; refine (mkeys_any m w).mono ?_; rintro e w3 ⟨rfl, rfl⟩)
    | (go_at_call 78; refine (HA _ (Below.refl _ _)).mono ?_; rintro e w2 ⟨rfl, rfl⟩))
  go_ret
  exact ⟨a, n, q, L, rfl, hr, hq, hpw, hp, hb4⟩
end Go.Proofs.YtdfplenniamnoaaGreatDoor

/-! package coins: Back, Copy; the rest of what the premise asks (mkctm.py) -/
namespace Go.Proofs.YtdfplenniamnoaaGreatDoor
open Go Go.RowKit Go.ChangeShapes Go.WideShapes
theorem und_tx (a b c : Option Addr) (n q m r k l : Nat) (f : Bool) (j : Nat) (v : Value) (h : ([.slice a n q, .slice b m r, .bool f] : List Value)[j]? = some v) : (#[.slice a n q, .slice b m r, .bool f, .slice c k l] : Array Value)[0 + j]? = some v := by
  rw [Nat.zero_add]
  match j, h with
  | 0, h => exact h
  | 1, h => exact h
  | 2, h => exact h
theorem Cs.backM_good {M : Cs.Mp} {id : List (BitVec 8)} {t : Tx.T} {sp : List Tx.Co} (hg : ∀ x, x ∈ M → Am.Good x.2.v) (hs : ∀ c, c ∈ sp → Am.Good c.v) : ∀ x, x ∈ Cs.backM M id t sp → Am.Good x.2.v := fun x hx => by
  rcases Cs.putAll_mem _ hx with h1 | h1
  · exact hg x (Cs.delAll_sub _ h1)
  · exact hs x.2 (List.of_mem_zip (a := x.1) (b := x.2) h1).2
theorem Cs.backM_len (M : Cs.Mp) (id : List (BitVec 8)) (t : Tx.T) (sp : List Tx.Co) : (Cs.backM M id t sp).length ≤ M.length + t.sp.length := by
  have h1 := Cs.putAll_len ((t.sp.map Cs.pt).zip sp) (Cs.delAll M ((Cs.ownL id t.co).map (·.1)))
  have h2 := Cs.delAll_len ((Cs.ownL id t.co).map (·.1)) M
  have h3 : ((t.sp.map Cs.pt).zip sp).length ≤ t.sp.length := by rw [List.length_zip, List.length_map]; omega
  unfold Cs.backM
  omega
set_option maxHeartbeats 4000000 in
theorem pcopyset_any {w : World} {g b : Nat} {M : Cs.Mp} (h : SetB w g b M) :
    Calls Tryz.prog 14 #[.pointer (some ⟨g, 0, none⟩)] w fun e w' => e = .returned (.pointer (some ⟨w.heap.size + 1, 0, none⟩)) ∧ SetB w' (w.heap.size + 1) w.heap.size M ∧ Below w.heap.size w w' := by
  have c0 : w.cell? ⟨g, 0, none⟩ = some (.map (some b)) := h.has.cell_at rfl
  obtain ⟨es, clock, hb, hrest⟩ := h.map
  have hC := AnyW.maps_Clone mapsClone b es clock w hb
  have hM : MapAt (w.alloc (.map es clock)) w.heap.size M := ⟨es, clock, (MapKept.heap_alloc w _).1, hrest⟩
  have HC := Lib.hid hC
  have HM := Lib.hid hM
  have hbd := fun (w : World) (n : Option Nat) => run_build (P := Tryz.prog) w 113 #[(0, .map n)] #[.map n] (by kernel_rfl)
  clear h hb hrest hC hM
  go_enter Tryz.func14, Tryz.ntmps14
  go_wp2_with (go_at_call 58; refine HC.out.mono ?_; rintro e w2 ⟨rfl, rfl⟩)
  go_ret
  exact ⟨by simp, ⟨Has.fresh_at _ _ _ (by simp), HM.out.below ((Below.refl _ _).alloc (Nat.le_refl _) _)⟩, ((Below.refl _ _).alloc (Nat.le_refl _) _).alloc (by simp) _⟩
set_option maxRecDepth 100000 in
set_option maxHeartbeats 8000000 in
theorem pback_any {w : World} {g bm : Nat} {M : Cs.Mp} (h : SetB w g bm M) (a : Option Addr) (n q : Nat) (b : Option Addr) (m r : Nat) (t : Tx.T) (c : Option Addr) (k l : Nat) (sp : List Tx.Co) (ht : TxAt w a n q b m r t) (hs : Tx.Small t) (hsp : Recs coRec w c k sp) (hK : KDg w) :
    Calls Tryz.prog 24 #[.pointer (some ⟨g, 0, none⟩), .agg #[.slice a n q, .slice b m r, .bool t.firm, .slice c k l]] w fun e w' => e = .returned (errn (Cs.backE M (Tx.idOf false t) t sp)) ∧ SetB w' g bm (if Cs.backE M (Tx.idOf false t) t sp = 0 then Cs.backM M (Tx.idOf false t) t sp else M) ∧ Moved (fun j => j = bm) w w' := by
  have hn6 : n ≤ 1000000000 := by have := hs.1; have := ht.sp.1; omega
  have hnx : n ≤ 9223372036854775807 := ht.sp.2.1
  have hkx : k ≤ 9223372036854775807 := hsp.2.1
  obtain ⟨W1, hW1⟩ : ∃ ww, ww = w.alloc (.cells #[.slice a n q, .slice b m r, .bool t.firm, .slice c k l] 48 ) := ⟨_, rfl⟩
  have hB1 : Below w.heap.size w W1 := by rw [hW1]; exact (Below.refl _ _).alloc (Nat.le_refl _) _
  have hX : Has W1 w.heap.size 48 #[.slice a n q, .slice b m r, .bool t.firm, .slice c k l] := by rw [hW1]; exact Has.fresh _ _ _
  obtain ⟨D, hD⟩ : ∃ D, D = Tx.idOf false t := ⟨_, rfl⟩
  obtain ⟨P, hP⟩ : ∃ P : List Cs.Pt, P = (Cs.ownL D t.co).map (·.1) := ⟨_, rfl⟩
  obtain ⟨z, hz⟩ : ∃ z, z = Cs.backE M D t sp := ⟨_, rfl⟩
  obtain ⟨o1, ho1⟩ : ∃ o, o = !(P.any fun s => !(Cs.look M s).isSome) := ⟨_, rfl⟩
  obtain ⟨o2, ho2⟩ : ∃ o, o = (t.sp.map Cs.pt).any fun s => (Cs.look M s).isSome := ⟨_, rfl⟩
  have HZ := Lib.hid (show z = if k = n then if o1 = true then if o2 = true then 6 else 0 else 4 else 1 by
    rw [hz, Cs.backE, ho1, ho2, hP, hsp.1, ht.sp.1]
    have e : (!(((Cs.ownL D t.co).map (·.1)).any fun s => !(Cs.look M s).isSome)) = (Cs.ownL D t.co).all fun x => (Cs.look M x.1).isSome := by
      rw [List.any_map, List.not_any_eq_all_not]
      simp
    rw [e])
  have HBM := Lib.hid (show Cs.putAll (Cs.delAll M P) ((t.sp.map Cs.pt).zip sp) = Cs.backM M D t sp by rw [hP]; rfl)
  have HPM := Lib.hid (show P.length = m by rw [hP, List.length_map, Cs.ownL, List.length_mapIdx, ht.co.1])
  have HPL := Lib.hid (show (t.sp.map Cs.pt).length = n by rw [List.length_map, ht.sp.1])
  have HT := Lib.hid (ht.below hB1)
  have HS := Lib.hid (h.below hB1)
  have HSP := Lib.hid (hsp.below hB1)
  have HX := Lib.hid hX
  have HB1 := Lib.hid hB1
  have HGB := Lib.hid (show bm < w.heap.size from h.map.lt)
  have HKK := Lib.hid (hK.below hB1)
  have HSM := Lib.hid hs
  have hSN : ∀ w', Below W1.heap.size W1 w' → SetN w' (.pointer (some ⟨g, 0, none⟩)) (fun j => j = g ∨ j = bm) M := fun w' hb => .inl ⟨g, bm, rfl, HS.out.below hb, rfl⟩
  have HAL := Lib.hid (show ∀ w' oa oq, Below W1.heap.size W1 w' → Recs ptRec w' oa m P → Calls Tryz.prog 69 #[.pointer (some ⟨g, 0, none⟩), .slice oa m oq] w' fun e w2 => e = .returned (.bool o1) ∧ Below w'.heap.size w' w2 from fun w' oa oq hb hr => ho1 ▸ phasall_any (hSN w' hb) oa m oq P hr)
  have HAN := Lib.hid (show ∀ w' pa pq, Below W1.heap.size W1 w' → Recs ptRec w' pa n (t.sp.map Cs.pt) → Calls Tryz.prog 60 #[.pointer (some ⟨g, 0, none⟩), .slice pa n pq] w' fun e w2 => e = .returned (.bool o2) ∧ Below w'.heap.size w' w2 from fun w' pa pq hb hr => ho2 ▸ phasany_any (hSN w' hb) pa n pq _ hr)
  have HW := Lib.hid hW1
  rw [← hD, ← hz]
  have HD := Lib.hid hD
  have HN := Lib.hid hn6
  have HP := Lib.hid hP
  clear hW1 hX h ht hs hsp hK hD hP hz ho1 ho2 hB1 hSN hn6
  go_enter Tryz.func24, Tryz.ntmps24
  go_upto_region 3 with fail
  rw [← HW.out]
  obtain ⟨ws, hws⟩ : ∃ x, x = W1.drew := ⟨_, rfl⟩
  have hBs : Below W1.heap.size W1 ws := by rw [hws]; exact (Below.refl _ _).drew
  have hXs := HX.out.under hBs HX.out.lt
  have lX := fun (wq : World) (hSw : Held ws wq) => has_mid (t := 26 ) (hXs.under hSw.below hXs.lt) 0 [.slice a n q, .slice b m r, .bool t.firm] (und_tx a b c n q m r k l t.firm) Tryz.underlying26 rfl (by kernel_rfl)
  have HSY := Lib.hid (show ∀ w', Below ws.heap.size ws w' → Calls Tryz.prog 64 #[txv a n q b m r t.firm] w' fun e w2 => ∃ v, e = .returned v ∧ OwnR ptRec 36 w'.heap.size w2 v (t.sp.map Cs.pt) ∧ Below w'.heap.size w' w2 from fun w' hb => spby_any a n q b m r t t.firm w' ((HT.out.below hBs).below hb) HN.out)
  have HOW := Lib.hid (show ∀ w', Below ws.heap.size ws w' → Calls Tryz.prog 59 #[txv a n q b m r t.firm] w' fun e w2 => ∃ v, e = .returned v ∧ OwnR ptRec 36 w'.heap.size w2 v P ∧ Below w'.heap.size w' w2 from fun w' hb => by rw [HP.out, HD.out]; exact own_any a n q b m r t w' ((HT.out.below hBs).below hb) HSM.out ((HKK.out.below hBs).below hb))
  refine wp_region_held_drew (S := Held ws) (by kernel_rfl) (by rw [hws]; exact Held.refl _) (fun hHeld => ?_)
  rw [← hws] at hHeld ⊢
  clear hws
  refine take_at (v := ?_) 0 10 rfl rfl (by kernel_rfl) (by kernel_rfl) (by kernel_rfl) (fun _ _ _ h => h) hHeld (Or.inl ⟨by rfl, ?_⟩) rfl ?_
  rotate_left
  · intro wq hSw
    go_simp
    try with_reducible rfl
  simp only [List.set_cons_zero, List.set_cons_succ]
  refine take_at 1 11 rfl rfl (by kernel_rfl) (by kernel_rfl) (by kernel_rfl) (fun _ _ _ h => h) hHeld (yieldsIf_load_agg (by rfl) 26 (.tmp 10) rfl _ _ (by rfl) (fun wq hSw => lX wq hSw)) rfl ?_
  simp only [List.set_cons_zero, List.set_cons_succ]
  refine take_at (v := ?_) 3 13 rfl rfl (by kernel_rfl) (by kernel_rfl) (by kernel_rfl) (fun _ _ _ h => h) hHeld (Or.inl ⟨by rfl, ?_⟩) rfl ?_
  rotate_left
  · intro wq hSw
    go_simp
    try with_reducible rfl
  simp only [List.set_cons_zero, List.set_cons_succ]
  refine take_at 4 14 rfl rfl (by kernel_rfl) (by kernel_rfl) (by kernel_rfl) (fun _ _ _ h => h) hHeld (yieldsIf_load_agg (by rfl) 26 (.tmp 13) rfl _ _ (by rfl) (fun wq hSw => lX wq hSw)) rfl ?_
  simp only [List.set_cons_zero, List.set_cons_succ]
  refine wpAnyH_ready (rs := [2]) (by kernel_rfl) (by simp) ?_
  refine AllReadyH.cons rfl (fun K hK => ?_) AllReadyH.nil
  go_simp
  go_at_call 64
  refine (HSY.out ws (Below.refl _ _)).mono ?_
  rintro e w2 ⟨v2, rfl, ho2, hb2⟩
  obtain ⟨pa, pc, rfl, hpc, h0p, _, hrp⟩ := ho2.shape HPL.out
  refine hK.out _ _ (Held.of hb2) (fun _ => ?_)
  clear hK K
  try simp only [Act.put, List.setIfInBounds_toArray, List.set_cons_zero, List.set_cons_succ]
  replace hHeld := Held.of hb2
  refine wpAnyH_ready (rs := [5]) (by kernel_rfl) (by simp) ?_
  refine AllReadyH.cons rfl (fun K hK => ?_) AllReadyH.nil
  go_simp
  go_at_call 59
  refine (HOW.out w2 hb2).mono ?_
  rintro e w3 ⟨v3, rfl, ho3, hb3⟩
  obtain ⟨oa, oq, rfl, hoq, h0o, _, hro⟩ := ho3.shape HPM.out
  have hb23 : Below ws.heap.size ws w3 := hb2.trans (hb3.mono hb2.size)
  refine hK.out _ _ (Held.of hb23) (fun _ => ?_)
  clear hK K
  try simp only [Act.put, List.setIfInBounds_toArray, List.set_cons_zero, List.set_cons_succ]
  replace hHeld := Held.of hb23
  refine take_at (v := ?_) 6 5 rfl rfl (by kernel_rfl) (by kernel_rfl) (by kernel_rfl) (fun _ _ _ h => h) hHeld (Or.inl ⟨by rfl, ?_⟩) rfl ?_
  rotate_left
  · intro wq hSw
    go_simp
    try with_reducible rfl
  simp only [List.set_cons_zero, List.set_cons_succ]
  refine take_at (v := ?_) 7 6 rfl rfl (by kernel_rfl) (by kernel_rfl) (by kernel_rfl) (fun _ _ _ h => h) hHeld (Or.inl ⟨by rfl, ?_⟩) rfl ?_
  rotate_left
  · intro wq hSw
    go_simp
    try with_reducible rfl
  simp only [List.set_cons_zero, List.set_cons_succ]
  refine wpAnyH_done (by kernel_rfl) ?_ _
  have hT3 : Below W1.heap.size W1 w3 := hBs.trans (hb23.mono hBs.size)
  have hX3 := HX.out.under hT3 HX.out.lt
  have c3 : w3.cell? ⟨w.heap.size, 3, none⟩ = some (.slice c k l) := hX3.cell_at rfl
  have hrp3 := hrp.below hb3
  have HQ := Lib.hid (And.intro hrp3 hro)
  clear lX hrp hro hrp3 ho2 ho3 hb2 hb3
  by_cases hkn : k = n
  · have HKN := Lib.hid hkn
    have hkni : ((k : Int) != (n : Int)) = false := by simp [hkn]
    have hkne : (k : Int) = (n : Int) := by omega
    rw [if_pos hkn] at HZ
    clear hkn
    cases o1
    · have hE : z = 4 := HZ.out
      go_wp2_with (go_at_call 69; refine (HAL.out w3 oa oq hT3 HQ.out.2).mono ?_; rintro e w4 ⟨rfl, hb4⟩)
      go_ret
      have hT4 := hT3.trans (hb4.mono hT3.size)
      exact ⟨rfl, HS.out.below hT4, Moved.of_below (HB1.out.trans (hT4.mono HB1.out.size))⟩
    · cases o2
      · have hE : z = 0 := HZ.out
        go_upto_region 10 with (first
          | (go_at_call 60; refine (HAN.out w4 pa pc (hT3.trans (hb4.mono hT3.size)) (HQ.out.1.below hb4)).mono ?_; rintro e w5 ⟨rfl, hb5⟩)
          | (go_at_call 69; refine (HAL.out w3 oa oq hT3 HQ.out.2).mono ?_; rintro e w4 ⟨rfl, hb4⟩))
        have hb35 : Below w3.heap.size w3 w5 := hb4.trans (hb5.mono hb4.size)
        have hTy := hT3.trans (hb35.mono hT3.size)
        have hXy := HX.out.under hTy HX.out.lt
        have HSy := Lib.hid (HS.out.below hTy)
        have HR5 := Lib.hid (And.intro (HQ.out.1.below hb35) (And.intro (HQ.out.2.below hb35) (HSP.out.below hTy)))
        clear c3
        have c3 : w5.cell? ⟨w.heap.size, 3, none⟩ = some (.slice c k l) := hXy.cell_at rfl
        go_wp2_with (go_at_call 63; refine (pexch_any HSy.out oa m oq P HR5.out.2.1 pa n pc _ HR5.out.1 c k l sp HR5.out.2.2 HKN.out.symm).mono ?_; rintro e wx ⟨rfl, hSx, hmx⟩)
        go_ret
        exact ⟨rfl, HBM.out ▸ hSx, (Moved.of_below (HB1.out.trans (hTy.mono HB1.out.size))).trans hmx (fun k hk => .inl hk)⟩
      · have hE : z = 6 := HZ.out
        go_wp2_with (first
          | (go_at_call 60; refine (HAN.out w4 pa pc (hT3.trans (hb4.mono hT3.size)) (HQ.out.1.below hb4)).mono ?_; rintro e w5 ⟨rfl, hb5⟩)
          | (go_at_call 69; refine (HAL.out w3 oa oq hT3 HQ.out.2).mono ?_; rintro e w4 ⟨rfl, hb4⟩))
        go_ret
        have hT5 := hT3.trans ((hb4.trans (hb5.mono hb4.size)).mono hT3.size)
        exact ⟨rfl, HS.out.below hT5, Moved.of_below (HB1.out.trans (hT5.mono HB1.out.size))⟩
  · have hkni : ((k : Int) != (n : Int)) = true := by simp; omega
    have hE : z = 1 := HZ.out.trans (if_neg hkn)
    go_wp2
    go_ret
    exact ⟨rfl, HS.out.below hT3, Moved.of_below (HB1.out.trans (hT3.mono HB1.out.size))⟩
theorem coinsOk2 : CoinsOk2 SetG where
  toCoinsOk := coinsOk
  get := fun h p hp => pget_any (.inl h.1) p hp.1
  points := fun h hl => ppoints_any (.inl h.1) hl h.1.fits.1
  back := fun {w v F M} h a n q b m r t c k l sp ht hs hsp _ hg hK => by
    obtain ⟨⟨g, bm, rfl, hS, rfl⟩, hgd⟩ := h
    have hk := (SetAt.fits ⟨g, bm, rfl, hS, rfl⟩ : Cs.Keys M ∧ _).1
    refine (pback_any hS a n q b m r t c k l sp ht hs hsp hK).mono fun e w' ⟨he, hS', hm⟩ => ⟨fun j => j = g ∨ j = bm, _, he, ⟨⟨g, bm, rfl, hS', rfl⟩, ?_⟩, ?_, ?_, fun j hj => .inl hj, hm.mono fun k hk => .inr hk, ?_⟩
    · by_cases h0 : Cs.backE M (Tx.idOf false t) t sp = 0
      · rw [if_pos h0]; exact Cs.backM_good hgd hg
      · rw [if_neg h0]; exact hgd
    · intro h0
      rw [if_pos h0]
      exact Cs.backM_is hk _ _ _
    · intro h0 q
      rw [if_neg h0]
    · by_cases h0 : Cs.backE M (Tx.idOf false t) t sp = 0
      · rw [if_pos h0]; exact Cs.backM_len _ _ _ _
      · rw [if_neg h0]; omega
  copy := fun {w v F M} h => by
    obtain ⟨⟨g, bm, rfl, hS, rfl⟩, hgd⟩ := h
    exact (pcopyset_any hS).mono fun e w' ⟨he, hS', hb⟩ => ⟨_, fun j => j = w.heap.size + 1 ∨ j = w.heap.size, M, he, ⟨⟨_, _, rfl, hS', rfl⟩, hgd⟩, fun _ => rfl, fun j hj => by omega, hb, rfl⟩
end Go.Proofs.YtdfplenniamnoaaGreatDoor

/-! Sets that agree have the same points in order; a run of transactions applied, taken back in the other order (pure) -/
namespace Go.Proofs.YtdfplenniamnoaaGreatDoor
open Go Go.RowKit
namespace Cs
theorem Ahead.not {p q : Pt} (h : Ahead p q) (h2 : Ahead q p) : False := by
  have hs := Dg.cmp_swap p.1 q.1
  have h0 := Dg.cmp_swap p.1 p.1
  rcases h with h | ⟨e, h⟩
  · rcases h2 with h2 | ⟨e2, h2⟩
    · omega
    · rw [e2] at h
      omega
  · rcases h2 with h2 | ⟨_, h2⟩
    · rw [← e] at h2
      omega
    · omega
/-- sets that answer alike have the same points, in the same order -/
theorem points_same {M N : Mp} {L K : List Pt} (hM : Keys M) (hN : Keys N) (h : ∀ q, look M q = look N q) (hL : L.Pairwise Ahead) (hK : K.Pairwise Ahead) (pL : L.Perm (M.map (·.1))) (pK : K.Perm (N.map (·.1))) : L = K := by
  have hp : L.Perm K := (pL.trans ((perm_of_look hM hN h).map _)).trans pK.symm
  exact hp.eq_of_pairwise (fun a b _ _ h1 h2 => (h1.not h2).elim) hL hK
/-- which transactions were applied (the last one first), and what each spent -/
def Chain (M0 : Mp) : List (Tx.T × List Tx.Co) → Mp → Prop
  | [], M => ∀ q, look M q = look M0 q
  | x :: us, M => ∃ N, Chain M0 us N ∧ doE N (Tx.idOf false x.1) x.1 = 0 ∧ IsDo N M (Tx.idOf false x.1) x.1 ∧ x.2 = spentOf N x.1
theorem chain_same {M0 : Mp} : ∀ {us : List (Tx.T × List Tx.Co)} {M N : Mp}, Chain M0 us M → (∀ q, look N q = look M q) → Chain M0 us N
  | [], _, _, h, e => fun q => (e q).trans (h q)
  | _ :: _, _, _, ⟨K, h1, h2, h3, h4⟩, e => ⟨K, h1, h2, fun q => (e q).trans (h3 q), h4⟩
theorem chain_do {M0 M N : Mp} {us : List (Tx.T × List Tx.Co)} (h : Chain M0 us M) {t : Tx.T} (h0 : doE M (Tx.idOf false t) t = 0) (hd : IsDo M N (Tx.idOf false t) t) : Chain M0 ((t, spentOf M t) :: us) N := ⟨M, h, h0, hd, rfl⟩
theorem chain_may {M0 M : Mp} {us : List (Tx.T × List Tx.Co)} {x : Tx.T × List Tx.Co} (h : Chain M0 (x :: us) M) : backE M (Tx.idOf false x.1) x.1 x.2 = 0 := by
  obtain ⟨N, _, h2, h3, h4⟩ := h
  rw [h4]
  exact back_ok h2 h3
theorem chain_back {M0 M L : Mp} {us : List (Tx.T × List Tx.Co)} {x : Tx.T × List Tx.Co} (h : Chain M0 (x :: us) M) (hb : IsBack M L (Tx.idOf false x.1) x.1 x.2) : Chain M0 us L := by
  obtain ⟨N, h1, h2, h3, h4⟩ := h
  rw [h4] at hb
  exact chain_same h1 (back_same h2 h3 (fun _ => rfl) hb)
theorem worth_pos {M : Mp} (h : ∀ x, x ∈ M → Am.Good x.2.v) : 0 ≤ worth M := by
  unfold worth
  induction M with
  | nil => simp
  | cons x M ih =>
    have h1 := ih (fun y hy => h y (List.mem_cons_of_mem _ hy))
    have h2 := (h x List.mem_cons_self).1
    rw [List.map_cons, List.sum_cons]
    omega
theorem do_worthT {M N : Mp} (hM : Keys M) (hN : Keys N) (hg : ∀ x, x ∈ N → Am.Good x.2.v) {t : Tx.T} (h : doE M (Tx.idOf false t) t = 0) (hd : IsDo M N (Tx.idOf false t) t) (hw : Am.Good (worth M)) : worthT N = (worth M - feeV M t, 0) ∧ Am.Good (worth N) ∧ worth N = worth M - feeV M t := by
  obtain ⟨h1, h2⟩ := do_fee hM hN h hd
  have h3 := worth_pos hg
  have h4 : Am.Good (worth N) := ⟨h3, by have := hw.2; omega⟩
  refine ⟨?_, h4, h1⟩
  unfold worthT
  rw [if_pos h4, h1]
end Cs
end Go.Proofs.YtdfplenniamnoaaGreatDoor
