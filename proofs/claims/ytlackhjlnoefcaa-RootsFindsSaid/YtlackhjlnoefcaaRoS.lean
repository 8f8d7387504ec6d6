/- law04's sorted -/
import Derived.Test.YtlackhjlnoefcaaRows
import Derived.Test.YtlackhjlnoefcaaRoA
namespace Go.Proofs.Ytlackhjlnoefcaa
open Go Go.RowKit Go.ChangeShapes Go.WideShapes
theorem insert_list (o : List (BitVec 32)) (k : Nat) (x : BitVec 32) (hk : k ≤ o.length) : (putL (o ++ [0]) (k + 1) (o.drop k)).set k x = o.take k ++ x :: o.drop k := by
  obtain ⟨A, B, rfl, rfl⟩ : ∃ A B, o = A ++ B ∧ k = A.length := ⟨o.take k, o.drop k, (List.take_append_drop k o).symm, by rw [List.length_take]; omega⟩
  rw [List.drop_left, List.take_left]
  obtain ⟨b, R, hR⟩ : ∃ b R, B ++ [(0 : BitVec 32)] = b :: R := by
    cases B with
    | nil => exact ⟨0, [], rfl⟩
    | cons b B => exact ⟨b, B ++ [0], rfl⟩
  have hl : R.length = B.length := by
    have := congrArg List.length hR
    simp at this
    omega
  have h := putL_app B (A ++ [b]) R (by omega)
  rw [List.append_assoc A B, hR, show A ++ b :: R = A ++ [b] ++ R from by simp, show A.length + 1 = (A ++ [b]).length from by simp, h]
  rw [List.drop_of_length_le (by omega), List.append_nil, List.append_assoc, List.set_append_right _ _ (Nat.le_refl _), Nat.sub_self]
  rfl
theorem Po.Srt.insert {o : List (BitVec 32)} {k : Nat} {x : BitVec 32} (hs : Po.Srt o) (h1 : ∀ a, a ∈ o.take k → a.toNat < x.toNat) (h2 : ∀ a, a ∈ o.drop k → x.toNat < a.toNat) : Po.Srt (o.take k ++ x :: o.drop k) := by
  have hs' := hs
  rw [← List.take_append_drop k o] at hs'
  obtain ⟨g1, g2, g3⟩ := List.pairwise_append.1 hs'
  refine List.pairwise_append.2 ⟨g1, List.pairwise_cons.2 ⟨h2, g2⟩, fun a ha b hb => ?_⟩
  rcases List.mem_cons.1 hb with e | e
  · rw [e]; exact h1 a ha
  · exact g3 a ha b e
theorem Po.Srt.after {o : List (BitVec 32)} {k : Nat} {x : BitVec 32} (hs : Po.Srt o) (hk : k < o.length) (hx : x.toNat < (o.getD k 0).toNat) : ∀ a, a ∈ o.drop k → x.toNat < a.toNat := by
  intro a ha
  rw [List.drop_eq_getElem_cons hk] at ha
  have he : o.getD k 0 = o[k] := by rw [List.getD_eq_getElem?_getD, List.getElem?_eq_getElem hk]; rfl
  rw [he] at hx
  rcases List.mem_cons.1 ha with e | e
  · rw [e]; exact hx
  · have hs' := hs
    rw [← List.take_append_drop k o, List.drop_eq_getElem_cons hk] at hs'
    have := (List.pairwise_cons.1 (List.pairwise_append.1 hs').2.1).1 a e
    omega
theorem list8 {vs : List Value} (h : vs.length = 8) : ∃ a b c d e f g i, vs = [a, b, c, d, e, f, g, i] := by
  match vs, h with
  | [a, b, c, d, e, f, g, i], _ => exact ⟨a, b, c, d, e, f, g, i, rfl⟩
/-- elements, rising, each once -/
structure Po.Set (q l : List (BitVec 32)) : Prop where
  srt : Po.Srt q
  mem : ∀ a, a ∈ q ↔ a ∈ l
theorem Po.Set.unique {q r l : List (BitVec 32)} (h : Po.Set q l) (h' : Po.Set r l) : q = r := h.srt.ext h'.srt fun a => by rw [h.mem, h'.mem]
theorem take_mem {l : List (BitVec 32)} {k : Nat} {x : BitVec 32} (h : ∀ j, j < k → j < l.length → (l.getD j 0).toNat < x.toNat) : ∀ a, a ∈ l.take k → a.toNat < x.toNat := by
  intro a ha
  obtain ⟨j, hj, e⟩ := List.getElem_of_mem ha
  rw [List.length_take] at hj
  have := h j (by omega) (by omega)
  rw [List.getElem_take] at e
  rw [List.getD_eq_getElem?_getD, List.getElem?_eq_getElem (by omega)] at this
  rw [← e]
  exact this
theorem Po.Set.more {q l : List (BitVec 32)} {i k : Nat} {x : BitVec 32} (h : Po.Set q (l.take i)) (ht : l.take (i + 1) = l.take i ++ [x]) (hs : Po.Srt (q.take k ++ x :: q.drop k)) : Po.Set (q.take k ++ x :: q.drop k) (l.take (i + 1)) := by
  refine ⟨hs, fun a => ?_⟩
  rw [ht, List.mem_append, List.mem_append, List.mem_cons, List.mem_singleton, ← h.mem]
  have h1 : a ∈ q ↔ a ∈ q.take k ∨ a ∈ q.drop k := by
    constructor
    · intro ha
      rw [← List.take_append_drop k q] at ha
      exact List.mem_append.1 ha
    · rintro (ha | ha)
      · exact List.mem_of_mem_take ha
      · exact List.mem_of_mem_drop ha
  rw [h1]
  constructor
  · rintro (e | e | e)
    · exact Or.inl (Or.inl e)
    · exact Or.inr e
    · exact Or.inl (Or.inr e)
  · rintro ((e | e) | e)
    · exact Or.inl e
    · exact Or.inr (Or.inr e)
    · exact Or.inr (Or.inl e)
theorem Po.Set.same {q l : List (BitVec 32)} {i : Nat} {x : BitVec 32} (h : Po.Set q (l.take i)) (ht : l.take (i + 1) = l.take i ++ [x]) (hx : x ∈ q) : Po.Set q (l.take (i + 1)) := by
  refine ⟨h.srt, fun a => ?_⟩
  rw [ht, List.mem_append, List.mem_singleton, ← h.mem]
  constructor
  · exact Or.inl
  · rintro (e | e)
    · exact e
    · rw [e]; exact hx
set_option maxRecDepth 100000 in
set_option maxHeartbeats 2000000 in
theorem sorted_any (a : Option Addr) (n c : Nat) (l : List (BitVec 32)) (w : World) (ha : Words32 w a n l) (hs : n ≤ 1000) :
    Calls Try.prog 21 #[.slice a n c] w fun e w' => (∃ v q, e = .returned v ∧ OwnW 37 w.heap.size w' v q ∧ Po.Set q l) ∧ Below w.heap.size w w' := by
  have hl := ha.1
  have hfresh := Has.fresh w 37 #[]
  have hcp0 : ∀ d dc sd sn sc w0, (Builtin.copy_ #[22, 22] 3 #[.slice d 0 dc, .slice sd sn sc]).run Try.prog w0 = .ok (goInt 0) w0 := fun d dc sd sn sc w0 =>
    run_copy_none (P := Try.prog) w0 22 22 3 37 d sd 0 dc sn sc Try.underlying22 size_word (by simp)
  go_enter Try.func21, Try.ntmps21
  go_wp2
  go_loopw [3, 10] (fun vo iv wr => ∃ (i L : Nat) (o : List (BitVec 32)), i ≤ n ∧ iv = .int .i64 i ∧ o.length = L ∧ L ≤ i ∧ OwnW 37 w.heap.size wr vo o ∧ RowKit.Hid (Po.Set o (l.take i)) ∧ Below w.heap.size w wr) (fun _ iv _ => n - (intOf iv).toNat)
  case atStart => exact ⟨0, 0, [], Nat.zero_le _, rfl, rfl, Nat.le_refl _, OwnW.empty (Nat.le_refl _) hfresh, Lib.hid ⟨List.Pairwise.nil, fun a => Iff.rfl⟩, (Below.refl _ _).alloc (Nat.le_refl _) _⟩
  case round =>
    obtain ⟨i, L, o, hi, rfl, hol, hLi, hown, HO, hb⟩ := hrel
    obtain ⟨ga, gc, rfl, hgc, hg0, hgw⟩ := fresh_shapeK hown.fresh hol
    by_cases hlt : i < n
    · obtain ⟨ad, rfl, hx⟩ := (ha.below hb).2.2 i hlt
      obtain ⟨x, hxe⟩ : ∃ x, x = l.getD i 0 := ⟨_, rfl⟩
      rw [← hxe] at hx
      have hts : l.take (i + 1) = l.take i ++ [x] := by rw [hxe]; exact Po.take_snoc (by omega)
      have HX := Lib.hid hts
      clear hxe hts
      go_wp2
      rename World => wA
      go_loop [6] (fun kv => ∃ k : Nat, k ≤ L ∧ kv = .int .i64 k ∧ RowKit.Hid (∀ j, j < k → j < o.length → (o.getD j 0).toNat < x.toNat)) (fun kv => L - (intOf kv).toNat)
      case atStart => exact ⟨0, Nat.zero_le _, rfl, Lib.hid fun j hj => by omega⟩
      case round =>
        obtain ⟨k, hk, rfl, HJ⟩ := hrel
        by_cases hkL : k < L
        · obtain ⟨gd, rfl, hy⟩ := hgw.2.2 k hkL
          obtain ⟨y, hye⟩ : ∃ y, y = o.getD k 0 := ⟨_, rfl⟩
          rw [← hye] at hy
          have HY := Lib.hid hye
          have hkL' : (k : Int) < (L : Int) := by omega
          have hk0' : (0 : Int) ≤ (k : Int) := by omega
          clear hye
          by_cases hyx : y.toNat < x.toNat
          · have hyx' : nb32 y < nb32 x := by show (y.toNat : Int) < (x.toNat : Int); omega
            have HJ2 : RowKit.Hid (∀ j, j < k + 1 → j < o.length → (o.getD j 0).toNat < x.toNat) := Lib.hid fun j h1 h2 => by
              by_cases e : j = k
              · rw [e, ← HY.out]; exact hyx
              · exact HJ.out j (by omega) h2
            go_wp2
            go_round
            case rel => exact ⟨k + 1, by omega, by go_num, HJ2⟩
            case measure => simp [intOf]; omega
          · have hyx' : ¬ nb32 y < nb32 x := by show ¬ (y.toNat : Int) < (x.toNat : Int); omega
            by_cases hexy : y = x
            · have hyb : (y == x) = true := by simp [hexy]
              have HS := Lib.hid (HO.out.same HX.out (by rw [← hexy, HY.out, List.getD_eq_getElem?_getD, List.getElem?_eq_getElem (by omega)]; exact List.getElem_mem _))
              clear hexy
              go_wp2
              go_roundw
              case rel => exact ⟨i + 1, L, o, by omega, by go_num, hol, by omega, hown, HS, hb⟩
              case measure => simp [intOf]; omega
            · have hyb : (y == x) = false := by simpa using hexy
              have hins : Po.Srt (o.take k ++ x :: o.drop k) := HO.out.srt.insert (take_mem HJ.out) (HO.out.srt.after (by omega) (by
                rw [← HY.out]
                have : y.toNat ≠ x.toNat := fun e => hexy (BitVec.eq_of_toNat_eq e)
                omega))
              have HS := Lib.hid (HO.out.more HX.out hins)
              have hol1 : (o ++ [0#32]).length = L + 1 := by simp; exact hol
              have hle1 : o.length + 1 ≤ 1099511627776 := by omega
              clear hins hexy
              go_wp2_with (first
                | (at_builtin; refine wpList_append_word rfl (.tmp 40) (.tmp 41) 22 rfl 37 Try.underlying22 info_word w.heap.size _ o rfl hown 0#32 rfl hle1 hb.size ?_; intro v' w3 h2 h3; have hB3 := below_own_row (hb.alloc hb.size _) h3 hown.lt; obtain ⟨na, nc, rfl, hnc, hn0, hnw⟩ := fresh_shapeK h2.fresh hol1))
              obtain ⟨g, rfl, hg, ⟨cs, hh, hcs⟩, _⟩ := h2.put (k := k) (by omega)
              have hdl : (o.drop k).length = L - k := by rw [List.length_drop, hol]
              have hcpy := run_copy_cells (P := Try.prog) w3.drew 22 22 3 37 g (k + 1) (L - k) (nc - (k + 1)) ⟨g, k, none⟩ (L + 1 - k) (nc - k) (wlist (o.drop k)) Try.underlying22 size_word
                (by rw [wlist_length, hdl]; exact (Nat.min_eq_right (by omega)).symm)
                (fun j v hv => by
                  have hj : j < (o.drop k).length := by
                    have := (List.getElem?_eq_some_iff.1 hv).1
                    rwa [wlist_length] at this
                  obtain ⟨_, e, hz⟩ := hnw.2.2 (k + j) (by omega)
                  injection e with e
                  subst e
                  rw [Addr.add_mid, Nat.zero_add] at hz
                  rw [Addr.add_mid]
                  refine (show w3.drew.cell? _ = w3.cell? _ from rfl).trans (hz.trans ?_)
                  rw [← hv, wlist_at _ j hj]
                  congr 3
                  rw [List.getD_eq_getElem?_getD, List.getD_eq_getElem?_getD, List.getElem?_append_left (by omega), List.getElem?_drop])
                (fun j hj => by
                  rw [wlist_length, hdl] at hj
                  obtain ⟨_, e, hz⟩ := hnw.2.2 (k + 1 + j) (by omega)
                  injection e with e
                  subst e
                  rw [Addr.add_mid, Nat.zero_add] at hz
                  exact (congrArg Option.isSome hz).trans rfl)
                (fun j hj => hh.loose _) (wlist_one _)
              have hwk1 : IntKind.i64.wrap ((k : Int) + 1) = (k : Int) + 1 := IntWalk.i64_in _ (by omega)
              have hk1a : (0 : Int) ≤ (k : Int) + 1 := by omega
              have hk1b : (k : Int) + 1 ≤ (L : Int) + 1 := by omega
              have hk1c : (k : Int) ≤ (L : Int) + 1 := by omega
              have hnk : ¬ nc = k := by omega
              have hnk1 : ¬ nc = k + 1 := by omega
              refine wp_region_join (w3.drew.setCells g (k + 1) (wlist (o.drop k))) 43 8 ?_ ?_
              · go_region_law fail
                all_goals
                  (refine ⟨rfl, ?_, ?_⟩
                   · simp only [List.take_succ_cons, List.take_zero, List.drop_succ_cons, List.drop_zero]
                     rfl
                   · simp only [List.take_succ_cons, List.take_zero, List.drop_succ_cons, List.drop_zero, List.cons_append, List.nil_append])
              · intro vs hvs
                obtain ⟨_, _, _, _, _, _, _, _, rfl⟩ := list8 hvs
                simp only [List.take_succ_cons, List.take_zero, List.drop_succ_cons, List.drop_zero, List.cons_append, List.nil_append]
                have hoS : OwnW 37 w.heap.size (w3.drew.setCells g (k + 1) (wlist (o.drop k))) (.slice (some ⟨g, 0, none⟩) (L + 1) nc) (putL (o ++ [0]) (k + 1) (o.drop k)) := OwnW.putAll (w := w3.drew) (o.drop k) (k + 1) h2 (by omega)
                have hbS : Below w.heap.size w (w3.drew.setCells g (k + 1) (wlist (o.drop k))) := below_setAll hg (wlist (o.drop k)) (k + 1) hB3.drew
                generalize (w3.drew.setCells g (k + 1) (wlist (o.drop k))) = wS at hoS hbS ⊢
                obtain ⟨g', e, _, ⟨cs', hh', hcs'⟩, hput⟩ := hoS.put (k := k) (by omega)
                injection e with e
                injection e with e
                subst e
                have ho2 := hput x
                rw [insert_list o k x (by omega)] at ho2
                have hcl := hh'.cell_at (i := k) (Array.getElem?_eq_getElem hcs')
                have hlo := hh'.loose k
                have hb2 := hbS.setCell (p := ⟨g, k, none⟩) hg (.int .u32 (nb32 x))
                have hlen : (o.take k ++ x :: o.drop k).length = L + 1 := by
                  rw [List.length_append, List.length_cons, List.length_take, List.length_drop]
                  omega
                have hkS : (k : Int) < (L : Int) + 1 := by omega
                have hk0S : (0 : Int) ≤ (k : Int) := by omega
                clear hput hoS hbS
                go_wp2
                go_roundw
                case rel => exact ⟨i + 1, L + 1, _, by omega, by go_num, hlen, by omega, ho2, HS, hb2⟩
                case measure => simp [intOf]; omega
        · have hkk : k = L := by omega
          subst hkk
          have hkL' : ¬ (k : Int) < (k : Int) := by omega
          have htk : o.take k = o := List.take_of_length_le (by omega)
          have hins : Po.Srt (o.take k ++ x :: o.drop k) := HO.out.srt.insert (take_mem HJ.out) (fun a ha => by rw [List.drop_of_length_le (by omega)] at ha; cases ha)
          have HS := Lib.hid (HO.out.more HX.out hins)
          have hol1 : (o ++ [0#32]).length = k + 1 := by simp; exact hol
          have hle1 : o.length + 1 ≤ 1099511627776 := by omega
          have hwk1 : IntKind.i64.wrap ((k : Int) + 1) = (k : Int) + 1 := IntWalk.i64_in _ (by omega)
          have hk1a : (0 : Int) ≤ (k : Int) + 1 := by omega
          have hk1b : (k : Int) + 1 ≤ (k : Int) + 1 := by omega
          have hk1c : (k : Int) ≤ (k : Int) + 1 := by omega
          clear hins htk
          go_wp2_with (first
            | (at_builtin; refine wpList_append_word rfl (.tmp 40) (.tmp 41) 22 rfl 37 Try.underlying22 info_word w.heap.size _ o rfl hown 0#32 rfl hle1 hb.size ?_; intro v' w3 h2 h3; have hB3 := below_own_row (hb.alloc hb.size _) h3 hown.lt; obtain ⟨na, nc, rfl, hnc, hn0, hnw⟩ := fresh_shapeK h2.fresh hol1))
          obtain ⟨g, rfl, hg, ⟨cs, hh, hcs⟩, _⟩ := h2.put (k := k) (by omega)
          by_cases hcap : nc = k + 1
          · subst hcap
            have hnk : ¬ k + 1 = k := by omega
            refine wp_region_join (w3.drew) 43 8 ?_ ?_
            · go_region_law fail
              all_goals
                (refine ⟨rfl, ?_, ?_⟩
                 · simp only [List.take_succ_cons, List.take_zero, List.drop_succ_cons, List.drop_zero]
                   rfl
                 · simp only [List.take_succ_cons, List.take_zero, List.drop_succ_cons, List.drop_zero, List.cons_append, List.nil_append])
            · intro vs hvs
              obtain ⟨_, _, _, _, _, _, _, _, rfl⟩ := list8 hvs
              simp only [List.take_succ_cons, List.take_zero, List.drop_succ_cons, List.drop_zero, List.cons_append, List.nil_append]
              have hoS : OwnW 37 w.heap.size (w3.drew) (.slice (some ⟨g, 0, none⟩) (k + 1) (k + 1)) (putL (o ++ [0]) (k + 1) (o.drop k)) := by rw [List.drop_of_length_le (by omega)]; exact h2
              have hbS : Below w.heap.size w (w3.drew) := hB3.drew
              generalize (w3.drew) = wS at hoS hbS ⊢
              obtain ⟨g', e, _, ⟨cs', hh', hcs'⟩, hput⟩ := hoS.put (k := k) (by omega)
              injection e with e
              injection e with e
              subst e
              have ho2 := hput x
              rw [insert_list o k x (by omega)] at ho2
              have hcl := hh'.cell_at (i := k) (Array.getElem?_eq_getElem hcs')
              have hlo := hh'.loose k
              have hb2 := hbS.setCell (p := ⟨g, k, none⟩) hg (.int .u32 (nb32 x))
              have hlen : (o.take k ++ x :: o.drop k).length = k + 1 := by
                rw [List.length_append, List.length_cons, List.length_take, List.length_drop]
                omega
              have hkS : (k : Int) < (k : Int) + 1 := by omega
              have hk0S : (0 : Int) ≤ (k : Int) := by omega
              clear hput hoS hbS
              go_wp2
              go_roundw
              case rel => exact ⟨i + 1, k + 1, _, by omega, by go_num, hlen, by omega, ho2, HS, hb2⟩
              case measure => simp [intOf]; omega
          · have hnk : ¬ nc = k := by omega
            refine wp_region_join (w3.drew) 43 8 ?_ ?_
            · go_region_law fail
              all_goals
                (refine ⟨rfl, ?_, ?_⟩
                 · simp only [List.take_succ_cons, List.take_zero, List.drop_succ_cons, List.drop_zero]
                   rfl
                 · simp only [List.take_succ_cons, List.take_zero, List.drop_succ_cons, List.drop_zero, List.cons_append, List.nil_append])
            · intro vs hvs
              obtain ⟨_, _, _, _, _, _, _, _, rfl⟩ := list8 hvs
              simp only [List.take_succ_cons, List.take_zero, List.drop_succ_cons, List.drop_zero, List.cons_append, List.nil_append]
              have hoS : OwnW 37 w.heap.size (w3.drew) (.slice (some ⟨g, 0, none⟩) (k + 1) nc) (putL (o ++ [0]) (k + 1) (o.drop k)) := by rw [List.drop_of_length_le (by omega)]; exact h2
              have hbS : Below w.heap.size w (w3.drew) := hB3.drew
              generalize (w3.drew) = wS at hoS hbS ⊢
              obtain ⟨g', e, _, ⟨cs', hh', hcs'⟩, hput⟩ := hoS.put (k := k) (by omega)
              injection e with e
              injection e with e
              subst e
              have ho2 := hput x
              rw [insert_list o k x (by omega)] at ho2
              have hcl := hh'.cell_at (i := k) (Array.getElem?_eq_getElem hcs')
              have hlo := hh'.loose k
              have hb2 := hbS.setCell (p := ⟨g, k, none⟩) hg (.int .u32 (nb32 x))
              have hlen : (o.take k ++ x :: o.drop k).length = k + 1 := by
                rw [List.length_append, List.length_cons, List.length_take, List.length_drop]
                omega
              have hkS : (k : Int) < (k : Int) + 1 := by omega
              have hk0S : (0 : Int) ≤ (k : Int) := by omega
              clear hput hoS hbS
              go_wp2
              go_roundw
              case rel => exact ⟨i + 1, k + 1, _, by omega, by go_num, hlen, by omega, ho2, HS, hb2⟩
              case measure => simp [intOf]; omega
    · have hti : l.take i = l := List.take_of_length_le (by omega)
      have hset : Po.Set o l := by have := HO.out; rwa [hti] at this
      have HR := Lib.hid hset
      clear hset hti
      go_wp2
      go_ret
      exact ⟨⟨_, o, rfl, hown, HR.out⟩, hb⟩
end Go.Proofs.Ytlackhjlnoefcaa
