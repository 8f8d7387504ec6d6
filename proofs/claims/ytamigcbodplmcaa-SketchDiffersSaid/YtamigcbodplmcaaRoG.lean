/- package roots: found, sorted, All, Split (over what the library's sort does) -/
import Derived.Test.YtamigcbodplmcaaRoP
import Derived.Deep.AppendLies
namespace Go.Proofs.Ytamigcbodplmcaa
open Go Go.RowKit Go.ChangeShapes Go.WideShapes
namespace Po
theorem mulR_swap (b : List E) (x y : List E) : mulR (mulR b x) y = mulR (mulR b y) x := by
  refine (mulR_norm (mulR b x) y).unique ?_
  have h := mulR_norm (mulR b y) x
  rw [mulL_comm, cf_mulR] at h
  rw [mulL_comm (mulR b x), cf_mulR, mulL_swap, mulL_comm y]
  rw [mulL_swap] at h
  exact h
theorem fromL_perm {l m : List E} (h : l.Perm m) : fromL l = fromL m := List.Perm.foldl_eq' h (fun x _ y _ z => mulR_swap z [x, 1] [y, 1]) _
theorem fromL_app : ∀ (k : Nat) (l m : List E), m.length = k → cf (fromL (l ++ m)) = mulL (fromL l) (cf (fromL m))
  | 0, l, m, h => by
    obtain rfl := List.length_eq_zero_iff.1 h
    rw [List.append_nil, show fromL [] = [1] from rfl, cf_one, mulL_oneF]
  | k + 1, l, m, h => by
    obtain ⟨m', r, rfl⟩ : ∃ m' r, m = m' ++ [r] := ⟨m.dropLast, m.getLast (by intro e; subst e; cases h), (List.dropLast_concat_getLast _).symm⟩
    rw [← List.append_assoc, fromL_snoc, cf_mulR, mulL_comm, fromL_app k l m' (by simpa using h), fromL_snoc, cf_mulR, mulL_comm (fromL m'), mulL_swap]
/-- the other roots, by division -/
theorem quot_from {l l0 l1 : List E} (h : (l0 ++ l1).Perm l) : (qr (fromL l) (fromL l0)).1 = fromL l1 := by
  have h1 : IsDiv (fromL l) (fromL l0) (fromL l1) [] := ⟨by
      have h2 := (fromL_all l1)
      exact trim_self (by omega), rfl, by rw [cf_nil, addF_zero, ← fromL_perm h]; exact fromL_app _ _ _ rfl, by
      have : len1 ([] : List E) = 0 := rfl
      have := (fromL_all l0).2
      omega⟩
  rw [h1.qr]
end Po
/-- append(own, x), and where the new slice lies -/
theorem wpList_append_word_at {P : Program} {w : World} {ops : Array Oper} {rest : List Oper} {o : Oper} {a : Act} {Q : Exit → Act → World → Prop} (hgd : o.guard = none) (s x : Operand) (t : TypeId)
    (ho : o.op = .call { callee := .builtin .append, args := #[s, x], argTypes := #[t, t] })
    (T : TypeId) (ht : P.underlying t = some (.slice T)) (hinfo : (P.info? T).map (fun i => (i.zero, i.size, i.bytes)) = some (some (.int .u32 0), 1, 4))
    (B : Nat) (v : Value) (l : List (BitVec 32)) (hs : a.eval s = v) (hown : OwnW T B w v l) (z : BitVec 32) (hx : a.eval x = .slice (some ⟨w.heap.size, 0, none⟩) 1 1)
    (h63 : l.length + 1 ≤ 1099511627776) (hbase : B ≤ w.heap.size)
    (h : ∀ v' w', OwnW T B w' v' (l ++ [z]) → w.grownBy w' v.ownBlock → (∀ k, v'.ownBlock = some k → v.ownBlock = some k ∨ w.heap.size ≤ k) → wpList P ops Q rest (a.put o.dst v') w') : wpList P ops Q (o :: rest) a (w.alloc (.cells #[.int .u32 (nb32 z)] T)) := by
  obtain ⟨i0, hi, hz0, hz1, hz2⟩ := info_parts hinfo
  refine wpList_append_lies (w.alloc (.cells #[.int .u32 (nb32 z)] T)) hgd s x t ho B T i0 (.int .u32 0) 1 4 ht hi hz0 hz1 hz2 rfl (by decide) v _ _ hs (World.ownsRow.alloc hown _) ⟨w.heap.size, 0, none⟩ 1 1 [.int .u32 (nb32 z)] hx rfl (cell_one_new _ _ _) (by simp [Value.oneCell']) (by omega) (by unfold maxLen; omega) (by omega) (by rw [World.size_alloc]; omega) _ rfl ?_
  intro g cap w' h1 h2 h3 _
  refine h _ w' (OwnW.snoc h1) ((World.grownBy_alloc w _ _).trans h2) fun k hk => ?_
  have : g = k := by simpa [Value.ownBlock] using hk
  subst this
  rcases h3 with h3 | h3
  · exact .inl h3
  · exact .inr (by rw [h3, World.size_alloc]; omega)
/-- what a call has done to the list that it was given, l having become l2 -/
structure Led (w w' : World) (v v' : Value) : Prop where
  grown : w.grownBy w' v.ownBlock
  lies : ∀ k, v'.ownBlock = some k → v.ownBlock = some k ∨ w.heap.size ≤ k
theorem Led.of_below {w w' : World} {v : Value} (h : Below w.heap.size w w') : Led w w' v v :=
  ⟨⟨h.os, h.tape, h.output, h.size, fun k hk _ => h.block k hk⟩, fun _ hk => .inl hk⟩
theorem Led.trans {w w' w'' : World} {v v' v'' : Value} (h : Led w w' v v') (h' : Led w' w'' v' v'') : Led w w'' v v'' := by
  refine ⟨h.grown.andThen h'.grown fun j hj => (h.lies j hj).symm, fun k hk => ?_⟩
  rcases h'.lies k hk with e | e
  · exact h.lies k e
  · exact .inr (Nat.le_trans h.grown.size e)
theorem Led.below {w0 w w' : World} {v v' : Value} (h : Led w w' v v') (hb : Below w0.heap.size w0 w) (hv : ∀ k, v.ownBlock = some k → w0.heap.size ≤ k) : Below w0.heap.size w0 w' := below_own_row hb h.grown hv
/-- what lies elsewhere stays -/
theorem Fresh.led {T : TypeId} {B : Nat} {w w' : World} {v v' u : Value} {l : List (BitVec 32)} (h : Fresh T B w u l) (hl : Led w w' v v') (hv : ∀ k, v.ownBlock = some k → k < B) : Fresh T B w' u l :=
  h.carry fun g t cs hg hh => (hl.grown.block g hh.lt (fun e => by have := hv g e.symm; omega)).trans hh
theorem OwnW.lt2 {T : TypeId} {B : Nat} {w : World} {v : Value} {l : List (BitVec 32)} (h : OwnW T B w v l) : ∀ k, v.ownBlock = some k → k < w.heap.size := fun k hk => by
  rcases h.2 with ⟨rfl, _⟩ | ⟨g, cap, cur, rfl, _, hh, _⟩
  · cases hk
  · have : g = k := by simpa [Value.ownBlock] using hk
    subst this
    exact (Array.getElem?_eq_some_iff.1 hh).1
/-- what found answers -/
def FoundOk (k : Nat) : Prop := ∀ (pw : Nat) (l : List (BitVec 32)), pw + k = 32 → Po.Srt l → Po.Agree l pw → l.length ≤ 1000 → ∀ (v : Value) (o : List (BitVec 32)) (B : Nat) (a : Option Addr) (n c : Nat) (w : World), OwnW 54 B w v o → o.length + l.length ≤ 1000000 → B ≤ w.heap.size → Words32 w a n (Po.fromL l) → n ≤ c → (a = none → c = 0) →
    Calls Try.prog 66 #[v, .slice a n c, .int .i64 (pw : Int)] w fun e w' => ∃ v' m, e = .returned v' ∧ m.Perm l ∧ OwnW 54 B w' v' (o ++ m) ∧ Led w w' v v'
set_option linter.unusedVariables false in
theorem found_0 (pw : Nat) (v : Value) (o : List (BitVec 32)) (B : Nat) (a : Option Addr) (n c : Nat) (w : World) (hv : OwnW 54 B w v o) (ha : Words32 w a n (Po.fromL [])) (hB : B ≤ w.heap.size) :
    Calls Try.prog 66 #[v, .slice a n c, .int .i64 (pw : Int)] w fun e w' => ∃ v' m, e = .returned v' ∧ m.Perm [] ∧ OwnW 54 B w' v' (o ++ m) ∧ Led w w' v v' := by
  have hd := deg_from []
  go_enter Try.func66, Try.ntmps66
  go_wp2_with (first
    | (go_at_call 50; refine (pdegree_any _ _ _ _ _ ha).mono ?_; rw [hd]; rintro e w2 ⟨rfl, hb2⟩))
  go_ret
  exact ⟨_, [], rfl, List.Perm.refl _, by rw [List.append_nil]; exact hv.below hb2, Led.of_below hb2⟩
set_option maxRecDepth 100000 in
theorem found_1 (pw : Nat) (r : BitVec 32) (v : Value) (o : List (BitVec 32)) (B : Nat) (a : Option Addr) (n c : Nat) (w : World) (hv : OwnW 54 B w v o) (ho : o.length ≤ 1000000) (ha : Words32 w a n (Po.fromL [r])) (hB : B ≤ w.heap.size) :
    Calls Try.prog 66 #[v, .slice a n c, .int .i64 (pw : Int)] w fun e w' => ∃ v' m, e = .returned v' ∧ m.Perm [r] ∧ OwnW 54 B w' v' (o ++ m) ∧ Led w w' v v' := by
  have hd := deg_from [r]
  have hn := ha.1
  rw [(Po.fromL_all [r]).1] at hn
  change 2 = n at hn
  subst hn
  have ha2 := ha
  rw [Po.fromL_one] at ha2
  obtain ⟨ad, rfl, hx⟩ := ha2.2.2 0 (by omega)
  rw [show ad.add 0 = ad from by unfold Addr.add; cases ad; simp] at hx
  change w.cell? ad = some (.int .u32 (nb32 r)) at hx
  have hxl : ad.block < w.heap.size := isSome_lt (p := ad) (by rw [hx]; rfl)
  go_enter Try.func66, Try.ntmps66
  go_wp2_with (first
    | (at_builtin; refine wpList_append_word_at rfl (.tmp 18) (.tmp 22) 22 rfl 54 Try.underlying22 info_word B _ o rfl (hv.below hb2) r rfl (by omega) (Nat.le_trans hB hb2.size) ?_; intro v' w3 h2 h3 h4)
    | (go_at_call 50; refine (pdegree_any _ _ _ _ _ ha).mono ?_; rw [hd]; rintro e w2 ⟨rfl, hb2⟩; have hx2 := (hb2.cell hxl).trans hx))
  go_ret
  exact ⟨_, [r], rfl, List.Perm.refl _, h2, (Led.of_below hb2).trans ⟨h3, h4⟩⟩
set_option maxRecDepth 100000 in
set_option maxHeartbeats 2000000 in
theorem found_2 (k : Nat) (ih : FoundOk k) (pw : Nat) (l : List (BitVec 32)) (hpw : pw + (k + 1) = 32) (hs : Po.Srt l) (hag : Po.Agree l pw) (hlen : l.length ≤ 1000) (h2 : 2 ≤ l.length) (v : Value) (o : List (BitVec 32)) (B : Nat) (a : Option Addr) (n c : Nat) (w : World) (hv : OwnW 54 B w v o) (ho : o.length + l.length ≤ 1000000) (hB : B ≤ w.heap.size) (ha : Words32 w a n (Po.fromL l)) (hac : n ≤ c) :
    Calls Try.prog 66 #[v, .slice a n c, .int .i64 (pw : Int)] w fun e w' => ∃ v' m, e = .returned v' ∧ m.Perm l ∧ OwnW 54 B w' v' (o ++ m) ∧ Led w w' v v' := by
  have hn := ha.1
  rw [(Po.fromL_all l).1] at hn
  have h0 : Po.len1 (Po.fromL l) ≠ 0 := by rw [(Po.fromL_all l).2]; omega
  have hl1 := (Po.fromL_all l).2
  have hd := deg_from l
  obtain ⟨cc, hcc⟩ : ∃ cc, cc = 1#32 <<< pw := ⟨_, rfl⟩
  obtain ⟨t, ht⟩ : ∃ t, t = Po.trc (Po.fromL l) cc 32 := ⟨_, rfl⟩
  have htl : t.length ≤ n := by rw [ht]; have := Po.trc_len h0 cc 32; omega
  have hte : ∀ x, Po.ev (Po.fromL l) x = 0 → Po.ev t x = Gf.trace (Gf.mul cc x) 32 := fun x hx => by rw [ht]; exact Po.trc_ev h0 hx cc 32
  obtain ⟨l0, hl0⟩ : ∃ l0, l0 = l.filter fun x => Gf.trace (Gf.mul cc x) 32 == 0 := ⟨_, rfl⟩
  obtain ⟨l1, hl1'⟩ : ∃ l1, l1 = l.filter fun x => Gf.trace (Gf.mul cc x) 32 == 1 := ⟨_, rfl⟩
  have hg0 : ∀ g, Po.Gcd (Po.fromL l) t g → g = Po.fromL l0 := fun g hg => by rw [hl0]; exact Po.half_zero hs cc hte hg
  have hs0 : Po.Srt l0 := by rw [hl0]; exact hs.filter _
  have hs1 : Po.Srt l1 := by rw [hl1']; exact hs.filter _
  have hag0 : Po.Agree l0 (pw + 1) := by rw [hl0, hcc]; exact hag.part 0
  have hag1 : Po.Agree l1 (pw + 1) := by rw [hl1', hcc]; exact hag.part 1
  have hpm : (l0 ++ l1).Perm l := by rw [hl0, hl1']; exact Po.part_perm l cc
  have hq := Po.quot_from hpm
  have hln0 : l0.length ≤ 1000 := by rw [hl0]; exact Nat.le_trans (List.length_filter_le _ _) hlen
  have hln1 : l1.length ≤ 1000 := by rw [hl1']; exact Nat.le_trans (List.length_filter_le _ _) hlen
  have hpl := hpm.length_eq
  rw [List.length_append] at hpl
  have hbi : ((pw + 1 : Nat) : Int) = (pw : Int) + 1 := by omega
  have hi0 := ih (pw + 1) l0 (by omega) hs0 hag0 hln0
  have hi1 := ih (pw + 1) l1 (by omega) hs1 hag1 hln1
  rw [hbi] at hi0 hi1
  clear hbi
  have HH := Lib.hid (And.intro hg0 (And.intro hq (And.intro hpm (And.intro hi0 hi1))))
  have HT := Lib.hid ht
  have HC := Lib.hid hcc
  have hf0 := (Po.fromL_all l0).1
  have hf1 := (Po.fromL_all l1).1
  have hz0 : Po.len1 (Po.fromL l0) ≠ 0 := by rw [(Po.fromL_all l0).2]; omega
  have hn1 : n ≤ 1000000 := by omega
  have hn64 : n ≤ 1099511627776 := by omega
  have hn27 : n ≤ 274877906944 := by omega
  have ht27 : t.length ≤ 274877906944 := by omega
  have hl027 : l0.length + 1 ≤ 1099511627776 := by omega
  have ho0 : o.length + l0.length ≤ 1000000 := by omega
  have hvl : ∀ k, v.ownBlock = some k → k < w.heap.size := hv.lt2
  have hbw : IntKind.u64.wrap (pw : Int) = (pw : Int) := by rw [IntKind.wrap_u64]; omega
  have hbw1 : IntKind.i64.wrap ((pw : Int) + 1) = (pw : Int) + 1 := IntWalk.i64_in _ (by omega)
  have hp0 : ¬ (pw : Int) < 0 := by omega
  have hp0n : ¬ (pw : Int) < 0 := by omega
  have c3 : ((l.length : Int) == 0) = false := by rw [beq_eq_false_iff_ne]; omega
  have c4 : ((l.length : Int) == 1) = false := by rw [beq_eq_false_iff_ne]; omega
  clear hg0 hpm hi0 hi1 hcc ht hte hl0 hl1' hs0 hs1 hag0 hag1 hag hs hl1 ih hq
  go_enter Try.func66, Try.ntmps66
  go_wp2_with (first
    | (go_at_call 66; refine (HH.out.2.2.2.2 v5 (o ++ m5) B qa _ qc w5 hv5 (by rw [List.length_append, hml5]; omega) (Nat.le_trans (Nat.le_trans hB hB4.size) hL5.grown.size) hqw5 hqc hq0).mono ?_; rintro e w6 ⟨v6, m6, rfl, hm6, hv6, hL6⟩)
    | (go_at_call 66; refine (HH.out.2.2.2.1 v o B pa _ pc w4 (hv.below hB4) ho0 (Nat.le_trans hB hB4.size) (hpw.below hb4) hpc hp0).mono ?_; rintro e w5 ⟨v5, m5, rfl, hm5, hv5, hL5⟩; have hml5 := hm5.length_eq; have hqw5 := (hu.led hL5 (fun k hk => Nat.lt_of_lt_of_le (hvl k hk) hB3.size)).words.2.2)
    | (go_at_call 78; refine (pdiv_any a pa n c _ pc (Po.fromL l) (Po.fromL l0) w3 (ha.below hB3) hpw hpc hn64 hl027 hz0).mono ?_; rintro e w4 ⟨⟨u4, r4, rfl, hu, hr⟩, hb4⟩; rw [HH.out.2.1] at hu; obtain ⟨qa, qc, rfl, hqc, hq0, hqw⟩ := fresh_shapeK hu hf1; have hB4 := hB3.trans (hb4.mono hB3.size))
    | (go_at_call 63; refine (common_any a ta n c _ tc (Po.fromL l) t w2 (ha.below (hb0.trans (hb1.mono hb0.size))) htw hac htc hn27 ht27).mono ?_; rintro e w3 ⟨⟨v3, g3, rfl, hg3, hv3⟩, hb3⟩; have e3 := HH.out.1 _ hg3; subst e3; obtain ⟨pa, pc, rfl, hpc, hp0, hpw⟩ := fresh_shapeK hv3 hf0; have hB3 := hB2.trans (hb3.mono hB2.size))
    | (go_at_call 77; refine (ptraces_any a n c (Po.fromL l) (1#32 <<< pw) w1 (ha.below hb0) hac hn1 h0).mono ?_; rintro e w2 ⟨⟨v1, rfl, hv1⟩, hb1⟩; rw [← HC.out, ← HT.out] at hv1; obtain ⟨ta, tc, rfl, htc, ht0, htw⟩ := fresh_shape0 hv1; have hB2 := hb0.trans (hb1.mono hb0.size))
    | (go_at_call 50; refine (pdegree_any _ _ _ _ _ ha).mono ?_; rw [hd]; rintro e w1 ⟨rfl, hb0⟩))
  go_ret
  exact ⟨_, m5 ++ m6, rfl, (hm5.append hm6).trans HH.out.2.2.1, by rw [← List.append_assoc]; exact hv6, ((Led.of_below hB4).trans hL5).trans hL6⟩
theorem found_any : ∀ k, FoundOk k := by
  intro k
  induction k with
  | zero =>
    intro pw l hp hs hag hl v o B a n c w hv ho hB ha hac ha0
    obtain rfl : pw = 32 := by omega
    have h1 := hag.all hs
    match l, h1, ho, ha with
    | [], _, _, ha => exact found_0 32 v o B a n c w hv ha hB
    | [r], _, ho, ha => exact found_1 32 r v o B a n c w hv (by simp at ho; omega) ha hB
  | succ k ih =>
    intro pw l hp hs hag hl v o B a n c w hv ho hB ha hac ha0
    match l, hs, hag, hl, ho, ha with
    | [], _, _, _, _, ha => exact found_0 pw v o B a n c w hv ha hB
    | [r], _, _, _, ho, ha => exact found_1 pw r v o B a n c w hv (by simp at ho; omega) ha hB
    | x :: y :: l, hs, hag, hl, ho, ha => exact found_2 k ih pw (x :: y :: l) hp hs hag hl (by simp) v o B a n c w hv ho hB ha hac
/-- what the library's sort does -/
def SortOk : Prop := ∀ (v : Value) (l : List (BitVec 32)) (B : Nat) (w : World), OwnW 54 B w v l → l.length ≤ 200 → B ≤ w.heap.size →
  Calls Try.prog 67 #[v] w fun e w' => e = .returned (.tuple #[]) ∧ (∃ m : List (BitVec 32), m.Perm l ∧ m.Pairwise (fun a b => a.toNat ≤ b.toNat) ∧ OwnW 54 B w' v m) ∧ Led w w' v v
theorem Po.srt_of {l m p : List (BitVec 32)} (hp : m.Perm l) (hl : l.Perm (Po.rts p)) (hs : m.Pairwise fun a b => a.toNat ≤ b.toNat) : m = Po.rts p := by
  have hn : m.Nodup := (hp.trans hl).nodup_iff.2 (Po.rts_srt p).nodup
  refine Po.perm_rts hl hp ?_
  exact List.Pairwise.imp₂ (fun a b h1 h2 => by
    have : a.toNat ≠ b.toNat := fun e => h2 (BitVec.eq_of_toNat_eq e)
    omega) hs hn
theorem psorted_any (S : SortOk) (a : Option Addr) (n c : Nat) (p : List (BitVec 32)) (w : World) (ha : Words32 w a n (Po.fromL (Po.rts p))) (hac : n ≤ c) (ha0 : a = none → c = 0) (hl : (Po.rts p).length ≤ 200) :
    Calls Try.prog 51 #[.slice a n c] w fun e w' => (∃ v, e = .returned v ∧ Fresh 54 w.heap.size w' v (Po.rts p)) ∧ Below w.heap.size w w' := by
  go_enter Try.func51, Try.ntmps51
  go_wp2_with (first
    | (go_at_call 67; refine (S v1 m1 w.heap.size w1 hv1 (by rw [hml]; exact hl) hL1.grown.size).mono ?_; rintro e w2 ⟨rfl, ⟨m2, hm2, hs2, hv2⟩, hL2⟩; have em := Po.srt_of hm2 hm1 hs2; subst em)
    | (go_at_call 66; refine (found_any 32 0 (Po.rts p) rfl (Po.rts_srt p) (Po.Agree.start _) (by omega) (.slice none 0 0) [] w.heap.size a n c w (OwnW.nil _ _ _) (by simp; omega) (Nat.le_refl _) ha hac ha0).mono ?_; rintro e w1 ⟨v1, m1, rfl, hm1, hv1, hL1⟩; have hml := hm1.length_eq; rw [List.nil_append] at hv1))
  go_ret
  exact ⟨⟨_, rfl, hv2.fresh⟩, (hL1.trans hL2).below (Below.refl _ _) (fun k hk => by cases hk)⟩
theorem Po.rts_le {l : List (BitVec 32)} (h : Po.Fits l) : (Po.rts l).length ≤ 200 := by
  have := Po.count_le h.1 (Po.rts_srt l).nodup fun x hx => Po.rts_mem.1 hx
  have := h.2
  omega
theorem psplit_no1 (a : Option Addr) (n c : Nat) (l : List (BitVec 32)) (w : World) (ha : Words32 w a n l) (hno : ¬ Po.Fits l) :
    Calls Try.prog 36 #[.slice a n c] w fun e w' => (∃ a' c', e = .returned (.tuple #[.slice a' 0 c', .bool false])) ∧ Below w.heap.size w w' := by
  go_enter Try.func36, Try.ntmps36
  go_wp2_with (first
    | (go_at_call 49; refine (plinear_no a n c l _ ha hno).mono ?_; rintro e w1 ⟨⟨a', c', rfl⟩, hb1⟩; unfold errRange))
  go_ret2
  exact ⟨⟨_, _, rfl⟩, hb1⟩
theorem psplit_no2 (a : Option Addr) (n c : Nat) (l : List (BitVec 32)) (w : World) (ha : Words32 w a n l) (hac : n ≤ c) (hs : n ≤ 1000) (hfit : Po.Fits l) (hne : (Po.rts l).length + 1 ≠ Po.len1 l) :
    Calls Try.prog 36 #[.slice a n c] w fun e w' => (∃ a' c', e = .returned (.tuple #[.slice a' 0 c', .bool false])) ∧ Below w.heap.size w w' := by
  have hd := deg_from (Po.rts l)
  have hc : (((Po.rts l).length : Int) != (Po.len1 l : Int) - 1) = true := by rw [bne_iff_ne]; omega
  clear hne
  go_enter Try.func36, Try.ntmps36
  go_wp2_with (first
    | (go_at_call 50; refine (pdegree_any a n c l w2 (ha.below (hb1.trans (hb2.mono hb1.size)))).mono ?_; rintro e w3 ⟨rfl, hb3⟩)
    | (go_at_call 50; refine (pdegree_any _ _ _ _ _ hpw).mono ?_; rw [hd]; rintro e w2 ⟨rfl, hb2⟩)
    | (go_at_call 49; refine (plinear_ok a n c l _ ha hac hs hfit).mono ?_; rintro e w1 ⟨⟨v1, rfl, hv1⟩, hb1⟩; obtain ⟨pa, pc, rfl, hpc, hp0, hpw⟩ := fresh_shape0 hv1))
  go_ret2
  have hb12 := hb1.trans (hb2.mono hb1.size)
  exact ⟨⟨_, _, rfl⟩, hb12.trans (hb3.mono hb12.size)⟩
theorem psplit_ok (S : SortOk) (a : Option Addr) (n c : Nat) (l : List (BitVec 32)) (w : World) (ha : Words32 w a n l) (hac : n ≤ c) (hs : n ≤ 1000) (hfit : Po.Fits l) (he : (Po.rts l).length + 1 = Po.len1 l) :
    Calls Try.prog 36 #[.slice a n c] w fun e w' => (∃ v, e = .returned (.tuple #[v, .bool true]) ∧ Fresh 54 w.heap.size w' v (Po.rts l)) ∧ Below w.heap.size w w' := by
  have hd := deg_from (Po.rts l)
  have hc : (((Po.rts l).length : Int) != (Po.len1 l : Int) - 1) = false := by rw [bne_eq_false_iff_eq]; omega
  clear he
  go_enter Try.func36, Try.ntmps36
  go_wp2_with (first
    | (go_at_call 51; refine (psorted_any S pa _ pc l w3 ((hpw.below hb2).below hb3) hpc hp0 (Po.rts_le hfit)).mono ?_; rintro e w4 ⟨⟨v4, rfl, hv4⟩, hb4⟩)
    | (go_at_call 50; refine (pdegree_any a n c l w2 (ha.below (hb1.trans (hb2.mono hb1.size)))).mono ?_; rintro e w3 ⟨rfl, hb3⟩)
    | (go_at_call 50; refine (pdegree_any _ _ _ _ _ hpw).mono ?_; rw [hd]; rintro e w2 ⟨rfl, hb2⟩)
    | (go_at_call 49; refine (plinear_ok a n c l _ ha hac hs hfit).mono ?_; rintro e w1 ⟨⟨v1, rfl, hv1⟩, hb1⟩; obtain ⟨pa, pc, rfl, hpc, hp0, hpw⟩ := fresh_shape0 hv1))
  go_ret2
  have hb12 := hb1.trans (hb2.mono hb1.size)
  have hb13 := hb12.trans (hb3.mono hb12.size)
  exact ⟨⟨_, rfl, hv4.low hb13.size⟩, hb13.trans (hb4.mono hb13.size)⟩
end Go.Proofs.Ytamigcbodplmcaa
