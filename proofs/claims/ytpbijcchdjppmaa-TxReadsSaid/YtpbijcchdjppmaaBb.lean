/- Slices of bytes: how they are read, appended to and turned into strings. Nothing of the program's own. -/
import Derived.Test.YtpbijcchdjppmaaProg
import Derived.Test.YtpbijcchdjppmaaU
import Derived.Test.YtpbijcchdjppmaaB
import Derived.Test.YtpbijcchdjppmaaRow
import Derived.Test.YtpbijcchdjppmaaSl
import Derived.Laws.AppendOwnNone
import Derived.Maps.AppendAt
import Derived.Laws.BytesArg
import Derived.Laws.Concat
import Derived.OpenShut
namespace Go.Proofs.Ytpbijcchdjppmaa
open Go Go.RowKit Go.ChangeShapes Go.WideShapes
theorem info_byte : (Try.prog.info? 5).map (fun i => (i.zero, i.size, i.bytes)) = some (some (.int .u8 0), 1, 1) := by kernel_rfl
theorem u8_inj {x y : BitVec 8} : nb8 x = nb8 y ↔ x = y := by
  simp only [nb8, Int.natCast_inj, BitVec.toNat_inj]
theorem u8_of_bounds {a : Int} (h0 : 0 ≤ a) (h1 : a < 256) : ∃ x : BitVec 8, a = nb8 x := by
  obtain ⟨n, rfl⟩ := Int.eq_ofNat_of_zero_le h0
  exact ⟨BitVec.ofNat 8 n, by simp only [nb8, BitVec.toNat_ofNat]; omega⟩
@[go_sem high] theorem u32_to_u8 (x : BitVec 32) : IntKind.u8.wrap (nb32 x) = nb8 (x.setWidth 8) := by
  rw [IntKind.wrap_u8]; simp only [nb32, nb8, BitVec.toNat_setWidth]; have := x.isLt; omega
@[go_sem high] theorem u8_to_u32 (x : BitVec 8) : IntKind.u32.wrap (nb8 x) = nb32 (x.setWidth 32) := by
  rw [IntKind.wrap_u32']; simp only [nb32, nb8, BitVec.toNat_setWidth]; have := x.isLt; omega
section
variable (t : TypeId)
@[go_sem high] theorem u32_quo_l (x : BitVec 32) (n : Nat) (h0 : n ≠ 0) (h : n < 4294967296) : binOp .quo t (.int .u32 (nb32 x)) (.int .u32 (no_index (OfNat.ofNat n))) = pure (.int .u32 (nb32 (x / BitVec.ofNat 32 n))) := by
  have hlt : x.toNat / n < 4294967296 := Nat.lt_of_le_of_lt (Nat.div_le_self _ _) x.isLt
  rw [binOp_quo]
  refine (quo_nat _ x.toNat n h0).trans ?_
  congr 2
  rw [IntKind.wrap_u32']
  simp only [nb32, BitVec.toNat_udiv, BitVec.toNat_ofNat]
  rw [Nat.mod_eq_of_lt (a := n) (by omega)]
  generalize x.toNat / n = q at hlt ⊢
  omega
@[go_sem high] theorem u32_mul_lv (y : BitVec 32) (n : Nat) : binOp .mul t (.int .u32 (no_index (OfNat.ofNat n))) (.int .u32 (nb32 y)) = pure (.int .u32 (nb32 (BitVec.ofNat 32 n * y))) := by
  rw [binOp_mul]; show pure (Value.int .u32 (IntKind.u32.wrap ((n : Int) * nb32 y))) = _
  congr 2
  have e : (BitVec.ofNat 32 n * y).toNat = (n * y.toNat) % 2 ^ 32 := by rw [BitVec.toNat_mul, BitVec.toNat_ofNat, Nat.mod_mul_mod]
  rw [IntKind.wrap_u32']
  show (n : Int) * ((y.toNat : Nat) : Int) % _ = (((BitVec.ofNat 32 n * y).toNat : Nat) : Int)
  rw [e]
  rfl
end
/-- the place i of a list of bytes -/
def cb (l : List (BitVec 8)) (i : Nat) : BitVec 8 := l.getD i 0
/-! the slices -/
def blist (l : List (BitVec 8)) : List Value := l.map fun x => .int .u8 (nb8 x)
theorem blist_length (l : List (BitVec 8)) : (blist l).length = l.length := by simp [blist]
theorem blist_at (l : List (BitVec 8)) (i : Nat) (h : i < l.length) : (blist l)[i]? = some (.int .u8 (nb8 (cb l i))) := by
  rw [blist, List.getElem?_map, cb, List.getD_eq_getElem?_getD, List.getElem?_eq_getElem h]; rfl
theorem blist_one (l : List (BitVec 8)) : ∀ v ∈ blist l, v.oneCell' = true := by
  intro v hv
  rw [blist, List.mem_map] at hv
  obtain ⟨x, _, rfl⟩ := hv
  rfl
theorem blist_app (l m : List (BitVec 8)) : blist (l ++ m) = blist l ++ blist m := by simp [blist]
/-- a slice of bytes: its elements l, readable where there are any -/
def Bytes8 (w : World) (a : Option Addr) (n : Nat) (l : List (BitVec 8)) : Prop :=
  l.length = n ∧ n ≤ maxLen ∧ ∀ i, i < n → ∃ x, a = some x ∧ w.cell? (x.add i) = some (.int .u8 (nb8 (cb l i)))
theorem Bytes8.keep {w w' : World} {a : Option Addr} {n : Nat} {l : List (BitVec 8)} (h : Bytes8 w a n l) (hk : ∀ p : Addr, (w.cell? p).isSome = true → w'.cell? p = w.cell? p) : Bytes8 w' a n l := by
  refine ⟨h.1, h.2.1, fun i hi => ?_⟩
  obtain ⟨x, rfl, hx⟩ := h.2.2 i hi
  exact ⟨x, rfl, by rw [hk _ (by rw [hx]; rfl)]; exact hx⟩
theorem Bytes8.below {w w' : World} {a : Option Addr} {n : Nat} {l : List (BitVec 8)} (h : Bytes8 w a n l) (hb : Below w.heap.size w w') : Bytes8 w' a n l :=
  h.keep fun _ hp => hb.cell (isSome_lt hp)
theorem Bytes8.past {w : World} {a : Option Addr} {n : Nat} {l : List (BitVec 8)} (h : Bytes8 w a n l) (o : Obj) : Bytes8 (w.alloc o) a n l := h.keep fun p hp => World.cell?_alloc_lt w o p (isSome_lt hp)
theorem Bytes8.draw {w : World} {a : Option Addr} {n : Nat} {l : List (BitVec 8)} (h : Bytes8 w a n l) : Bytes8 w.drew a n l := h
theorem Bytes8.draws {w : World} {a : Option Addr} {n : Nat} {l : List (BitVec 8)} (h : Bytes8 w a n l) (m : Nat) : Bytes8 (w.drewN m) a n l := h
theorem bytes_none (w : World) : Bytes8 w none 0 [] := ⟨rfl, by unfold maxLen; omega, fun i hi => by omega⟩
/-- v is the call's own slice of bytes, made since block B; l: its elements -/
def OwnB (T : TypeId) (B : Nat) (w : World) (v : Value) (l : List (BitVec 8)) : Prop := w.ownsRow B T 1 v l.length (blist l)
section
variable {T : TypeId} {B : Nat} {w w' : World} {v : Value} {l : List (BitVec 8)}
theorem OwnB.nil (T : TypeId) (B : Nat) (w : World) : OwnB T B w (.slice none 0 0) [] := World.ownsRow_nil _ _ _ _
theorem OwnB.all {m : List (BitVec 8)} {k : Nat} (hk : m.length = k) (h : w'.ownsRow B T 1 v (l.length + k) (blist l ++ blist m)) : OwnB T B w' v (l ++ m) := by
  subst hk
  unfold OwnB
  rw [blist_app]
  simpa using h
theorem OwnB.lt (h : OwnB T B w v l) : ∀ k, v.ownBlock = some k → B ≤ k := fun k hk => (World.ownsRow.lt h k hk).1
theorem OwnB.below (h : OwnB T B w v l) (hb : Below w.heap.size w w') : OwnB T B w' v l := by
  refine ⟨h.1, ?_⟩
  rcases h.2 with hn | ⟨G, cap, cur, rfl, h1, h2, rest⟩
  · exact .inl hn
  · exact .inr ⟨G, cap, cur, rfl, h1, (hb.block _ (Array.getElem?_eq_some_iff.1 h2).1).trans h2, rest⟩
theorem OwnB.low {B' : Nat} (h : OwnB T B w v l) (hB : B' ≤ B) : OwnB T B' w v l := by
  refine ⟨h.1, ?_⟩
  rcases h.2 with hn | ⟨G, cap, cur, rfl, h1, h2⟩
  · exact .inl hn
  · exact .inr ⟨G, cap, cur, rfl, by omega, h2⟩
theorem OwnB.draws (h : OwnB T B w v l) (n : Nat) : OwnB T B (w.drewN n) v l := h
/-- to read it -/
theorem OwnB.shape {K : Nat} (h : OwnB T B w v l) (hK : l.length = K) : ∃ a c, v = .slice a K c ∧ K ≤ c ∧ (a = none → c = 0) ∧ Bytes8 w a K l := by
  subst hK
  obtain ⟨hl, ⟨rfl, h0⟩ | ⟨g, cap, cur, rfl, hg, hh, hn, hm, hc, ht⟩⟩ := h
  · obtain rfl := List.length_eq_zero_iff.1 h0
    exact ⟨none, 0, rfl, Nat.le_refl _, fun _ => rfl, bytes_none w⟩
  · refine ⟨_, cap, rfl, hn, (fun e => by cases e), rfl, by omega, fun i hi => ⟨_, rfl, ?_⟩⟩
    rw [Addr.add_mid, Nat.zero_add, (show Has w g T cur from hh).cell i, ← blist_at l i hi, ← ht, List.getElem?_take, if_pos (by omega), Array.getElem?_toList]
end
theorem below_own_rowb {w0 w w' : World} {row : Option Nat} (hb : Below w0.heap.size w0 w) (hg : w.grownBy w' row) (hr : ∀ k, row = some k → w0.heap.size ≤ k) : Below w0.heap.size w0 w' := hb.grown hg hb.size hr
/-- append(own, b0, .., bm), its literal behind -/
theorem wpList_append_lit {P : Program} {w : World} {ops : Array Oper} {rest : List Oper} {o : Oper} {a : Act} {Q : Exit → Act → World → Prop} (hgd : o.guard = none) (s x : Operand) (t : TypeId)
    (ho : o.op = .call { callee := .builtin .append, args := #[s, x], argTypes := #[t, t] })
    (T : TypeId) (ht : P.underlying t = some (.slice T)) (hinfo : (P.info? T).map (fun i => (i.zero, i.size, i.bytes)) = some (some (.int .u8 0), 1, 1))
    (B : Nat) (v : Value) (l : List (BitVec 8)) (hs : a.eval s = v) (hown : OwnB T B w v l) (m : Nat) (l2 : List (BitVec 8)) (hl2 : l2.length = m) (cs : Array Value) (hcs : cs = (blist l2).toArray) (hx : a.eval x = .slice (some ⟨w.heap.size, 0, none⟩) m m)
    (h63 : l.length + m ≤ 1099511627776) (hbase : B ≤ w.heap.size)
    (h : ∀ v' w', OwnB T B w' v' (l ++ l2) → (w.alloc (.cells cs T)).grownBy w' v.ownBlock → wpList P ops Q rest (a.put o.dst v') w') : wpList P ops Q (o :: rest) a (w.alloc (.cells cs T)) := by
  obtain ⟨i0, hi, hz0, hz1, hz2⟩ := info_parts hinfo
  refine wpList_append_own (w.alloc (.cells cs T)) hgd s x t ho B T i0 (.int .u8 0) 1 1 ht hi hz0 hz1 hz2 rfl (by decide) v _ _ hs (World.ownsRow.alloc hown _) ⟨w.heap.size, 0, none⟩ m m (blist l2) hx (by rw [blist_length, hl2, Nat.mul_one]) (fun j u hj => ?_) (blist_one _) (by unfold maxLen; omega) (by omega) (by rw [World.size_alloc]; omega) ?_
  · rw [Addr.add_mid, Nat.zero_add, (Has.fresh w T cs).cell, hcs, ← Array.getElem?_toList]
    exact hj
  · intro v' w' h1 h2 _
    exact h v' w' (OwnB.all hl2 h1) h2
/-- the empty slice as a literal -/
theorem OwnB.empty {T : TypeId} {B : Nat} {w1 : World} {g : Nat} (hB : B ≤ g) (hh : Has w1 g T #[]) : OwnB T B w1 (.slice (some ⟨g, 0, none⟩) 0 0) [] :=
  ⟨rfl, .inr ⟨g, 0, #[], rfl, hB, hh, Nat.le_refl _, by unfold maxLen; omega, rfl, rfl⟩⟩
/-- append(own, a...), a whatever -/
theorem wpList_append_bytes {P : Program} {w : World} {ops : Array Oper} {rest : List Oper} {o : Oper} {a : Act} {Q : Exit → Act → World → Prop} (hgd : o.guard = none) (s x : Operand) (t : TypeId)
    (ho : o.op = .call { callee := .builtin .append, args := #[s, x], argTypes := #[t, t] })
    (T : TypeId) (ht : P.underlying t = some (.slice T)) (hinfo : (P.info? T).map (fun i => (i.zero, i.size, i.bytes)) = some (some (.int .u8 0), 1, 1))
    (B : Nat) (v : Value) (l : List (BitVec 8)) (hs : a.eval s = v) (hown : OwnB T B w v l) (ad : Option Addr) (m c : Nat) (l2 : List (BitVec 8)) (hx : a.eval x = .slice ad m c) (hw : Bytes8 w ad m l2) (hc : ad = none → c = 0)
    (h63 : l.length + m ≤ 1099511627776) (hbase : B ≤ w.heap.size)
    (h : ∀ v' w', OwnB T B w' v' (l ++ l2) → w.grownBy w' v.ownBlock → wpList P ops Q rest (a.put o.dst v') w') : wpList P ops Q (o :: rest) a w := by
  obtain ⟨i0, hi, hz0, hz1, hz2⟩ := info_parts hinfo
  obtain ⟨hl2, hm, hcell⟩ := hw
  rcases ad with _ | ad
  · have h0 : m = 0 := by
      rcases Nat.eq_zero_or_pos m with h0 | h0
      · exact h0
      · obtain ⟨_, e, _⟩ := hcell 0 h0
        cases e
    subst h0
    obtain rfl := List.length_eq_zero_iff.1 hl2
    obtain rfl := hc rfl
    exact wpList_append_own_none hgd s x t ho B T i0 1 ht hi v _ _ hs hown hx (h v w (by simpa using hown) (World.grownBy.refl w _))
  · refine wpList_append_own w hgd s x t ho B T i0 (.int .u8 0) 1 1 ht hi hz0 hz1 hz2 rfl (by decide) v _ _ hs hown ad m c (blist l2) hx (by rw [blist_length, hl2, Nat.mul_one]) (fun j u hj => ?_) (blist_one _) (by unfold maxLen; omega) (by omega) hbase ?_
    · have hj2 : j < l2.length := by
        have := (List.getElem?_eq_some_iff.1 hj).1
        rwa [blist_length] at this
      obtain ⟨ad', e, hx2⟩ := hcell j (by omega)
      injection e with e
      subst e
      rw [hx2, ← hj, blist_at l2 j hj2]
    · intro v' w' h1 h2 _
      exact h v' w' (OwnB.all hl2 h1) h2
/-! strings -/
def strB (l : List (BitVec 8)) : ByteArray := strOfNums (l.map nb8)
theorem strB_append (l m : List (BitVec 8)) : strB l ++ strB m = strB (l ++ m) := by
  unfold strB strOfNums
  apply ByteArray.ext
  simp
theorem strB_size (l : List (BitVec 8)) : (strB l).size = l.length := by
  unfold strB
  rw [strOfNums_size, List.length_map]
theorem run_string {P : Program} (src dst e : TypeId) (hs : P.underlying src = some (.slice e)) (he : P.underlying e = some (.int .u8)) (hd : P.underlying dst = some .string) {w : World} {a : Option Addr} {n c : Nat} {l : List (BitVec 8)} (h : Bytes8 w a n l) :
    (convert src dst (.slice a n c)).run P w = .ok (.string (strB l)) w := by
  obtain ⟨hl, _, hc⟩ := h
  rcases Nat.eq_zero_or_pos n with h0 | h0
  · subst h0
    obtain rfl := List.length_eq_zero_iff.1 hl
    rcases a with _ | a
    · exact run_convert_bytes_nil w src e hs he 0 c dst hd
    · rw [run_convert_bytes_string w src dst e _ 0 c hs he hd, run_bytesToString w a 0 c [] (run_loadCells_list w a [] (fun j v hj => by simp at hj))]
      rfl
  · obtain ⟨ad, rfl, _⟩ := hc 0 h0
    have h1 : (loadCells ad n).run P w = .ok ((l.map nb8).map (Value.int .u8)).toArray w := by
      have := run_loadCells_list (P := P) w ad (blist l) (fun j v hj => by
        have hjl : j < l.length := by
          have := (List.getElem?_eq_some_iff.1 hj).1
          rwa [blist_length] at this
        obtain ⟨_, e, hx⟩ := hc j (by omega)
        injection e with e
        subst e
        rw [hx, ← hj, blist_at l j hjl])
      rw [blist_length, hl] at this
      rw [this]
      simp [blist]
    rw [run_convert_bytes_string w src dst e _ n c hs he hd, run_bytesToString w ad n c _ h1, foldl_push_bytes]
    unfold strB strOfNums
    simp [ByteArray.empty, ByteArray.emptyWithCapacity]
    rfl
section
variable {H : Type} {enc : TypeId × Value → H} {P : Program} {W : World} {base : Nat} {v : Value} {d : DataW H} {p : List MemPlace}
theorem u8_of_wf {a : Int} (h : (Lit.int .u8 a).wf = true) : ∃ x : BitVec 8, a = nb8 x := by
  have := bounds_u8 h
  exact u8_of_bounds this.1 (by omega)
theorem u8_list : ∀ {zs : List Int}, (∀ n ∈ zs, (Lit.int .u8 n).wf = true) → ∃ l : List (BitVec 8), zs = l.map nb8
  | [], _ => ⟨[], rfl⟩
  | z :: zs, h => by
    obtain ⟨x, rfl⟩ := u8_of_wf (h z (by simp))
    obtain ⟨l, rfl⟩ := u8_list (zs := zs) (fun n hn => h n (by simp [hn]))
    exact ⟨x :: l, rfl⟩
theorem bytes_of_row {w : World} {a : Option Addr} {len cap : Nat} {zs : List Int} (h : IsRow .u8 w a len cap zs) : ∃ l, Bytes8 w a len l := by
  rcases h with ⟨rfl, rfl, rfl, rfl⟩ | ⟨x, rfl, hl, hm, hz, hc, hw⟩
  · exact ⟨[], bytes_none w⟩
  · obtain ⟨l, rfl⟩ := u8_list hw
    rw [List.length_map] at hz
    refine ⟨l.take len, by simp; omega, by omega, fun i hi => ⟨x, rfl, ?_⟩⟩
    rw [hc i (by rw [List.length_map]; omega)]
    congr 2
    unfold cb
    rw [List.getD_eq_getElem?_getD, List.getD_eq_getElem?_getD, List.getElem?_map, List.getElem?_take, if_pos hi]
    have : i < l.length := by omega
    rw [List.getElem?_eq_getElem this]
    rfl
theorem arg_bytes {t e : TypeId} (ht : P.underlying t = some (.slice e)) (he : P.underlying e = some (.int .u8)) (hc : P.cellsOf e = 1) (o : Value.okWide P W .any base t v) (h : DataW.Trod enc P W 0 (fun _ => true) true t v d p) :
    ∃ (a : Option Addr) (n c : Nat) (l : List (BitVec 8)), v = .slice a n c ∧ Bytes8 W a n l ∧ n ≤ c ∧ (a = none → c = 0) := by
  obtain ⟨a, n, c, rfl⟩ := okWide_slice ht o
  obtain ⟨fuel, hf⟩ := h
  refine ⟨a, n, c, ?_⟩
  rcases open_ints ht he hc hf with ⟨hcs, _⟩ | ⟨x, l, cp, zs, hcs, _, hl, hm, hz, _, hcell, hwz⟩
  · simp [Value.cells] at hcs
    obtain ⟨rfl, rfl, rfl⟩ := hcs
    exact ⟨[], rfl, bytes_none W, Nat.le_refl _, fun _ => rfl⟩
  · simp [Value.cells] at hcs
    obtain ⟨rfl, rfl, rfl⟩ := hcs
    obtain ⟨l, hw⟩ := bytes_of_row (w := W) (.inr ⟨_, rfl, hl, hm, by simpa using hz, hcell, hwz⟩)
    exact ⟨l, rfl, hw, hl, fun e => by cases e⟩
end
end Go.Proofs.Ytpbijcchdjppmaa
