/- Slices of ints: how they are read and appended to, compared. Nothing of the program's own. -/
import Derived.Test.YtpbijcchdjppmaaRows
import Derived.Test.YtpbijcchdjppmaaB
import Derived.Test.YtpbijcchdjppmaaRow
import Derived.Test.YtpbijcchdjppmaaSl
import Derived.Laws.AppendOwnNone
import Derived.Maps.AppendAt
import Derived.OpenShut
import Derived.BigQuiet
import Derived.Deep.QuietTactic
import Derived.Lib.Hide
namespace Go.Proofs.Ytpbijcchdjppmaa
open Go Go.RowKit Go.ChangeShapes Go.WideShapes
theorem info_num : (Try.prog.info? 3).map (fun i => (i.zero, i.size, i.bytes)) = some (some (.int .i64 0), 1, 8) := by kernel_rfl
/-- the place i of a list of numbers -/
def cn (l : List (Int)) (i : Nat) : Int := l.getD i 0
/-! the slices -/
def nlist (l : List (Int)) : List Value := l.map fun x => .int .i64 (x)
theorem nlist_length (l : List (Int)) : (nlist l).length = l.length := by simp [nlist]
theorem nlist_at (l : List (Int)) (i : Nat) (h : i < l.length) : (nlist l)[i]? = some (.int .i64 ((cn l i))) := by
  rw [nlist, List.getElem?_map, cn, List.getD_eq_getElem?_getD, List.getElem?_eq_getElem h]; rfl
theorem nlist_one (l : List (Int)) : ∀ v ∈ nlist l, v.oneCell' = true := by
  intro v hv
  rw [nlist, List.mem_map] at hv
  obtain ⟨x, _, rfl⟩ := hv
  rfl
theorem nlist_app (l m : List (Int)) : nlist (l ++ m) = nlist l ++ nlist m := by simp [nlist]
/-- a slice of numbers: its elements l, readable where there are any -/
def Nums (w : World) (a : Option Addr) (n : Nat) (l : List (Int)) : Prop :=
  l.length = n ∧ n ≤ maxLen ∧ ∀ i, i < n → ∃ x, a = some x ∧ w.cell? (x.add i) = some (.int .i64 ((cn l i)))
theorem Nums.keep {w w' : World} {a : Option Addr} {n : Nat} {l : List (Int)} (h : Nums w a n l) (hk : ∀ p : Addr, (w.cell? p).isSome = true → w'.cell? p = w.cell? p) : Nums w' a n l := by
  refine ⟨h.1, h.2.1, fun i hi => ?_⟩
  obtain ⟨x, rfl, hx⟩ := h.2.2 i hi
  exact ⟨x, rfl, by rw [hk _ (by rw [hx]; rfl)]; exact hx⟩
theorem Nums.below {w w' : World} {a : Option Addr} {n : Nat} {l : List (Int)} (h : Nums w a n l) (hb : Below w.heap.size w w') : Nums w' a n l :=
  h.keep fun _ hp => hb.cell (isSome_lt hp)
theorem Nums.past {w : World} {a : Option Addr} {n : Nat} {l : List (Int)} (h : Nums w a n l) (o : Obj) : Nums (w.alloc o) a n l := h.keep fun p hp => World.cell?_alloc_lt w o p (isSome_lt hp)
theorem Nums.draw {w : World} {a : Option Addr} {n : Nat} {l : List (Int)} (h : Nums w a n l) : Nums w.drew a n l := h
theorem Nums.draws {w : World} {a : Option Addr} {n : Nat} {l : List (Int)} (h : Nums w a n l) (m : Nat) : Nums (w.drewN m) a n l := h
theorem nums_none (w : World) : Nums w none 0 [] := ⟨rfl, by unfold maxLen; omega, fun i hi => by omega⟩
/-- v is the call's own slice of numbers, made since block B; l: its elements -/
def OwnN (T : TypeId) (B : Nat) (w : World) (v : Value) (l : List (Int)) : Prop := w.ownsRow B T 1 v l.length (nlist l)
section
variable {T : TypeId} {B : Nat} {w w' : World} {v : Value} {l : List (Int)}
theorem OwnN.nil (T : TypeId) (B : Nat) (w : World) : OwnN T B w (.slice none 0 0) [] := World.ownsRow_nil _ _ _ _
theorem OwnN.all {m : List (Int)} {k : Nat} (hk : m.length = k) (h : w'.ownsRow B T 1 v (l.length + k) (nlist l ++ nlist m)) : OwnN T B w' v (l ++ m) := by
  subst hk
  unfold OwnN
  rw [nlist_app]
  simpa using h
theorem OwnN.lt (h : OwnN T B w v l) : ∀ k, v.ownBlock = some k → B ≤ k := fun k hk => (World.ownsRow.lt h k hk).1
theorem OwnN.below (h : OwnN T B w v l) (hb : Below w.heap.size w w') : OwnN T B w' v l := by
  refine ⟨h.1, ?_⟩
  rcases h.2 with hn | ⟨G, cap, cur, rfl, h1, h2, rest⟩
  · exact .inl hn
  · exact .inr ⟨G, cap, cur, rfl, h1, (hb.block _ (Array.getElem?_eq_some_iff.1 h2).1).trans h2, rest⟩
theorem OwnN.low {B' : Nat} (h : OwnN T B w v l) (hB : B' ≤ B) : OwnN T B' w v l := by
  refine ⟨h.1, ?_⟩
  rcases h.2 with hn | ⟨G, cap, cur, rfl, h1, h2⟩
  · exact .inl hn
  · exact .inr ⟨G, cap, cur, rfl, by omega, h2⟩
theorem OwnN.draws (h : OwnN T B w v l) (n : Nat) : OwnN T B (w.drewN n) v l := h
/-- to read it -/
theorem OwnN.shape {K : Nat} (h : OwnN T B w v l) (hK : l.length = K) : ∃ a c, v = .slice a K c ∧ K ≤ c ∧ (a = none → c = 0) ∧ Nums w a K l := by
  subst hK
  obtain ⟨hl, ⟨rfl, h0⟩ | ⟨g, cap, cur, rfl, hg, hh, hn, hm, hc, ht⟩⟩ := h
  · obtain rfl := List.length_eq_zero_iff.1 h0
    exact ⟨none, 0, rfl, Nat.le_refl _, fun _ => rfl, nums_none w⟩
  · refine ⟨_, cap, rfl, hn, (fun e => by cases e), rfl, by omega, fun i hi => ⟨_, rfl, ?_⟩⟩
    rw [Addr.add_mid, Nat.zero_add, (show Has w g T cur from hh).cell i, ← nlist_at l i hi, ← ht, List.getElem?_take, if_pos (by omega), Array.getElem?_toList]
end
theorem below_own_rown {w0 w w' : World} {row : Option Nat} (hb : Below w0.heap.size w0 w) (hg : w.grownBy w' row) (hr : ∀ k, row = some k → w0.heap.size ≤ k) : Below w0.heap.size w0 w' := hb.grown hg hb.size hr
/-- the empty slice as a literal -/
theorem OwnN.empty {T : TypeId} {B : Nat} {w1 : World} {g : Nat} (hB : B ≤ g) (hh : Has w1 g T #[]) : OwnN T B w1 (.slice (some ⟨g, 0, none⟩) 0 0) [] :=
  ⟨rfl, .inr ⟨g, 0, #[], rfl, hB, hh, Nat.le_refl _, by unfold maxLen; omega, rfl, rfl⟩⟩
/-- append(own, a...), a whatever -/
theorem wpList_append_nums {P : Program} {w : World} {ops : Array Oper} {rest : List Oper} {o : Oper} {a : Act} {Q : Exit → Act → World → Prop} (hgd : o.guard = none) (s x : Operand) (t : TypeId)
    (ho : o.op = .call { callee := .builtin .append, args := #[s, x], argTypes := #[t, t] })
    (T : TypeId) (ht : P.underlying t = some (.slice T)) (hinfo : (P.info? T).map (fun i => (i.zero, i.size, i.bytes)) = some (some (.int .i64 0), 1, 8))
    (B : Nat) (v : Value) (l : List (Int)) (hs : a.eval s = v) (hown : OwnN T B w v l) (ad : Option Addr) (m c : Nat) (l2 : List (Int)) (hx : a.eval x = .slice ad m c) (hw : Nums w ad m l2) (hc : ad = none → c = 0)
    (h63 : l.length + m ≤ 1099511627776) (hbase : B ≤ w.heap.size)
    (h : ∀ v' w', OwnN T B w' v' (l ++ l2) → w.grownBy w' v.ownBlock → wpList P ops Q rest (a.put o.dst v') w') : wpList P ops Q (o :: rest) a w := by
  obtain ⟨i0, hi, hz0, hz1, hz2⟩ := info_parts hinfo
  obtain ⟨hl2, hm, hcell⟩ := hw
  rcases ad with _ | ad
  · have h0 : m = 0 := by
      rcases Nat.eq_zero_or_pos m with h0 | h0
      · exact h0
      · obtain ⟨_, e, _⟩ := hcell 0 h0
        cases e
    subst h0
    obtain rfl := List.length_eq_zero_iff.1 hl2
    obtain rfl := hc rfl
    exact wpList_append_own_none hgd s x t ho B T i0 1 ht hi v _ _ hs hown hx (h v w (by simpa using hown) (World.grownBy.refl w _))
  · refine wpList_append_own w hgd s x t ho B T i0 (.int .i64 0) 1 8 ht hi hz0 hz1 hz2 rfl (by decide) v _ _ hs hown ad m c (nlist l2) hx (by rw [nlist_length, hl2, Nat.mul_one]) (fun j u hj => ?_) (nlist_one _) (by unfold maxLen; omega) (by omega) hbase ?_
    · have hj2 : j < l2.length := by
        have := (List.getElem?_eq_some_iff.1 hj).1
        rwa [nlist_length] at this
      obtain ⟨ad', e, hx2⟩ := hcell j (by omega)
      injection e with e
      subst e
      rw [hx2, ← hj, nlist_at l2 j hj2]
    · intro v' w' h1 h2 _
      exact h v' w' (OwnN.all hl2 h1) h2
section
variable {H : Type} {enc : TypeId × Value → H} {P : Program} {W : World} {base : Nat} {v : Value} {d : DataW H} {p : List MemPlace}
theorem arg_nums {t e : TypeId} (ht : P.underlying t = some (.slice e)) (he : P.underlying e = some (.int .i64)) (hc : P.cellsOf e = 1) (o : Value.okWide P W .any base t v) (h : DataW.Trod enc P W 0 (fun _ => true) true t v d p) :
    ∃ (a : Option Addr) (n c : Nat) (l : List Int), v = .slice a n c ∧ Nums W a n l ∧ n ≤ c ∧ (a = none → c = 0) := by
  obtain ⟨a, n, c, rfl⟩ := okWide_slice ht o
  obtain ⟨fuel, hf⟩ := h
  refine ⟨a, n, c, ?_⟩
  rcases open_ints ht he hc hf with ⟨hcs, _⟩ | ⟨x, l, cp, zs, hcs, _, hl, hm, hz, _, hcell, hwz⟩
  · simp [Value.cells] at hcs
    obtain ⟨rfl, rfl, rfl⟩ := hcs
    exact ⟨[], rfl, nums_none W, Nat.le_refl _, fun _ => rfl⟩
  · simp [Value.cells] at hcs
    obtain ⟨rfl, rfl, rfl⟩ := hcs
    have hz' : zs.length = c := by simpa using hz
    refine ⟨zs.take n, rfl, ⟨by simp; omega, by omega, fun i hi => ⟨_, rfl, ?_⟩⟩, hl, fun e => by cases e⟩
    rw [hcell i (by omega)]
    congr 2
    unfold cn
    rw [List.getD_eq_getElem?_getD, List.getD_eq_getElem?_getD, List.getElem?_take, if_pos hi]
end
theorem getDi_ext {la lb : List (Int)} (h : la.length = lb.length) (he : ∀ i, i < la.length → la.getD i 0 = lb.getD i 0) : la = lb := by
  apply List.ext_getElem h
  intro i h1 h2
  have := he i h1
  rwa [List.getD_eq_getElem?_getD, List.getD_eq_getElem?_getD, List.getElem?_eq_getElem h1, List.getElem?_eq_getElem h2] at this
end Go.Proofs.Ytpbijcchdjppmaa
