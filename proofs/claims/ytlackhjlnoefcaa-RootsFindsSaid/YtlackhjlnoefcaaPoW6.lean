/- Package poly: division and its users. -/
import Derived.Test.YtlackhjlnoefcaaPoW5
import Derived.Deep.LoopGhost
namespace Go.Proofs.Ytlackhjlnoefcaa
open Go Go.RowKit
theorem results_3 {P : Program} {fn : Func} {p q r : Tmp} (h : fn.results = #[.tmp p, .tmp q, .tmp r]) (tmps : Array Value) (w : World) {x y z : Value} (hx : tmps.getD p undef = x) (hy : tmps.getD q undef = y) (hz : tmps.getD r undef = z) :
    (results fn tmps).run P w = .ok (.tuple #[x, y, z]) w := by
  subst hx hy hz
  simp [results, h]
theorem pdiv0_any (a b : Option Addr) (n c m d : Nat) (lb : List (BitVec 32)) (w : World) (hb : Words32 w b m lb) (h0 : Po.len1 lb = 0) :
    Calls Try.prog 29 #[.slice a n c, .slice b m d] w fun e w' =>
      e = .returned (.tuple #[.slice none 0 0, .slice none 0 0, errRange]) ∧ Below w.heap.size w w' := by
  have ht : ((Po.len1 lb : Int) - 1 < 0) := by omega
  go_enter Try.func29, Try.ntmps29
  go_wp2_with (go_at_call 26; refine (pdegree_any _ _ _ _ _ hb).mono ?_; rintro e w1 ⟨rfl, hb1⟩)
  exact bodyPost_ret (results_3 rfl _ _ rfl rfl rfl) rfl ⟨rfl, hb1⟩
theorem pdiv_any (a b : Option Addr) (n c m d : Nat) (la lb : List (BitVec 32)) (w : World) (ha : Words32 w a n la) (hb : Words32 w b m lb) (hbd : m ≤ d) (hs : n ≤ 1099511627776) (hs2 : m ≤ 1099511627776) (h0 : Po.len1 lb ≠ 0) :
    Calls Try.prog 29 #[.slice a n c, .slice b m d] w fun e w' =>
      (∃ v u, e = .returned (.tuple #[v, u, .nilIface]) ∧ Fresh 37 w.heap.size w' v (Po.qr la lb).1 ∧ Fresh 37 w.heap.size w' u (Po.qr la lb).2) ∧ Below w.heap.size w w' := by
  have ht : ¬ ((Po.len1 lb : Int) - 1 < 0) := by omega
  go_enter Try.func29, Try.ntmps29
  go_wp2_with (first
    | (go_at_call 26; refine (pdegree_any _ _ _ _ _ hb).mono ?_; rintro e w1 ⟨rfl, hb1⟩)
    | (go_at_call 50; refine (pdivide_any _ _ _ _ _ _ la lb _ (ha.below hb1) (hb.below hb1) hbd hs hs2 h0).mono ?_; rintro e w2 ⟨⟨v, u, rfl, hv, hu⟩, hb2⟩))
  have hsz := hb1.size
  exact bodyPost_ret (results_3 rfl _ _ rfl rfl rfl) rfl ⟨⟨_, _, rfl, hv.low hsz, hu.low hsz⟩, hb1.trans (hb2.mono hsz)⟩
namespace Po
def sqL (l : List E) : List E := mk (2 * len1 l) (sqF (cf l) (len1 l))
end Po
theorem psq0_any (a b : Option Addr) (n c m d : Nat) (lb : List (BitVec 32)) (w : World) (hb : Words32 w b m lb) (h0 : Po.len1 lb = 0) :
    Calls Try.prog 53 #[.slice a n c, .slice b m d] w fun e w' =>
      e = .returned (.tuple #[.slice none 0 0, errRange]) ∧ Below w.heap.size w w' := by
  have ht : ((Po.len1 lb : Int) - 1 < 0) := by omega
  go_enter Try.func53, Try.ntmps53
  go_wp2_with (go_at_call 26; refine (pdegree_any _ _ _ _ _ hb).mono ?_; rintro e w1 ⟨rfl, hb1⟩)
  go_ret2
  exact ⟨rfl, hb1⟩
theorem psq_any (a b : Option Addr) (n c m d : Nat) (la lb : List (BitVec 32)) (w : World) (ha : Words32 w a n la) (hb : Words32 w b m lb) (hac : n ≤ c) (hbd : m ≤ d) (hs : n ≤ 274877906944) (hs2 : m ≤ 1099511627776) (h0 : Po.len1 lb ≠ 0) :
    Calls Try.prog 53 #[.slice a n c, .slice b m d] w fun e w' =>
      (∃ u, e = .returned (.tuple #[u, .nilIface]) ∧ Fresh 37 w.heap.size w' u (Po.qr (Po.sqL la) lb).2) ∧ Below w.heap.size w w' := by
  have ht : ¬ ((Po.len1 lb : Int) - 1 < 0) := by omega
  have hle := Po.len1_le la
  have hl := ha.1
  have hln : (Po.sqL la).length = 2 * Po.len1 la := Po.mk_length _ _
  go_enter Try.func53, Try.ntmps53
  go_wp2_with (first
    | (go_at_call 26; refine (pdegree_any _ _ _ _ _ hb).mono ?_; rintro e w1 ⟨rfl, hb1⟩)
    | (go_at_call 68; refine (psquare_any _ _ _ la _ (ha.below hb1) hac hs).mono ?_; rintro e w2 ⟨⟨v, rfl, hv⟩, hb2⟩; change Fresh _ _ _ _ (Po.sqL la) at hv; obtain ⟨va, vc, rfl, hvc, hvw⟩ := hv.slice; rw [hln] at hvw)
    | (go_at_call 50; refine (pdivide_any _ _ _ _ _ _ (Po.sqL la) lb _ hvw ((hb.below hb1).below hb2) hbd (by omega) hs2 h0).mono ?_; rintro e w3 ⟨⟨v, u, rfl, hv3, hu⟩, hb3⟩))
  go_ret2
  have hsz := hb1.size
  have hb12 := hb1.trans (hb2.mono hsz)
  exact ⟨⟨_, rfl, hu.low hb12.size⟩, hb12.trans (hb3.mono hb12.size)⟩
theorem monic_any (a : Option Addr) (n c : Nat) (la : List (BitVec 32)) (w : World) (ha : Words32 w a n la) (hac : n ≤ c) (hs : n ≤ 274877906944) :
    Calls Try.prog 54 #[.slice a n c] w fun e w' => (∃ v, e = .returned v ∧ Fresh 37 w.heap.size w' v (Po.monic la)) ∧ Below w.heap.size w w' := by
  by_cases h0 : Po.len1 la = 0
  · have ht : ((Po.len1 la : Int) - 1 < 0) := by omega
    have hm : Po.monic la = [] := by rw [Po.monic, if_pos h0]
    rw [hm]
    go_enter Try.func54, Try.ntmps54
    go_wp2_with (go_at_call 26; refine (pdegree_any _ _ _ _ _ ha).mono ?_; rintro e w1 ⟨rfl, hb1⟩)
    go_ret
    exact ⟨⟨_, rfl, Fresh.nil _ _ _⟩, hb1⟩
  · have hle := Po.len1_le la
    have hl := ha.1
    have ht : ¬ ((Po.len1 la : Int) - 1 < 0) := by omega
    have hm : Po.monic la = Po.mulR la [Gf.inv (Po.cf la (Po.len1 la - 1))] := by rw [Po.monic, if_neg h0]
    obtain ⟨k, hk⟩ : ∃ k, k = Po.len1 la - 1 := ⟨_, rfl⟩
    have hke : (Po.len1 la : Int) - 1 = (k : Int) := by omega
    have hkn : k < n := by omega
    obtain ⟨ad, rfl, hx⟩ := ha.2.2 k hkn
    obtain ⟨z, hz⟩ : ∃ z, z = la.getD k 0 := ⟨_, rfl⟩
    rw [← hz] at hx
    have hxw : ∀ w1, Below w.heap.size w w1 → w1.cell? (ad.add k) = some (.int .u32 (nb32 z)) := fun w1 hb => (hb.cell (isSome_lt (by rw [hx]; rfl))).trans hx
    have hz' : z = Po.cf la (Po.len1 la - 1) := by rw [← hk]; exact hz
    rw [hm, ← hz']
    clear hx hz hz' hm hk
    have hmx : n ≤ 9223372036854775807 := ha.2.1
    go_enter Try.func54, Try.ntmps54
    go_wp2_with (first
      | (go_at_call 26; refine (pdegree_any _ _ _ _ _ ha).mono ?_; rintro e w1 ⟨rfl, hb1⟩; have hcx := hxw w1 hb1)
      | (go_at_call 65; refine (inverse_any _ _).mono ?_; rintro e w2 ⟨rfl, rfl⟩)
      | (go_at_call 25; refine (scale_any _ _ _ la _ _ (ha.below hb1) hac hs).mono ?_; rintro e w2 ⟨⟨v, rfl, hv⟩, hb2⟩))
    go_ret
    have hsz := hb1.size
    exact ⟨⟨_, rfl, hv.low hsz⟩, hb1.trans (hb2.mono hsz)⟩
set_option maxHeartbeats 1000000 in
theorem common_any (a b : Option Addr) (n c m d : Nat) (la lb : List (BitVec 32)) (w : World) (ha : Words32 w a n la) (hb : Words32 w b m lb) (hac : n ≤ c) (hbd : m ≤ d) (hs : n ≤ 274877906944) (hs2 : m ≤ 274877906944) :
    Calls Try.prog 33 #[.slice a n c, .slice b m d] w fun e w' => (∃ v g, e = .returned v ∧ Po.Gcd la lb g ∧ Fresh 37 w.heap.size w' v g) ∧ Below w.heap.size w w' := by
  go_enter Try.func33, Try.ntmps33
  go_wp2
  go_loopg [0, 1] (Po.len1 lb) (fun k x y wr => ∃ (a' b' : Option Addr) (n' c' m' d' : Nat) (la' lb' : List (BitVec 32)), k = Po.len1 lb' ∧ x = .slice a' n' c' ∧ y = .slice b' m' d' ∧ Words32 wr a' n' la' ∧ Words32 wr b' m' lb' ∧ n' ≤ c' ∧ m' ≤ d' ∧ n' ≤ 274877906944 ∧ m' ≤ 274877906944 ∧
      (∀ g, Po.Gcd la' lb' g → Po.Gcd la lb g) ∧ Below w.heap.size w wr)
  case atStart => exact ⟨a, b, n, c, m, d, la, lb, rfl, rfl, rfl, ha, hb, hac, hbd, hs, hs2, fun g h => h, Below.refl _ _⟩
  case round =>
    obtain ⟨a', b', n', c', m', d', la', lb', hgk, rfl, rfl, ha', hb', hac', hbd', hs', hs2', hG, hbw⟩ := hrel
    have HG := Lib.hid (And.intro hgk hG)
    clear hG hgk
    by_cases h0 : Po.len1 lb' = 0
    · have ht : ¬ (0 : Int) ≤ (Po.len1 lb' : Int) - 1 := by omega
      have hm : Po.Gcd la lb (Po.monic la') := HG.out.2 _ (Po.Gcd.base h0)
      go_wp2_with (first
        | (go_at_call 26; refine (pdegree_any _ _ _ _ _ hb').mono ?_; rintro e w1 ⟨rfl, hb1⟩)
        | (go_at_call 54; refine (monic_any _ _ _ la' _ (ha'.below hb1) hac' hs').mono ?_; rintro e w2 ⟨⟨v, rfl, hv⟩, hb2⟩))
      go_ret
      have hb12 := hbw.trans (hb1.mono hbw.size)
      exact ⟨⟨_, _, rfl, hm, hv.low hb12.size⟩, hb12.trans (hb2.mono hb12.size)⟩
    · have ht : (0 : Int) ≤ (Po.len1 lb' : Int) - 1 := by omega
      have hspec := Po.qr_spec la' h0
      have hlen2 : (Po.qr la' lb').2.length ≤ m' := by
        have h1 := hspec.lt
        have h2 := Po.trim_length (Po.qr la' lb').2
        rw [hspec.tr] at h2
        have h3 := Po.len1_le lb'
        have h4 := hb'.1
        omega
      have HS := Lib.hid hspec
      clear hspec
      go_wp2_with (first
        | (go_at_call 26; refine (pdegree_any _ _ _ _ _ hb').mono ?_; rintro e w1 ⟨rfl, hb1⟩)
        | (go_at_call 50; refine (pdivide_any _ _ _ _ _ _ la' lb' _ (ha'.below hb1) (hb'.below hb1) hbd' (by omega) (by omega) h0).mono ?_; rintro e w2 ⟨⟨v, u, rfl, hv, hu⟩, hb2⟩; obtain ⟨ua, uc, rfl, huc, huw⟩ := hu.slice))
      go_roundg (Po.len1 (Po.qr la' lb').2)
      case measure => rw [HG.out.1]; exact HS.out.lt
      case rel =>
        have hb12 := hbw.trans (hb1.mono hbw.size)
        exact ⟨b', ua, m', d', _, uc, lb', _, rfl, rfl, rfl, (hb'.below hb1).below hb2, huw, hbd', huc, hs2', by omega, fun g hg => HG.out.2 g (Po.Gcd.step h0 hg), hb12.trans (hb2.mono hb12.size)⟩
set_option maxHeartbeats 1000000 in
theorem from_any (a : Option Addr) (n c : Nat) (l : List (BitVec 32)) (w : World) (h : Words32 w a n l) (hs : n ≤ 1073741824) :
    Calls Try.prog 18 #[.slice a n c] w fun e w' => (∃ v, e = .returned v ∧ Fresh 37 w.heap.size w' v (Po.fromL l)) ∧ Below w.heap.size w w' := by
  have hl := h.1
  go_enter Try.func18, Try.ntmps18
  go_wp2
  go_loopw [3, 9] (fun x i wr => ∃ (k : Nat) (a' : Option Addr) (c' : Nat), k ≤ n ∧ i = .int .i64 k ∧ x = .slice a' (k + 1) c' ∧ Fresh 37 w.heap.size wr (.slice a' (k + 1) c') (Po.fromL (l.take k)) ∧ Below w.heap.size w wr) (fun _ i _ => n - (intOf i).toNat)
  case atStart =>
    refine ⟨0, _, _, Nat.zero_le _, rfl, rfl, ?_, (Below.refl _ _).alloc (Nat.le_refl _) _⟩
    have hh := Has.fresh w 37 #[.int .u32 1]
    exact Fresh.of_has (f := fun _ => 1) (Nat.le_refl _) hh rfl (Nat.le_refl _) (by unfold maxLen; omega) (fun i hi => by
      obtain rfl : i = 0 := by omega
      rfl)
  case round =>
    obtain ⟨k, a', c', hk, rfl, rfl, hf, hb⟩ := hrel
    by_cases hlt : k < n
    · obtain ⟨ad, rfl, hx⟩ := h.2.2 k hlt
      obtain ⟨z, hz⟩ : ∃ z, z = l.getD k 0 := ⟨_, rfl⟩
      rw [← hz] at hx
      have hcell := (hb.cell (isSome_lt (by rw [hx]; rfl))).trans hx
      obtain ⟨hfl, hfc, hfw⟩ := hf.words
      have hstep : Po.fromL (l.take (k + 1)) = Po.mulR (Po.fromL (l.take k)) [z, 1] := by
        rw [Po.fromL_take l k (by omega)]
        rw [show Po.cf l k = z from hz.symm]
      have hlen := (Po.fromL_len l (k + 1) (by omega)).1
      rw [hstep] at hlen
      have HS := Lib.hid hstep
      have HL := Lib.hid hlen
      clear hstep hlen hz hx hfl
      go_wp2_with (first
        | (go_at_call 27; refine (pmul_any _ _ _ _ 2 2 _ [z, 1] _ (hfw.past _) (words_two wr z 1 _) hfc (Nat.le_refl _) (by omega)).mono ?_; rintro e w2 ⟨⟨v, rfl, hv⟩, hb2⟩; obtain ⟨va, vc, rfl, _⟩ := id hv; rw [HL.out] at hv))
      have hsz := hb.size
      go_roundw
      case rel =>
        refine ⟨k + 1, va, vc, by omega, by go_num, congrArg (fun t => Value.slice va t vc) HL.out, ?_, hb.trans (((Below.refl _ wr).alloc (Nat.le_refl _) _).trans (hb2.mono (by simp)) |>.mono hsz)⟩
        rw [HS.out]
        exact hv.low (by simp; omega)
      case measure => simp [intOf]; omega
    · obtain rfl : k = n := by omega
      go_wp2
      go_ret
      rw [List.take_of_length_le (by omega)] at hf
      exact ⟨⟨_, rfl, hf⟩, hb⟩
end Go.Proofs.Ytlackhjlnoefcaa
