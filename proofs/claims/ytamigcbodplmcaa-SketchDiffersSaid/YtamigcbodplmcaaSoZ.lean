/- the library's sort of words: pdqsortOrdered, Sort -/
import Derived.Test.YtamigcbodplmcaaSoB
import Derived.Test.YtamigcbodplmcaaSoC
import Derived.Test.YtamigcbodplmcaaSoH
import Derived.Test.YtamigcbodplmcaaSoI
import Derived.Test.YtamigcbodplmcaaSoP
import Derived.Test.YtamigcbodplmcaaRoG
import Derived.Sort.LotD3
namespace Go.Proofs.Ytamigcbodplmcaa
open Go Go.RowKit Go.ChangeShapes Go.WideShapes Go.Sort
/-- what pdqsort leaves -/
structure So.Out (a b : Nat) (d d' : Array So.E) : Prop where
  perm : PermIn a b d d'
  srt : SortedIn So.lt a b d'
/-- whatever sorts this part, sorts it all -/
def So.Cont (a b : Nat) (d : Array So.E) (a' b' : Nat) (d' : Array So.E) : Prop := ∀ e, So.Out a' b' d' e → So.Out a b d e
theorem So.Cont.perm {a b a' b' : Nat} {d d' d2 : Array So.E} (h : So.Cont a b d a' b' d') (hp : PermIn a' b' d' d2) : So.Cont a b d a' b' d2 := fun e he => h e ⟨permIn_trans _ _ _ _ _ hp he.perm, he.srt⟩
theorem So.At.is {w w' w'' : World} {g off : Nat} {d d' : Array So.E} (h : So.At w g off d w') (h' : So.Is w' g off d' w'') (hs : d'.size = d.size) : So.At w g off d' w'' := h.trans (h'.at h.holds hs)
theorem So.At.draws {w w' : World} {g off : Nat} {d : Array So.E} (h : So.At w g off d w') (q : Nat) : So.At w g off d (w'.drewN q) := ⟨⟨h.grown.os, h.grown.tape, h.grown.output, h.grown.size, h.grown.block⟩, h.holds, h.blk⟩
theorem bool_eq (b : Bool) : b = true ∨ b = false := by cases b <;> simp
set_option maxRecDepth 1000000 in
set_option maxHeartbeats 8000000 in
theorem pdq_any : ∀ (N g off n c a b limit : Nat) (d : Array So.E) (w : World), b - a < N → d.size = n → g < w.heap.size → Holds So.enc w g off d → a ≤ b → b ≤ n → n < 256 → limit < 1000000 → Sort.Below So.lt a b d →
    Calls Try.prog 79 #[.slice (some ⟨g, off, none⟩) n c, .int .i64 (a : Int), .int .i64 (b : Int), .int .i64 (limit : Int)] w fun e w' =>
      e = .returned (.tuple #[]) ∧ ∃ d', So.Out a b d d' ∧ So.At w g off d' w' := by
  intro N
  induction N with
  | zero => intro g off n c a b limit d w h; exact absurd h (Nat.not_lt_zero _)
  | succ N ih =>
    intro g off n c a b limit d w hN hn hg hH hab hb hsz hlim hBel
    have HB := Lib.hid (And.intro (So.At.refl hH) hBel)
    have IH := Lib.hid ih
    clear hH hBel ih
    go_enter Try.func79, Try.ntmps79
    go_wp2
    go_loopw [1, 2, 3, 8, 9] (fun s1 s2 s3 s8 s9 wr => ∃ (a' b' lim : Nat) (wb wp : Bool) (dk : Array So.E), s1 = .int .i64 (a' : Int) ∧ s2 = .int .i64 (b' : Int) ∧ s3 = .int .i64 (lim : Int) ∧ s8 = .bool wb ∧ s9 = .bool wp ∧
      a' ≤ b' ∧ b' ≤ n ∧ b' - a' ≤ b - a ∧ lim < 1000000 ∧ dk.size = n ∧ RowKit.Hid (So.At w g off dk wr ∧ Sort.Below So.lt a' b' dk) ∧ RowKit.Hid (So.Cont a b d a' b' dk)) (fun s1 s2 _ _ _ _ => (intOf s2 - intOf s1).toNat)
    case atStart => exact ⟨a, b, limit, true, true, d, rfl, rfl, rfl, rfl, rfl, hab, hb, Nat.le_refl _, hlim, hn, HB, Lib.hid (fun e he => he)⟩
    case round =>
      obtain ⟨a', b', lim, wb, wp, dk, rfl, rfl, rfl, rfl, rfl, hab', hb', hsub', hlim', hsk, HA, HCt⟩ := hrel
      clear HB
      have hgr : g < wr.heap.size := Nat.lt_of_lt_of_le hg HA.out.1.grown.size
      have hbk : b' ≤ dk.size := by omega
      have hbaw : IntKind.i64.wrap ((b' : Int) - (a' : Int)) = (b' : Int) - (a' : Int) := IntWalk.i64_in _ (by omega)
      by_cases h12 : b' - a' ≤ 12
      · have h12i : (b' : Int) - (a' : Int) ≤ 12 := by omega
        go_wp2_with (first
          | (go_at_call 84; refine (insertion_any g off n c a' b' dk wr hsk HA.out.1.holds hab' hb' (by omega)).mono ?_; rintro e w1 ⟨rfl, hw1⟩))
        (try simp only [Exit.inBlock, Exit.then])
        refine bodyPost_ret (results_none rfl _ _ _) rfl ?_
        obtain ⟨p1, p2⟩ := insertionSort_holds So.swo dk a' b' hab' hbk
        exact ⟨rfl, _, HCt.out _ ⟨p1, p2⟩, HA.out.1.is hw1 p1.1⟩
      · have h12i : ¬ (b' : Int) - (a' : Int) ≤ 12 := by omega
        by_cases hl0 : lim = 0
        · subst hl0
          go_wp2_with (first
            | (go_at_call 85; refine (heap_any g off n c a' b' dk wr hsk HA.out.1.holds hab' hb' (by omega)).mono ?_; rintro e w1 ⟨rfl, hw1⟩))
          (try simp only [Exit.inBlock, Exit.then])
          refine bodyPost_ret (results_none rfl _ _ _) rfl ?_
          obtain ⟨p1, p2⟩ := heapSort_holds So.swo dk a' b' hab' hbk
          exact ⟨rfl, _, HCt.out _ ⟨p1, p2⟩, HA.out.1.is hw1 p1.1⟩
        · have hl0i : ((lim : Int) == 0) = false := by rw [beq_eq_false_iff_ne]; omega
          have hlw : IntKind.i64.wrap ((lim : Int) - 1) = (lim : Int) - 1 := IntWalk.i64_in _ (by omega)
          have hab12 : a' + 12 < b' := by omega
          go_upto_if 35 with fail
          go_cut [3] from 19 (fun s3 wx => ∃ (lim2 : Nat) (d1 : Array So.E), s3 = .int .i64 (lim2 : Int) ∧ lim2 < 1000000 ∧ RowKit.Hid (PermIn a' b' dk d1 ∧ So.At w g off d1 wx))
          case first =>
            cases wb
            · go_wp2_with (first
                | (go_at_call 86; refine (break_any g off n c a' b' dk wr hsk hgr HA.out.1.holds hab12 hb' hsz).mono ?_; rintro e w1 ⟨rfl, d1, hp1, hw1⟩))
              go_meet
              case rel => exact ⟨lim - 1, d1, by go_num, by omega, Lib.hid ⟨hp1, HA.out.1.trans hw1⟩⟩
            · go_wp2_with fail
              go_meet
              case rel => exact ⟨lim, dk, rfl, hlim', Lib.hid ⟨permIn_refl _ _ _, HA.out.1⟩⟩
          case rest =>
            obtain ⟨lim2, d1, rfl, hlim2, HA1⟩ := hcut
            have hs1 : d1.size = n := HA1.out.1.1.trans hsk
            have hg1 : g < wc.heap.size := Nat.lt_of_lt_of_le hg HA1.out.2.grown.size
            go_upto_if 50 with (first
              | (go_at_call 87; refine (pivot_any g off n c a' b' d1 wc hs1 hg1 HA1.out.2.holds hab12 hb' (by omega)).mono ?_; rintro e w2 ⟨⟨p, h, rfl, hp1, hp2⟩, hb2⟩))
            have hA2 : So.At w g off d1 w2 := HA1.out.2.aside hg (r := none) ⟨hb2.os, hb2.tape, hb2.output, hb2.size, fun k hk _ => hb2.block k hk⟩ (fun k e => by cases e)
            have HA2 := Lib.hid (And.intro HA1.out.1 hA2)
            clear hA2 hb2 HA1 hg1
            go_cut [11, 12] from 19 (fun s11 s12 wx => ∃ (p2 : Nat) (h2 : Int) (d2 : Array So.E), s11 = .int .i64 (p2 : Int) ∧ s12 = .int .i64 h2 ∧ a' ≤ p2 ∧ p2 < b' ∧ RowKit.Hid (PermIn a' b' dk d2 ∧ So.At w g off d2 wx))
            case first =>
              by_cases hh : h = 2
              · subst hh
                have hbw : IntKind.i64.wrap ((b' : Int) - 1) = (b' : Int) - 1 := IntWalk.i64_in _ (by omega)
                have hpw : IntKind.i64.wrap ((p : Int) - (a' : Int)) = (p : Int) - (a' : Int) := IntWalk.i64_in _ (by omega)
                have hbpw : IntKind.i64.wrap ((b' : Int) - 1 - ((p : Int) - (a' : Int))) = (b' : Int) - 1 - ((p : Int) - (a' : Int)) := IntWalk.i64_in _ (by omega)
                go_wp2_with (first
                  | (go_at_call 88; refine (reverse_any g off n c a' b' d1 w2 hs1 HA2.out.2.holds (by omega) hb' (by omega)).mono ?_; rintro e w3 ⟨rfl, hw3⟩))
                have hpr := reverseRange_holds d1 a' b' hab' (by omega)
                go_meet
                case rel => exact ⟨b' - 1 - (p - a'), 1, reverseRange d1 a' b', by go_num, rfl, by omega, by omega, Lib.hid ⟨permIn_trans _ _ _ _ _ HA2.out.1 hpr, HA2.out.2.is hw3 hpr.1⟩⟩
              · have hhb : (h == 2) = false := by rw [beq_eq_false_iff_ne]; exact hh
                go_wp2_with fail
                go_meet
                case rel => exact ⟨p, h, d1, rfl, rfl, hp1, hp2, HA2⟩
            case rest =>
              obtain ⟨p2, h2, d2, rfl, rfl, hq1, hq2, HA3⟩ := hcut
              have hs2 : d2.size = n := HA3.out.1.1.trans hsk
              have hBel2 : Sort.Below So.lt a' b' d2 := HA.out.2.perm hbk HA3.out.1
              clear HA2 hp1 hp2
              rename World => wx3
              go_upto_region 15 with fail
              go_cut [12, 68] from 19 (fun s12 s68 wx => ∃ t : Bool, s12 = .int .i64 h2 ∧ s68 = .bool t ∧ wx = wx3)
              case first =>
                by_cases hh : h2 = 1
                · subst hh
                  cases wb <;> cases wp <;>
                    (go_wp2_with fail
                     go_meet
                     exact ⟨_, rfl, rfl, rfl⟩)
                · have hhb : (h2 == 1) = false := by rw [beq_eq_false_iff_ne]; exact hh
                  cases wb <;> cases wp <;>
                    (go_wp2_with fail
                     go_meet
                     exact ⟨_, rfl, rfl, rfl⟩)
              case rest =>
                obtain ⟨t, rfl, rfl, rfl⟩ := hcut
                rename World => wx4
                go_upto_if 68 with fail
                go_cut [] from 19 (fun wx => ∃ d3 : Array So.E, RowKit.Hid (PermIn a' b' dk d3 ∧ So.At w g off d3 wx))
                case first =>
                  cases t
                  · go_wp2_with fail
                    go_meet
                    case rel => exact ⟨d2, HA3⟩
                  · obtain ⟨ps1, ps2⟩ := partialInsertionSort_holds So.swo d2 a' b' (by omega) (by omega) hBel2
                    obtain ⟨dP, rP, hP⟩ : ∃ dP rP, partialInsertionSort So.lt d2 a' b' = (dP, rP) := ⟨_, _, rfl⟩
                    have hcall := partial_any g off n c a' b' d2 wx4 hs2 HA3.out.2.holds (by omega) hb' (by omega)
                    rw [hP] at hcall ps1 ps2
                    dsimp only at hcall ps1 ps2
                    rcases bool_eq rP with hr | hr
                    · subst hr
                      have HP := Lib.hid (And.intro ps1 (ps2 rfl))
                      clear ps1 ps2
                      go_wp2_with (first
                        | (go_at_call 89; refine hcall.mono ?_; rintro e w4 ⟨rfl, hw4⟩))
                      (try simp only [Exit.inBlock, Exit.then])
                      refine bodyPost_ret (results_none rfl _ _ _) rfl ?_
                      exact ⟨rfl, _, (HCt.out.perm HA3.out.1) _ ⟨HP.out.1, HP.out.2⟩, HA3.out.2.is hw4 HP.out.1.1⟩
                    · subst hr
                      have HP := Lib.hid ps1
                      clear ps1 ps2
                      go_wp2_with (first
                        | (go_at_call 89; refine hcall.mono ?_; rintro e w4 ⟨rfl, hw4⟩))
                      go_meet
                      case rel => exact ⟨dP, Lib.hid ⟨permIn_trans _ _ _ _ _ HA3.out.1 HP.out, HA3.out.2.is hw4 HP.out.1⟩⟩
                case rest =>
                  obtain ⟨d3, HA4⟩ := hcut
                  have hs3 : d3.size = n := HA4.out.1.1.trans hsk
                  have hBel3 : Sort.Below So.lt a' b' d3 := HA.out.2.perm hbk HA4.out.1
                  have HB3 := Lib.hid hBel3
                  clear HA3 hBel2 hBel3
                  rename World => wx5
                  go_upto_region 17 with fail
                  go_cut [87] from 19 (fun s87 wx => ∃ t : Bool, s87 = .bool t ∧ RowKit.Hid (So.At w g off d3 wx) ∧ RowKit.Hid (t = true → 0 < a' ∧ So.lt d3[a' - 1]! d3[p2]! = false))
                  case first =>
                    obtain ⟨G, hG, hcw, hfw⟩ := (So.Is.refl HA4.out.2.holds).fam HA4.out.2.holds hs3 hs3
                    have HG := Lib.hid hG
                    clear hG
                    by_cases ha0 : a' > 0
                    · have ha0i : (a' : Int) > 0 := by omega
                      have haw : IntKind.i64.wrap ((a' : Int) - 1) = (a' : Int) - 1 := IntWalk.i64_in _ (by omega)
                      go_wp2_with fail
                      go_big_quiet (first | (go_at_call 90; refine Calls.quiet_of_same (less_any _ _ _)))
                      rcases bool_eq (So.lt (G (a' - 1)) (G p2)) with hl | hl
                      · rw [hl]
                        go_wp2_with fail
                        go_meet
                        case rel => exact ⟨false, rfl, Lib.hid (HA4.out.2.draws nq), Lib.hid (fun e => by cases e)⟩
                      · rw [hl]
                        go_wp2_with fail
                        go_meet
                        case rel => exact ⟨true, rfl, Lib.hid (HA4.out.2.draws nq), Lib.hid (fun _ => ⟨ha0, by rw [← HG.out, ← HG.out]; exact hl⟩)⟩
                    · have ha0i : ¬ (a' : Int) > 0 := by omega
                      have ha0d : decide ((a' : Int) > 0) = false := decide_eq_false ha0i
                      go_wp2_with fail
                      go_big_quiet (first | (go_at_call 90; refine Calls.quiet_of_same (less_any _ _ _)))
                      go_wp2_with fail
                      go_meet
                      case rel => exact ⟨false, rfl, Lib.hid (HA4.out.2.draws nq), Lib.hid (fun e => by cases e)⟩
                  case rest =>
                    obtain ⟨t5, rfl, HA5, HT5⟩ := hcut
                    rename World => wx6
                    cases t5
                    · obtain ⟨mid, ap, d4, hx⟩ : ∃ mid ap d4, Sort.partition So.lt d3 a' b' p2 = (mid, ap, d4) := ⟨_, _, _, rfl⟩
                      obtain ⟨r1, r2, r3, r4, r5, r6, r7⟩ := round_part So.swo (partition_holds So.lt) hq1 hq2 (by omega) HB3.out hx
                      have hcall := part_any g off n c a' b' p2 d3 wx6 hs3 HA5.out.holds hq1 hq2 hb' (by omega)
                      rw [hx] at hcall
                      dsimp only at hcall
                      have HX := Lib.hid (And.intro r3 (And.intro r4 (And.intro r5 (And.intro r6 r7))))
                      clear hx r3 r4 r5 r6 r7
                      have hs4 : d4.size = n := HX.out.1.trans hs3
                      have hmaw : IntKind.i64.wrap ((mid : Int) - (a' : Int)) = (mid : Int) - (a' : Int) := IntWalk.i64_in _ (by omega)
                      have hbmw : IntKind.i64.wrap ((b' : Int) - (mid : Int)) = (b' : Int) - (mid : Int) := IntWalk.i64_in _ (by omega)
                      have hm1w : IntKind.i64.wrap ((mid : Int) + 1) = (mid : Int) + 1 := IntWalk.i64_in _ (by omega)
                      have hq8 : ((b' : Int) - (a' : Int)).tdiv 8 = (((b' - a') / 8 : Nat) : Int) := by
                        rw [show (b' : Int) - (a' : Int) = ((b' - a' : Nat) : Int) from by omega]
                        rfl
                      have hq8w : IntKind.i64.wrap (((b' - a') / 8 : Nat) : Int) = (((b' - a') / 8 : Nat) : Int) := IntWalk.i64_in _ (by omega)
                      by_cases h4 : mid - a' < b' - mid
                      · have h4i : (mid : Int) - (a' : Int) < (b' : Int) - (mid : Int) := by omega
                        go_wp2_with (first
                          | (go_at_call 79; refine (IH.out g off n c a' mid lim2 d4 w7 (by omega) hs4 (Nat.lt_of_lt_of_le hg HA7.out.grown.size) HA7.out.holds r1 (by omega) hsz hlim2 HX.out.2.1).mono ?_; rintro e w8 ⟨rfl, dL, hL, hw8⟩)
                          | (go_at_call 92; refine hcall.mono ?_; rintro e w7 ⟨rfl, hw7⟩; have HA7 := Lib.hid (HA5.out.is hw7 HX.out.1)))
                        obtain ⟨q1, q2⟩ := HX.out.2.2.2.1 dL hL.perm hL.srt
                        have hA8 := HA7.out.trans hw8
                        have hsL : dL.size = n := hL.perm.1.trans hs4
                        have hC2 : So.Cont a b d (mid + 1) b' dL := fun e he => (HCt.out.perm HA4.out.1) e ⟨(q2 e he.perm he.srt).1, (q2 e he.perm he.srt).2⟩
                        have H8 := Lib.hid (And.intro hA8 q1)
                        have HC2 := Lib.hid hC2
                        clear q1 q2 hA8 hC2 hL hw8 hw7 HX HA7 hcall
                        go_roundw
                        case rel => exact ⟨mid + 1, b', lim2, _, _, dL, by go_num, rfl, rfl, rfl, rfl, by omega, hb', by omega, hlim2, hsL, H8, HC2⟩
                        case measure => (simp [intOf]; try omega)
                      · have h4i : ¬ (mid : Int) - (a' : Int) < (b' : Int) - (mid : Int) := by omega
                        have hcp : ((mid + 1 : Nat) : Int) = (mid : Int) + 1 := by omega
                        have hrec := fun w7 (h7 : So.At w g off d4 w7) => IH.out g off n c (mid + 1) b' lim2 d4 w7 (by omega) hs4 (Nat.lt_of_lt_of_le hg h7.grown.size) h7.holds (by omega) hb' hsz hlim2 HX.out.2.2.1
                        simp only [hcp] at hrec
                        have HREC := Lib.hid hrec
                        clear hrec hcp
                        go_wp2_with (first
                          | (go_at_call 79; refine (HREC.out w7 HA7.out).mono ?_; rintro e w8 ⟨rfl, dL, hL, hw8⟩)
                          | (go_at_call 92; refine hcall.mono ?_; rintro e w7 ⟨rfl, hw7⟩; have HA7 := Lib.hid (HA5.out.is hw7 HX.out.1)))
                        obtain ⟨q1, q2⟩ := HX.out.2.2.2.2 dL hL.perm hL.srt
                        have hA8 := HA7.out.trans hw8
                        have hsL : dL.size = n := hL.perm.1.trans hs4
                        have hC2 : So.Cont a b d a' mid dL := fun e he => (HCt.out.perm HA4.out.1) e ⟨(q2 e he.perm he.srt).1, (q2 e he.perm he.srt).2⟩
                        have H8 := Lib.hid (And.intro hA8 q1)
                        have HC2 := Lib.hid hC2
                        clear q1 q2 hA8 hC2 hL hw8 hw7 HX HA7 hcall
                        go_roundw
                        case rel => exact ⟨a', mid, lim2, _, _, dL, rfl, rfl, rfl, rfl, rfl, r1, by omega, by omega, hlim2, hsL, H8, HC2⟩
                        case measure => (simp [intOf]; try omega)
                    · have hT := HT5.out rfl
                      obtain ⟨mid, d4, hx⟩ : ∃ mid d4, Sort.partitionEqual So.lt d3 a' b' p2 = (mid, d4) := ⟨_, _, rfl⟩
                      obtain ⟨r1, r2, r3, r4, r5⟩ := round_eq So.swo (partitionEqual_holds So.lt) hT.1 hq1 hq2 (by omega) HB3.out hT.2 hx
                      have hcall := parteq_any g off n c a' b' p2 d3 wx6 hs3 HA5.out.holds hq1 hq2 hb' (by omega)
                      rw [hx] at hcall
                      dsimp only at hcall
                      have hs4 : d4.size = n := r3.trans hs3
                      have hC2 : So.Cont a b d mid b' d4 := fun e he => (HCt.out.perm HA4.out.1) e ⟨(r5 e he.perm he.srt).1, (r5 e he.perm he.srt).2⟩
                      have HX := Lib.hid (And.intro r3 (And.intro r4 hC2))
                      clear hx r3 r4 r5 hC2 hT
                      go_wp2_with (first
                        | (go_at_call 91; refine hcall.mono ?_; rintro e w7 ⟨rfl, hw7⟩; have HA7 := Lib.hid (HA5.out.is hw7 HX.out.1)))
                      have H8 := Lib.hid (And.intro HA7.out HX.out.2.1)
                      have HC2 := Lib.hid HX.out.2.2
                      clear hw7 HX HA7 hcall
                      go_roundw
                      case rel => exact ⟨mid, b', lim2, wb, wp, d4, rfl, rfl, rfl, rfl, rfl, r2, hb', by omega, hlim2, hs4, H8, HC2⟩
                      case measure => (simp [intOf]; try omega)
theorem sort_row (g n c : Nat) (d : Array So.E) (w : World) (hn : d.size = n) (hg : g < w.heap.size) (hH : Holds So.enc w g 0 d) (hsz : n < 256) :
    Calls Try.prog 67 #[.slice (some ⟨g, 0, none⟩) n c] w fun e w' => e = .returned (.tuple #[]) ∧ ∃ d', So.Out 0 n d d' ∧ So.At w g 0 d' w' := by
  have hk : bitsLen n ≤ 8 := (bitsLen_le_iff n 8).2 hsz
  have hw : IntKind.u64.wrap (n : Int) = (n : Int) := by rw [IntKind.wrap_u64]; omega
  have hp := fun w1 (h : w1 = w) => by
    subst h
    exact pdq_any (n + 1) g 0 n c 0 n (bitsLen n) d w1 (by omega) hn hg hH (Nat.zero_le _) (Nat.le_refl _) hsz (by omega) (Or.inl rfl)
  have HP := Lib.hid hp
  clear hp hH
  go_enter Try.func67, Try.ntmps67
  go_wp2_with (first
    | (go_at_call 79; refine (HP.out _ rfl).mono ?_; rintro e w2 ⟨rfl, d', hd', hw2⟩)
    | (go_at_call 80; refine (len_any n hsz _).mono ?_; rintro e w1 ⟨rfl, rfl⟩))
  go_end0
  exact ⟨rfl, d', hd', hw2⟩
/-- no element -/
theorem ins_none (c : Nat) (w : World) : Calls Try.prog 84 #[.slice none 0 c, .int .i64 0, .int .i64 0] w fun e w' => e = .returned (.tuple #[]) ∧ w' = w := by
  go_enter Try.func84, Try.ntmps84
  go_wp2
  go_loopw [6] (fun vi wr => vi = .int .i64 1 ∧ wr = w) (fun _ _ => 0)
  case atStart => exact ⟨rfl, rfl⟩
  case round =>
    obtain ⟨rfl, rfl⟩ := hrel
    go_wp2
    go_end0
    exact ⟨rfl, rfl⟩
theorem pdq_none (w : World) : Calls Try.prog 79 #[.slice none 0 0, .int .i64 0, .int .i64 0, .int .i64 0] w fun e w' => e = .returned (.tuple #[]) ∧ w' = w := by
  go_enter Try.func79, Try.ntmps79
  go_wp2
  go_loopw [1, 2, 3, 8, 9] (fun s1 s2 s3 s8 s9 wr => s1 = .int .i64 0 ∧ s2 = .int .i64 0 ∧ s3 = .int .i64 0 ∧ s8 = .bool true ∧ s9 = .bool true ∧ wr = w) (fun _ _ _ _ _ _ => 0)
  case atStart => exact ⟨rfl, rfl, rfl, rfl, rfl, rfl⟩
  case round =>
    obtain ⟨rfl, rfl, rfl, rfl, rfl, rfl⟩ := hrel
    go_wp2_with (first
      | (go_at_call 84; refine (ins_none 0 _).mono ?_; rintro e w1 ⟨rfl, rfl⟩))
    (try simp only [Exit.inBlock, Exit.then])
    refine bodyPost_ret (results_none rfl _ _ _) rfl ?_
    exact ⟨rfl, rfl⟩
theorem sort_none (w : World) : Calls Try.prog 67 #[.slice none 0 0] w fun e w' => e = .returned (.tuple #[]) ∧ w' = w := by
  go_enter Try.func67, Try.ntmps67
  go_wp2_with (first
    | (go_at_call 79; refine (pdq_none _).mono ?_; rintro e w2 ⟨rfl, rfl⟩)
    | (go_at_call 80; refine (len_any 0 (by decide) _).mono ?_; rintro e w1 ⟨rfl, rfl⟩))
  go_end0
  exact ⟨rfl, rfl⟩
theorem get_at (l : List So.E) (j : Nat) : l.toArray[j]! = l.getD j 0 := by
  rw [List.getD_eq_getElem?_getD]
  by_cases h : j < l.length
  · rw [getElem!_pos _ _ (by simpa using h), List.getElem?_eq_getElem h]; simp
  · rw [getElem!_neg _ _ (by simpa using h), List.getElem?_eq_none (by omega)]; rfl
theorem sortOk : SortOk := by
  intro v l B w hown hl hB
  rcases hown.2 with ⟨rfl, h0⟩ | ⟨g, cap, cur, rfl, hgB, hh, hn, hm, hc, ht⟩
  · obtain rfl := List.length_eq_zero_iff.1 h0
    refine (sort_none w).mono ?_
    rintro e w' ⟨rfl, rfl⟩
    exact ⟨rfl, ⟨[], List.Perm.refl _, List.Pairwise.nil, hown⟩, Led.of_below (Below.refl _ _)⟩
  · have hhas : Has w g 54 cur := hh
    have hds : l.toArray.size = l.length := by simp
    have hH : Holds So.enc w g 0 l.toArray := fun j hj => ⟨by
      rw [Nat.zero_add, hhas.cell, get_at]
      have hj' : j < l.length := by simpa using hj
      rw [← Array.getElem?_toList]
      have := wlist_at l j hj'
      rw [← ht, Nat.mul_one, List.getElem?_take, if_pos hj'] at this
      exact this, hhas.loose _⟩
    refine (sort_row g l.length cap l.toArray w hds hhas.lt hH (by omega)).mono ?_
    rintro e w' ⟨rfl, d', hout, hat⟩
    have hd' : d'.size = l.length := hout.perm.1.trans hds
    have hdl : d'.toList.length = l.length := by rw [← hd']; simp
    obtain ⟨cs', hh', hs'⟩ := hat.blk cur _ _ hh
    have hhas' : Has w' g 54 cs' := hh'
    refine ⟨rfl, ⟨d'.toList, ?_, ?_, ?_⟩, ⟨hat.grown, fun k hk => .inl hk⟩⟩
    · have h1 := hout.perm.2.2
      rw [show d'.extract 0 l.length = d' from by rw [← hd']; simp, show l.toArray.extract 0 l.length = l.toArray from by simp] at h1
      exact h1
    · rw [List.pairwise_iff_getElem]
      intro i j hi hj hij
      have h1 := hout.srt i j (Nat.zero_le _) hij (by rw [← hd']; simpa using hj)
      have hi' : i < d'.size := by simpa using hi
      have hj' : j < d'.size := by simpa using hj
      rw [getElem!_pos d' j hj', getElem!_pos d' i hi'] at h1
      simp only [So.lt, decide_eq_false_iff_not] at h1
      simp only [Array.getElem_toList]
      omega
    · refine ⟨by rw [wlist_length, Nat.mul_one], .inr ⟨g, cap, cs', by rw [hdl], hgB, hh', by rw [hdl]; exact hn, hm, by omega, ?_⟩⟩
      rw [hdl, ← hd', Nat.mul_one]
      have hcs : d'.size ≤ cs'.size := by omega
      apply List.ext_getElem?
      intro i
      rw [List.getElem?_take]
      by_cases hi : i < d'.size
      · rw [if_pos hi]
        have h2 := (hat.holds i hi).1
        rw [Nat.zero_add, hhas'.cell] at h2
        rw [Array.getElem?_toList, h2, wlist_at _ i (by simpa using hi)]
        have h3 := get_at d'.toList i
        rw [Array.toArray_toList] at h3
        rw [h3]
        rfl
      · rw [if_neg hi, List.getElem?_eq_none (by rw [wlist_length]; simpa using hi)]
end Go.Proofs.Ytamigcbodplmcaa
