/- two transactions compared: gossamernum's Tx (mktxn.py) · gossamernum's Copy · amounts and fee-rates, pure · the reference: Good, Right, Need, Pays, With -/
import Derived.Test.YtijemcfnlbapjaaGreatDoorJ04
import Derived.Test.YtijemcfnlbapjaaGreatDoorJ01
import Derived.Test.YtijemcfnlbapjaaGreatDoorRows
import Derived.Lib.Hide
import Derived.IntWalk
import Derived.OpenShut
import Derived.ProofKit
namespace Go.Proofs.YtijemcfnlbapjaaGreatDoor
open Go Go.RowKit Go.ChangeShapes Go.WideShapes
theorem yieldsIf_bin {P:Program} {ops:Array Oper} {S:World→Prop} {op:Oper} {a:Act} (hw:Region.wanted op (yielded ops a.tmps)=true) (k:BinOp) (t:TypeId) (x y:Operand) (yt:TypeId) (ho:op.op=.binOp k t x y yt)
    (X Y:Array Value) (hx:a.eval x=.agg X) (hy:a.eval y=.agg Y) (hg:P.eqGuardType P.depth t=false) (v:Value) (hr:∀ w,(binOp k t (.agg X) (.agg Y)).run P w=.ok v w):YieldsIf P ops S op v a:=
  .inl ⟨hw,fun w _=>by
    unfold execOp
    simp only[ho,hx,hy,Sem.run_bind,run_eqGuard_agg w k t x y _ _ hg,Result.andThen_ok,hr w,Sem.run_pure]⟩
section
variable {w:World} {x:Addr} {n i:Nat}
theorem spends_at {L:List Tx.Sp} {s:Tx.Sp} (h:Recs spRec w (some x) n L) (hi:L[i]? = some s):(Instr.loadAt 61 (.pointer (some (x.add (i*35))))).run Tryz.prog w=.ok (.agg (spCells s).toArray) w:=
  h.load_at Tryz.underlying61 rfl size_spend hi
theorem coins_at {L:List Tx.Co} {c:Tx.Co} (h:Recs coRec w (some x) n L) (hi:L[i]? = some c):(Instr.loadAt 74 (.pointer (some (x.add (i*2))))).run Tryz.prog w=.ok (.agg #[.int .i64 c.v,.int .u64 (nb64 c.lock)]) w:=
  h.load_at Tryz.underlying74 rfl size_coin hi
end
set_option maxRecDepth 100000 in
set_option maxHeartbeats 8000000 in
theorem txeq_any (a:Option Addr) (n q:Nat) (b:Option Addr) (m r:Nat) (t:Tx.T) (a':Option Addr) (n' q':Nat) (b':Option Addr) (m' r':Nat) (u:Tx.T) (w:World) (ht:TxAt w a n q b m r t) (hu:TxAt w a' n' q' b' m' r' u) :
    Calls Tryz.prog 17 #[txv a n q b m r t.firm,txv a' n' q' b' m' r' u.firm] w fun e w'=>e=.returned (.bool (decide (t=u)))∧Below w.heap.size w w':=by
  have hnmx:n≤9223372036854775807:=ht.sp.2.1
  have hmmx:m≤9223372036854775807:=ht.co.2.1
  by_cases hn:n=n'
  · subst hn
    by_cases hm:m=m'
    · subst hm
      by_cases hf:t.firm=u.firm
      · have HFF:=Lib.hid hf
        rw[← hf]
        obtain⟨f,hff⟩:∃ f,f=t.firm:=⟨_,rfl⟩
        rw[← hff]
        clear hff hf
        have hHX:=Lib.hid ht
        have hHY:=Lib.hid hu
        clear ht hu
        go_enter Tryz.func17,Tryz.ntmps17
        go_upto_region 1 with fail
        obtain⟨W1,hW1⟩:∃ x,x=(w.alloc (.cells #[.slice a n q,.slice b m r,.bool f] 34)).alloc (.cells #[.slice a' n q',.slice b' m r',.bool f] 34):=⟨_,rfl⟩
        have hBw:Below w.heap.size w W1:=by
          rw[hW1]
          exact((Below.refl _ w).alloc (Nat.le_refl _) _).alloc (by simp) _
        have hX:Has W1 w.heap.size 34 #[.slice a n q,.slice b m r,.bool f]:=by rw[hW1];exact(Has.fresh w _ _).past _
        have hY:Has W1 (w.heap.size+1) 34 #[.slice a' n q',.slice b' m r',.bool f]:=by rw[hW1];exact Has.fresh_at _ _ _ (by simp)
        rw[← hW1]
        clear hW1
        have f0:W1.cell? ⟨w.heap.size,0,none⟩=some (.slice a n q):=hX.cell_at rfl
        have f1:W1.cell? ⟨w.heap.size,1,none⟩=some (.slice b m r):=hX.cell_at rfl
        have f2:W1.cell? ⟨w.heap.size,2,none⟩=some (.bool f):=hX.cell_at rfl
        have g0:W1.cell? ⟨w.heap.size+1,0,none⟩=some (.slice a' n q'):=hY.cell_at rfl
        have g1:W1.cell? ⟨w.heap.size+1,1,none⟩=some (.slice b' m r'):=hY.cell_at rfl
        have g2:W1.cell? ⟨w.heap.size+1,2,none⟩=some (.bool f):=hY.cell_at rfl
        replace hHX:=Lib.hid (hHX.out.below hBw)
        replace hHY:=Lib.hid (hHY.out.below hBw)
        go_wp2
        go_loopw [33] (fun iv wr=>∃ i:Nat,i≤n∧iv=.int .i64 i∧RowKit.Hid (∀ j,j<i→t.sp[j]? = u.sp[j]?)∧Below W1.heap.size W1 wr) (fun iv _=>n-(intOf iv).toNat)
        case atStart=>exact⟨0,Nat.zero_le _,rfl,Lib.hid (fun j hj=>by omega),Below.refl _ _⟩
        case round=>
          obtain⟨i,hi,rfl,HJ,hb⟩:=hrel
          by_cases hlt:i<n
          · have hii:(i:Int)<(n:Int):=by omega
            have hi0:(0:Int)≤(i:Int):=by omega
            obtain⟨s,hs⟩:=hHX.out.sp.get hlt
            obtain⟨o,ho⟩:=hHY.out.sp.get hlt
            obtain⟨x,hax,_⟩:=hHX.out.sp.2.2.2 i s hs
            obtain⟨y,hay,_⟩:=hHY.out.sp.2.2.2 i o ho
            subst hax
            subst hay
            have HS:=Lib.hid hs
            have HO:=Lib.hid ho
            have HOS:=Lib.hid (And.intro (hHX.out.sp.okay hs) (hHY.out.sp.okay ho))
            clear hs ho
            go_upto_region 6 with fail
            obtain⟨ws,hws⟩:∃ x,x=wr.drew:=⟨_,rfl⟩
            have hbs:Below wr.heap.size wr ws:=by rw[hws];exact(Below.refl _ _).drew
            have hXs:=(hX.under hb hX.lt).under hbs (hX.under hb hX.lt).lt
            have hYs:=(hY.under hb hY.lt).under hbs (hY.under hb hY.lt).lt
            have lS:=fun(wq:World) (hSw:Held ws wq)=>spends_at (((hHX.out.sp.below hb).below hbs).below hSw) HS.out
            have lO:=fun(wq:World) (hSw:Held ws wq)=>spends_at (((hHY.out.sp.below hb).below hbs).below hSw) HO.out
            have hbws:=hb.trans (hbs.mono hb.size)
            refine wp_region_held_drew (S:=Held ws) (by kernel_rfl) (by rw[hws];exact Held.refl _) (fun hHeld=>?_)
            rw[← hws] at hHeld ⊢
            clear hws hbs
            by_cases hso:s=o
            · have HEQ:=Lib.hid (show ∀ w,(binOp .neq 61 (.agg (spCells s).toArray) (.agg (spCells o).toArray)).run Tryz.prog w=.ok (.bool false) w from fun w=>(neq_spend w s o HOS.out.1.1 HOS.out.2.1).trans (by rw[decide_eq_true hso];rfl))
              refine tka (v:=?_) 0 36 rfl rfl hHeld (Or.inl ⟨by rfl,?_⟩) rfl ?_
              rotate_left
              · intro wq hSw
                go_simp
                try with_reducible rfl
              simp only[ts0,ts1]
              refine tka (v:=?_) 1 37 rfl rfl hHeld (Or.inl ⟨by rfl,?_⟩) rfl ?_
              rotate_left
              · intro wq hSw
                have hst:=(hXs.under hSw hXs.lt).cell_at (i:=0) rfl
                go_simp
                try with_reducible rfl
              simp only[ts0,ts1]
              refine tka (v:=?_) 2 38 rfl rfl hHeld (Or.inl ⟨by rfl,?_⟩) rfl ?_
              rotate_left
              · intro wq hSw
                go_simp
                try with_reducible rfl
              simp only[ts0,ts1]
              refine tka (v:=?_) 3 39 rfl rfl hHeld (Or.inl ⟨by rfl,?_⟩) rfl ?_
              rotate_left
              · intro wq hSw
                go_simp
                try with_reducible rfl
              simp only[ts0,ts1]
              refine tka 4 40 rfl rfl hHeld (yieldsIf_load_agg (by rfl) 61 (.tmp 39) rfl _ _ (by rfl) (fun wq hSw=>lS wq hSw)) rfl ?_
              simp only[ts0,ts1]
              refine tka (v:=?_) 5 41 rfl rfl hHeld (Or.inl ⟨by rfl,?_⟩) rfl ?_
              rotate_left
              · intro wq hSw
                go_simp
                try with_reducible rfl
              simp only[ts0,ts1]
              refine tka (v:=?_) 6 42 rfl rfl hHeld (Or.inl ⟨by rfl,?_⟩) rfl ?_
              rotate_left
              · intro wq hSw
                have hst:=(hYs.under hSw hYs.lt).cell_at (i:=0) rfl
                go_simp
                try with_reducible rfl
              simp only[ts0,ts1]
              refine tka (v:=?_) 7 43 rfl rfl hHeld (Or.inl ⟨by rfl,?_⟩) rfl ?_
              rotate_left
              · intro wq hSw
                go_simp
                try with_reducible rfl
              simp only[ts0,ts1]
              refine tka (v:=?_) 8 44 rfl rfl hHeld (Or.inl ⟨by rfl,?_⟩) rfl ?_
              rotate_left
              · intro wq hSw
                go_simp
                try with_reducible rfl
              simp only[ts0,ts1]
              refine tka 9 45 rfl rfl hHeld (yieldsIf_load_agg (by rfl) 61 (.tmp 44) rfl _ _ (by rfl) (fun wq hSw=>lO wq hSw)) rfl ?_
              simp only[ts0,ts1]
              refine tka (v:=.bool false) 10 46 rfl rfl hHeld (yieldsIf_bin (by rfl) .neq 61 (.tmp 40) (.tmp 45) _ rfl (spCells s).toArray (spCells o).toArray (by rfl) (by rfl) (by kernel_rfl) _ HEQ.out) rfl ?_
              simp only[ts0,ts1]
              refine wpAnyH_done (by kernel_rfl) ?_ _
              have HJ2:=Lib.hid (show ∀ j,j<i+1→t.sp[j]? = u.sp[j]? from fun j hj=>by
                rcases Nat.lt_or_ge j i with h | h
                · exact HJ.out j h
                · have e2:j=i:=by omega
                  subst e2
                  rw[HS.out,HO.out,hso])
              clear hso
              go_wp2
              go_roundw
              case rel=>exact⟨i+1,by omega,by go_num,HJ2,hbws⟩
              case measure=>(simp[intOf];try omega)
            · have HEQ:=Lib.hid (show ∀ w,(binOp .neq 61 (.agg (spCells s).toArray) (.agg (spCells o).toArray)).run Tryz.prog w=.ok (.bool true) w from fun w=>(neq_spend w s o HOS.out.1.1 HOS.out.2.1).trans (by rw[decide_eq_false hso];rfl))
              have HD:=Lib.hid (show decide (t=u)=false from decide_eq_false fun e=>hso (by
                have h1:=HS.out
                rw[e,HO.out] at h1
                injection h1 with h1
                exact h1.symm))
              clear hso
              refine tka (v:=?_) 0 36 rfl rfl hHeld (Or.inl ⟨by rfl,?_⟩) rfl ?_
              rotate_left
              · intro wq hSw
                go_simp
                try with_reducible rfl
              simp only[ts0,ts1]
              refine tka (v:=?_) 1 37 rfl rfl hHeld (Or.inl ⟨by rfl,?_⟩) rfl ?_
              rotate_left
              · intro wq hSw
                have hst:=(hXs.under hSw hXs.lt).cell_at (i:=0) rfl
                go_simp
                try with_reducible rfl
              simp only[ts0,ts1]
              refine tka (v:=?_) 2 38 rfl rfl hHeld (Or.inl ⟨by rfl,?_⟩) rfl ?_
              rotate_left
              · intro wq hSw
                go_simp
                try with_reducible rfl
              simp only[ts0,ts1]
              refine tka (v:=?_) 3 39 rfl rfl hHeld (Or.inl ⟨by rfl,?_⟩) rfl ?_
              rotate_left
              · intro wq hSw
                go_simp
                try with_reducible rfl
              simp only[ts0,ts1]
              refine tka 4 40 rfl rfl hHeld (yieldsIf_load_agg (by rfl) 61 (.tmp 39) rfl _ _ (by rfl) (fun wq hSw=>lS wq hSw)) rfl ?_
              simp only[ts0,ts1]
              refine tka (v:=?_) 5 41 rfl rfl hHeld (Or.inl ⟨by rfl,?_⟩) rfl ?_
              rotate_left
              · intro wq hSw
                go_simp
                try with_reducible rfl
              simp only[ts0,ts1]
              refine tka (v:=?_) 6 42 rfl rfl hHeld (Or.inl ⟨by rfl,?_⟩) rfl ?_
              rotate_left
              · intro wq hSw
                have hst:=(hYs.under hSw hYs.lt).cell_at (i:=0) rfl
                go_simp
                try with_reducible rfl
              simp only[ts0,ts1]
              refine tka (v:=?_) 7 43 rfl rfl hHeld (Or.inl ⟨by rfl,?_⟩) rfl ?_
              rotate_left
              · intro wq hSw
                go_simp
                try with_reducible rfl
              simp only[ts0,ts1]
              refine tka (v:=?_) 8 44 rfl rfl hHeld (Or.inl ⟨by rfl,?_⟩) rfl ?_
              rotate_left
              · intro wq hSw
                go_simp
                try with_reducible rfl
              simp only[ts0,ts1]
              refine tka 9 45 rfl rfl hHeld (yieldsIf_load_agg (by rfl) 61 (.tmp 44) rfl _ _ (by rfl) (fun wq hSw=>lO wq hSw)) rfl ?_
              simp only[ts0,ts1]
              refine tka (v:=.bool true) 10 46 rfl rfl hHeld (yieldsIf_bin (by rfl) .neq 61 (.tmp 40) (.tmp 45) _ rfl (spCells s).toArray (spCells o).toArray (by rfl) (by rfl) (by kernel_rfl) _ HEQ.out) rfl ?_
              simp only[ts0,ts1]
              refine wpAnyH_done (by kernel_rfl) ?_ _
              go_wp2
              go_ret
              exact⟨by rw[HD.out];rfl,hBw.trans (hbws.mono hBw.size)⟩
          · have hii:¬ (i:Int)<(n:Int):=by omega
            have hin:i=n:=by omega
            have HSP:=Lib.hid (show t.sp=u.sp from List.ext_getElem? fun j=>by
              rcases Nat.lt_or_ge j i with h | h
              · exact HJ.out j h
              · rw[List.getElem?_eq_none (by rw[hHX.out.sp.1];omega),List.getElem?_eq_none (by rw[hHY.out.sp.1];omega)])
            have hB2:=hb
            have f1:wr.cell? ⟨w.heap.size,1,none⟩=some (.slice b m r):=(hX.under hb hX.lt).cell_at rfl
            clear HJ hin hb
            go_wp2
            go_loopw [51] (fun iv wr=>∃ i:Nat,i≤m∧iv=.int .i64 i∧RowKit.Hid (∀ j,j<i→t.co[j]? = u.co[j]?)∧Below W1.heap.size W1 wr) (fun iv _=>m-(intOf iv).toNat)
            case atStart=>exact⟨0,Nat.zero_le _,rfl,Lib.hid (fun j hj=>by omega),hB2⟩
            case round=>
              obtain⟨i,hi,rfl,HJ,hb⟩:=hrel
              by_cases hlt:i<m
              · have hii:(i:Int)<(m:Int):=by omega
                have hi0:(0:Int)≤(i:Int):=by omega
                obtain⟨s,hs⟩:=hHX.out.co.get hlt
                obtain⟨o,ho⟩:=hHY.out.co.get hlt
                obtain⟨x,hax,_⟩:=hHX.out.co.2.2.2 i s hs
                obtain⟨y,hay,_⟩:=hHY.out.co.2.2.2 i o ho
                subst hax
                subst hay
                have HS:=Lib.hid hs
                have HO:=Lib.hid ho
                have HOS:=Lib.hid (And.intro (hHX.out.co.okay hs) (hHY.out.co.okay ho))
                clear hs ho
                go_upto_region 12 with fail
                obtain⟨ws,hws⟩:∃ x,x=wr.drew:=⟨_,rfl⟩
                have hbs:Below wr.heap.size wr ws:=by rw[hws];exact(Below.refl _ _).drew
                have hXs:=(hX.under hb hX.lt).under hbs (hX.under hb hX.lt).lt
                have hYs:=(hY.under hb hY.lt).under hbs (hY.under hb hY.lt).lt
                have lS:=fun(wq:World) (hSw:Held ws wq)=>coins_at (((hHX.out.co.below hb).below hbs).below hSw) HS.out
                have lO:=fun(wq:World) (hSw:Held ws wq)=>coins_at (((hHY.out.co.below hb).below hbs).below hSw) HO.out
                have hbws:=hb.trans (hbs.mono hb.size)
                refine wp_region_held_drew (S:=Held ws) (by kernel_rfl) (by rw[hws];exact Held.refl _) (fun hHeld=>?_)
                rw[← hws] at hHeld ⊢
                clear hws hbs
                by_cases hso:s=o
                · have HEQ:=Lib.hid (show ∀ w,(binOp .neq 74 (.agg #[.int .i64 s.v,.int .u64 (nb64 s.lock)]) (.agg #[.int .i64 o.v,.int .u64 (nb64 o.lock)])).run Tryz.prog w=.ok (.bool false) w from fun w=>(neq_coin w s o).trans (by rw[decide_eq_true hso];rfl))
                  refine tka (v:=?_) 0 54 rfl rfl hHeld (Or.inl ⟨by rfl,?_⟩) rfl ?_
                  rotate_left
                  · intro wq hSw
                    go_simp
                    try with_reducible rfl
                  simp only[ts0,ts1]
                  refine tka (v:=?_) 1 55 rfl rfl hHeld (Or.inl ⟨by rfl,?_⟩) rfl ?_
                  rotate_left
                  · intro wq hSw
                    have hst:=(hXs.under hSw hXs.lt).cell_at (i:=1) rfl
                    go_simp
                    try with_reducible rfl
                  simp only[ts0,ts1]
                  refine tka (v:=?_) 2 56 rfl rfl hHeld (Or.inl ⟨by rfl,?_⟩) rfl ?_
                  rotate_left
                  · intro wq hSw
                    go_simp
                    try with_reducible rfl
                  simp only[ts0,ts1]
                  refine tka (v:=?_) 3 57 rfl rfl hHeld (Or.inl ⟨by rfl,?_⟩) rfl ?_
                  rotate_left
                  · intro wq hSw
                    go_simp
                    try with_reducible rfl
                  simp only[ts0,ts1]
                  refine tka 4 58 rfl rfl hHeld (yieldsIf_load_agg (by rfl) 74 (.tmp 57) rfl _ _ (by rfl) (fun wq hSw=>lS wq hSw)) rfl ?_
                  simp only[ts0,ts1]
                  refine tka (v:=?_) 5 59 rfl rfl hHeld (Or.inl ⟨by rfl,?_⟩) rfl ?_
                  rotate_left
                  · intro wq hSw
                    go_simp
                    try with_reducible rfl
                  simp only[ts0,ts1]
                  refine tka (v:=?_) 6 60 rfl rfl hHeld (Or.inl ⟨by rfl,?_⟩) rfl ?_
                  rotate_left
                  · intro wq hSw
                    have hst:=(hYs.under hSw hYs.lt).cell_at (i:=1) rfl
                    go_simp
                    try with_reducible rfl
                  simp only[ts0,ts1]
                  refine tka (v:=?_) 7 61 rfl rfl hHeld (Or.inl ⟨by rfl,?_⟩) rfl ?_
                  rotate_left
                  · intro wq hSw
                    go_simp
                    try with_reducible rfl
                  simp only[ts0,ts1]
                  refine tka (v:=?_) 8 62 rfl rfl hHeld (Or.inl ⟨by rfl,?_⟩) rfl ?_
                  rotate_left
                  · intro wq hSw
                    go_simp
                    try with_reducible rfl
                  simp only[ts0,ts1]
                  refine tka 9 63 rfl rfl hHeld (yieldsIf_load_agg (by rfl) 74 (.tmp 62) rfl _ _ (by rfl) (fun wq hSw=>lO wq hSw)) rfl ?_
                  simp only[ts0,ts1]
                  refine tka (v:=.bool false) 10 64 rfl rfl hHeld (yieldsIf_bin (by rfl) .neq 74 (.tmp 58) (.tmp 63) _ rfl #[.int .i64 s.v,.int .u64 (nb64 s.lock)] #[.int .i64 o.v,.int .u64 (nb64 o.lock)] (by rfl) (by rfl) (by kernel_rfl) _ HEQ.out) rfl ?_
                  simp only[ts0,ts1]
                  refine wpAnyH_done (by kernel_rfl) ?_ _
                  have HJ2:=Lib.hid (show ∀ j,j<i+1→t.co[j]? = u.co[j]? from fun j hj=>by
                    rcases Nat.lt_or_ge j i with h | h
                    · exact HJ.out j h
                    · have e2:j=i:=by omega
                      subst e2
                      rw[HS.out,HO.out,hso])
                  clear hso
                  go_wp2
                  go_roundw
                  case rel=>exact⟨i+1,by omega,by go_num,HJ2,hbws⟩
                  case measure=>(simp[intOf];try omega)
                · have HEQ:=Lib.hid (show ∀ w,(binOp .neq 74 (.agg #[.int .i64 s.v,.int .u64 (nb64 s.lock)]) (.agg #[.int .i64 o.v,.int .u64 (nb64 o.lock)])).run Tryz.prog w=.ok (.bool true) w from fun w=>(neq_coin w s o).trans (by rw[decide_eq_false hso];rfl))
                  have HD:=Lib.hid (show decide (t=u)=false from decide_eq_false fun e=>hso (by
                    have h1:=HS.out
                    rw[e,HO.out] at h1
                    injection h1 with h1
                    exact h1.symm))
                  clear hso
                  refine tka (v:=?_) 0 54 rfl rfl hHeld (Or.inl ⟨by rfl,?_⟩) rfl ?_
                  rotate_left
                  · intro wq hSw
                    go_simp
                    try with_reducible rfl
                  simp only[ts0,ts1]
                  refine tka (v:=?_) 1 55 rfl rfl hHeld (Or.inl ⟨by rfl,?_⟩) rfl ?_
                  rotate_left
                  · intro wq hSw
                    have hst:=(hXs.under hSw hXs.lt).cell_at (i:=1) rfl
                    go_simp
                    try with_reducible rfl
                  simp only[ts0,ts1]
                  refine tka (v:=?_) 2 56 rfl rfl hHeld (Or.inl ⟨by rfl,?_⟩) rfl ?_
                  rotate_left
                  · intro wq hSw
                    go_simp
                    try with_reducible rfl
                  simp only[ts0,ts1]
                  refine tka (v:=?_) 3 57 rfl rfl hHeld (Or.inl ⟨by rfl,?_⟩) rfl ?_
                  rotate_left
                  · intro wq hSw
                    go_simp
                    try with_reducible rfl
                  simp only[ts0,ts1]
                  refine tka 4 58 rfl rfl hHeld (yieldsIf_load_agg (by rfl) 74 (.tmp 57) rfl _ _ (by rfl) (fun wq hSw=>lS wq hSw)) rfl ?_
                  simp only[ts0,ts1]
                  refine tka (v:=?_) 5 59 rfl rfl hHeld (Or.inl ⟨by rfl,?_⟩) rfl ?_
                  rotate_left
                  · intro wq hSw
                    go_simp
                    try with_reducible rfl
                  simp only[ts0,ts1]
                  refine tka (v:=?_) 6 60 rfl rfl hHeld (Or.inl ⟨by rfl,?_⟩) rfl ?_
                  rotate_left
                  · intro wq hSw
                    have hst:=(hYs.under hSw hYs.lt).cell_at (i:=1) rfl
                    go_simp
                    try with_reducible rfl
                  simp only[ts0,ts1]
                  refine tka (v:=?_) 7 61 rfl rfl hHeld (Or.inl ⟨by rfl,?_⟩) rfl ?_
                  rotate_left
                  · intro wq hSw
                    go_simp
                    try with_reducible rfl
                  simp only[ts0,ts1]
                  refine tka (v:=?_) 8 62 rfl rfl hHeld (Or.inl ⟨by rfl,?_⟩) rfl ?_
                  rotate_left
                  · intro wq hSw
                    go_simp
                    try with_reducible rfl
                  simp only[ts0,ts1]
                  refine tka 9 63 rfl rfl hHeld (yieldsIf_load_agg (by rfl) 74 (.tmp 62) rfl _ _ (by rfl) (fun wq hSw=>lO wq hSw)) rfl ?_
                  simp only[ts0,ts1]
                  refine tka (v:=.bool true) 10 64 rfl rfl hHeld (yieldsIf_bin (by rfl) .neq 74 (.tmp 58) (.tmp 63) _ rfl #[.int .i64 s.v,.int .u64 (nb64 s.lock)] #[.int .i64 o.v,.int .u64 (nb64 o.lock)] (by rfl) (by rfl) (by kernel_rfl) _ HEQ.out) rfl ?_
                  simp only[ts0,ts1]
                  refine wpAnyH_done (by kernel_rfl) ?_ _
                  go_wp2
                  go_ret
                  exact⟨by rw[HD.out];rfl,hBw.trans (hbws.mono hBw.size)⟩
              · have hii:¬ (i:Int)<(m:Int):=by omega
                have hin:i=m:=by omega
                have HCO:=Lib.hid (show t.co=u.co from List.ext_getElem? fun j=>by
                  rcases Nat.lt_or_ge j i with h | h
                  · exact HJ.out j h
                  · rw[List.getElem?_eq_none (by rw[hHX.out.co.1];omega),List.getElem?_eq_none (by rw[hHY.out.co.1];omega)])
                have HD:=Lib.hid (show decide (t=u)=true from decide_eq_true (Tx.t_ext.2 ⟨HSP.out,HCO.out,HFF.out⟩))
                go_wp2
                go_ret
                exact⟨by rw[HD.out];rfl,hBw.trans (hb.mono hBw.size)⟩
      · have hD:decide (t=u)=false:=decide_eq_false fun e=>hf (by rw[e])
        rw[hD]
        obtain⟨fa,hfa⟩:∃ f,f=t.firm:=⟨_,rfl⟩
        obtain⟨fb,hfb⟩:∃ f,f=u.firm:=⟨_,rfl⟩
        rw[← hfa,← hfb] at hf ⊢
        clear hfa hfb hD ht hu
        cases fa
        · cases fb
          · exact absurd rfl hf
          · go_enter Tryz.func17,Tryz.ntmps17
            go_upto_region 1 with fail
            obtain⟨W1,hW1⟩:∃ x,x=(w.alloc (.cells #[.slice a n q,.slice b m r,.bool false] 34)).alloc (.cells #[.slice a' n q',.slice b' m r',.bool true] 34):=⟨_,rfl⟩
            have hBw:Below w.heap.size w W1:=by
              rw[hW1]
              exact((Below.refl _ w).alloc (Nat.le_refl _) _).alloc (by simp) _
            have hX:Has W1 w.heap.size 34 #[.slice a n q,.slice b m r,.bool false]:=by rw[hW1];exact(Has.fresh w _ _).past _
            have hY:Has W1 (w.heap.size+1) 34 #[.slice a' n q',.slice b' m r',.bool true]:=by rw[hW1];exact Has.fresh_at _ _ _ (by simp)
            rw[← hW1]
            clear hW1
            have f0:W1.cell? ⟨w.heap.size,0,none⟩=some (.slice a n q):=hX.cell_at rfl
            have f1:W1.cell? ⟨w.heap.size,1,none⟩=some (.slice b m r):=hX.cell_at rfl
            have f2:W1.cell? ⟨w.heap.size,2,none⟩=some (.bool false):=hX.cell_at rfl
            have g0:W1.cell? ⟨w.heap.size+1,0,none⟩=some (.slice a' n q'):=hY.cell_at rfl
            have g1:W1.cell? ⟨w.heap.size+1,1,none⟩=some (.slice b' m r'):=hY.cell_at rfl
            have g2:W1.cell? ⟨w.heap.size+1,2,none⟩=some (.bool true):=hY.cell_at rfl
            go_wp2
            go_ret
            exact⟨rfl,hBw⟩
        · cases fb
          · go_enter Tryz.func17,Tryz.ntmps17
            go_upto_region 1 with fail
            obtain⟨W1,hW1⟩:∃ x,x=(w.alloc (.cells #[.slice a n q,.slice b m r,.bool true] 34)).alloc (.cells #[.slice a' n q',.slice b' m r',.bool false] 34):=⟨_,rfl⟩
            have hBw:Below w.heap.size w W1:=by
              rw[hW1]
              exact((Below.refl _ w).alloc (Nat.le_refl _) _).alloc (by simp) _
            have hX:Has W1 w.heap.size 34 #[.slice a n q,.slice b m r,.bool true]:=by rw[hW1];exact(Has.fresh w _ _).past _
            have hY:Has W1 (w.heap.size+1) 34 #[.slice a' n q',.slice b' m r',.bool false]:=by rw[hW1];exact Has.fresh_at _ _ _ (by simp)
            rw[← hW1]
            clear hW1
            have f0:W1.cell? ⟨w.heap.size,0,none⟩=some (.slice a n q):=hX.cell_at rfl
            have f1:W1.cell? ⟨w.heap.size,1,none⟩=some (.slice b m r):=hX.cell_at rfl
            have f2:W1.cell? ⟨w.heap.size,2,none⟩=some (.bool true):=hX.cell_at rfl
            have g0:W1.cell? ⟨w.heap.size+1,0,none⟩=some (.slice a' n q'):=hY.cell_at rfl
            have g1:W1.cell? ⟨w.heap.size+1,1,none⟩=some (.slice b' m r'):=hY.cell_at rfl
            have g2:W1.cell? ⟨w.heap.size+1,2,none⟩=some (.bool false):=hY.cell_at rfl
            go_wp2
            go_ret
            exact⟨rfl,hBw⟩
          · exact absurd rfl hf
    · have hD:decide (t=u)=false:=decide_eq_false fun e=>hm (by rw[← ht.co.1,← hu.co.1,e])
      rw[hD]
      have hne:((m:Int)!=(m':Int))=true:=by simp;omega
      clear hD ht hu
      go_enter Tryz.func17,Tryz.ntmps17
      go_upto_region 1 with fail
      obtain⟨W1,hW1⟩:∃ x,x=(w.alloc (.cells #[.slice a n q,.slice b m r,.bool t.firm] 34)).alloc (.cells #[.slice a' n q',.slice b' m' r',.bool u.firm] 34):=⟨_,rfl⟩
      have hBw:Below w.heap.size w W1:=by
        rw[hW1]
        exact((Below.refl _ w).alloc (Nat.le_refl _) _).alloc (by simp) _
      have hX:Has W1 w.heap.size 34 #[.slice a n q,.slice b m r,.bool t.firm]:=by rw[hW1];exact(Has.fresh w _ _).past _
      have hY:Has W1 (w.heap.size+1) 34 #[.slice a' n q',.slice b' m' r',.bool u.firm]:=by rw[hW1];exact Has.fresh_at _ _ _ (by simp)
      rw[← hW1]
      clear hW1
      have f0:W1.cell? ⟨w.heap.size,0,none⟩=some (.slice a n q):=hX.cell_at rfl
      have f1:W1.cell? ⟨w.heap.size,1,none⟩=some (.slice b m r):=hX.cell_at rfl
      have f2:W1.cell? ⟨w.heap.size,2,none⟩=some (.bool t.firm):=hX.cell_at rfl
      have g0:W1.cell? ⟨w.heap.size+1,0,none⟩=some (.slice a' n q'):=hY.cell_at rfl
      have g1:W1.cell? ⟨w.heap.size+1,1,none⟩=some (.slice b' m' r'):=hY.cell_at rfl
      have g2:W1.cell? ⟨w.heap.size+1,2,none⟩=some (.bool u.firm):=hY.cell_at rfl
      go_wp2
      go_ret
      exact⟨rfl,hBw⟩
  · have hD:decide (t=u)=false:=decide_eq_false fun e=>hn (by rw[← ht.sp.1,← hu.sp.1,e])
    rw[hD]
    have hne:((n:Int)!=(n':Int))=true:=by simp;omega
    clear hD ht hu
    go_enter Tryz.func17,Tryz.ntmps17
    go_upto_region 1 with fail
    obtain⟨W1,hW1⟩:∃ x,x=(w.alloc (.cells #[.slice a n q,.slice b m r,.bool t.firm] 34)).alloc (.cells #[.slice a' n' q',.slice b' m' r',.bool u.firm] 34):=⟨_,rfl⟩
    have hBw:Below w.heap.size w W1:=by
      rw[hW1]
      exact((Below.refl _ w).alloc (Nat.le_refl _) _).alloc (by simp) _
    have hX:Has W1 w.heap.size 34 #[.slice a n q,.slice b m r,.bool t.firm]:=by rw[hW1];exact(Has.fresh w _ _).past _
    have hY:Has W1 (w.heap.size+1) 34 #[.slice a' n' q',.slice b' m' r',.bool u.firm]:=by rw[hW1];exact Has.fresh_at _ _ _ (by simp)
    rw[← hW1]
    clear hW1
    have f0:W1.cell? ⟨w.heap.size,0,none⟩=some (.slice a n q):=hX.cell_at rfl
    have f1:W1.cell? ⟨w.heap.size,1,none⟩=some (.slice b m r):=hX.cell_at rfl
    have f2:W1.cell? ⟨w.heap.size,2,none⟩=some (.bool t.firm):=hX.cell_at rfl
    have g0:W1.cell? ⟨w.heap.size+1,0,none⟩=some (.slice a' n' q'):=hY.cell_at rfl
    have g1:W1.cell? ⟨w.heap.size+1,1,none⟩=some (.slice b' m' r'):=hY.cell_at rfl
    have g2:W1.cell? ⟨w.heap.size+1,2,none⟩=some (.bool u.firm):=hY.cell_at rfl
    go_wp2
    go_ret
    exact⟨rfl,hBw⟩
end Go.Proofs.YtijemcfnlbapjaaGreatDoor
namespace Go.Proofs.YtijemcfnlbapjaaGreatDoor
open Go Go.RowKit Go.ChangeShapes Go.WideShapes
structure TxOwn (B:Nat) (w:World) (a:Option Addr) (n q:Nat) (b:Option Addr) (m r:Nat) (t:Tx.T):Prop where
  sp:OwnR spRec 61 B w (.slice a n q) t.sp
  co:OwnR coRec 74 B w (.slice b m r) t.co
theorem OwnR.recs {α:Type} {R:Rec α} {T:TypeId} {B:Nat} {w:World} {a:Option Addr} {n q:Nat} {L:List α} (h:OwnR R T B w (.slice a n q) L):Recs R w a n L∧n≤q∧(a=none→q=0):=by
  obtain⟨a',c',e,h1,h2,_,h3⟩:=h.shape rfl
  injection e with e1 e2 e3
  subst e1
  subst e2
  subst e3
  exact⟨h3,h1,h2⟩
theorem TxOwn.at {B:Nat} {w:World} {a b:Option Addr} {n q m r:Nat} {t:Tx.T} (h:TxOwn B w a n q b m r t):TxAt w a n q b m r t:=
  ⟨h.sp.recs.1,h.co.recs.1,h.sp.recs.2.1,h.co.recs.2.1,h.sp.recs.2.2,h.co.recs.2.2⟩
theorem TxOwn.below {B:Nat} {w w':World} {a b:Option Addr} {n q m r:Nat} {t:Tx.T} (h:TxOwn B w a n q b m r t) (hb:Below w.heap.size w w'):TxOwn B w' a n q b m r t:=⟨h.sp.below hb,h.co.below hb⟩
theorem TxOwn.low {B B':Nat} {w:World} {a b:Option Addr} {n q m r:Nat} {t:Tx.T} (h:TxOwn B w a n q b m r t) (hB:B'≤B):TxOwn B' w a n q b m r t:=⟨h.sp.low hB,h.co.low hB⟩
def CopyPost (n m:Nat) (t:Tx.T) (w0:World) (e:Ending) (w':World):Prop:=
  ∃ (a:Option Addr) (q:Nat) (b:Option Addr) (r:Nat),e=.returned (txv a n q b m r t.firm)∧TxOwn w0.heap.size w' a n q b m r t∧Below w0.heap.size w0 w'
set_option maxRecDepth 100000 in
set_option maxHeartbeats 8000000 in
theorem copy_any (a:Option Addr) (n q:Nat) (b:Option Addr) (m r:Nat) (t:Tx.T) (w:World) (ht:TxAt w a n q b m r t) (hn:n≤1000000000) (hm:m≤1000000000) :
    Calls Tryz.prog 45 #[txv a n q b m r t.firm] w (CopyPost n m t w):=by
  obtain⟨f,hf⟩:∃ f,f=t.firm:=⟨_,rfl⟩
  have HF:=Lib.hid hf
  rw[← hf]
  have HT:=Lib.hid ht
  obtain⟨hq0,hr0⟩:=And.intro ht.q0 ht.r0
  have HN:=Lib.hid (And.intro ht.sp.1 ht.co.1)
  clear hf ht
  obtain⟨W1,hW1⟩:∃ x,x=(w.alloc (.cells #[.slice a n q,.slice b m r,.bool f] 34)).alloc (.cells zTx 34):=⟨_,rfl⟩
  have hBw:Below w.heap.size w W1:=by
    rw[hW1]
    exact((Below.refl _ w).alloc (Nat.le_refl _) _).alloc (by simp) _
  have hX:Has W1 w.heap.size 34 #[.slice a n q,.slice b m r,.bool f]:=by rw[hW1];exact(Has.fresh w _ _).past _
  have hR:Has W1 (w.heap.size+1) 34 zTx:=by rw[hW1];exact Has.fresh_at _ _ _ (by simp)
  have HW:=Lib.hid hW1
  clear hW1
  go_enter Tryz.func45,Tryz.ntmps45
  go_upto_region 1 with fail
  rw[← HW.out]
  obtain⟨g1,hg1⟩:∃ g,g=w.heap.size:=⟨_,rfl⟩
  have HG:=Lib.hid hg1
  rw[← hg1] at hX hR ⊢
  clear hg1
  have hlt:=hR.lt
  have p0:(W1.alloc (.cells #[] 61)).cell? ⟨g1,0,none⟩=some (.slice a n q):=(hX.past _).cell_at rfl
  go_upto_region 2 with(first
    | (at_builtin;have hoE:OwnR spRec 61 W1.heap.size (W1.alloc (.cells #[] 61)) (.slice (some ⟨W1.heap.size,0,none⟩) 0 0) []:=OwnR.empty (Nat.le_refl _) (Has.fresh W1 _ _);refine wpList_append_recs (R:=spRec) rfl (.tmp 3) (.tmp 5) 31 rfl 61 Tryz.underlying31 info_spend rfl (by decide) W1.heap.size _ [] rfl hoE a n q t.sp rfl ((HT.out.sp.below hBw).past _) hq0 (by simp;omega) (by simp) ?_;intro va w2 ho2 hgr2 hl2;rw[List.nil_append] at ho2;have hB2:=below_own_recs ((Below.refl W1.heap.size W1).alloc (Nat.le_refl _) _) hgr2 hoE.lt;have hX2:=hX.under hB2 hX.lt;have hR2:=hR.under hB2 hR.lt;have l2:=hX2.loose 0;have c2:w2.cell? ⟨g1,0,none⟩=some (.slice a n q):=hX2.cell_at rfl;obtain⟨oa,oc,rfl,_⟩:=ho2.shape HN.out.1))
  obtain⟨w3,hw3⟩:∃ x,x=w2.setCell ⟨g1,0,none⟩ (.slice oa n oc):=⟨_,rfl⟩
  have hX3:Has w3 g1 34 #[.slice oa n oc,.slice b m r,.bool f]:=by rw[hw3];exact hX2.put 0 _
  have hR3:Has w3 (g1+1) 34 zTx:=by rw[hw3];exact hR2.aside (by show g1+1≠g1;omega) _
  have hM3:Moved (fun k=>k=g1) w2 w3:=by rw[hw3];exact Moved.put (F:=fun k=>k=g1) (Moved.refl _ _) (.inl rfl) 0 _
  have ho3:=ho2.moved hM3 (fun k hk e=>by have:=ho2.lt k hk;omega)
  have hS3:Below w.heap.size w w3:=by
    rw[hw3,HG.out]
    exact(hBw.trans (hB2.mono hBw.size)).setCell (p:=⟨w.heap.size,0,none⟩) (Nat.le_refl _) _
  rw[← hw3]
  clear hw3 hM3 hX2 hR2 ho2 hB2 hgr2 hl2 l2 c2 hoE p0
  have p1:(w3.alloc (.cells #[] 74)).cell? ⟨g1,1,none⟩=some (.slice b m r):=(hX3.past _).cell_at rfl
  go_upto_region 3 with(first
    | (at_builtin;have hoE:OwnR coRec 74 w3.heap.size (w3.alloc (.cells #[] 74)) (.slice (some ⟨w3.heap.size,0,none⟩) 0 0) []:=OwnR.empty (Nat.le_refl _) (Has.fresh w3 _ _);refine wpList_append_recs (R:=coRec) rfl (.tmp 8) (.tmp 10) 32 rfl 74 Tryz.underlying32 info_coin rfl (by decide) w3.heap.size _ [] rfl hoE b m r t.co rfl ((HT.out.co.below hS3).past _) hr0 (by simp;omega) (by simp) ?_;intro vb w4 ho4 hgr4 hl4;rw[List.nil_append] at ho4;have hB4:=below_own_recs ((Below.refl w3.heap.size w3).alloc (Nat.le_refl _) _) hgr4 hoE.lt;have hX4:=hX3.under hB4 hX3.lt;have hR4:=hR3.under hB4 hR3.lt;have l4:=hX4.loose 1;have c4:w4.cell? ⟨g1,1,none⟩=some (.slice b m r):=hX4.cell_at rfl;obtain⟨ob,od,rfl,_⟩:=ho4.shape HN.out.2))
  obtain⟨w5,hw5⟩:∃ x,x=w4.setCell ⟨g1,1,none⟩ (.slice ob m od):=⟨_,rfl⟩
  have hX5:Has w5 g1 34 #[.slice oa n oc,.slice ob m od,.bool f]:=by rw[hw5];exact hX4.put 1 _
  have hR5:Has w5 (g1+1) 34 zTx:=by rw[hw5];exact hR4.aside (by show g1+1≠g1;omega) _
  have hM5:Moved (fun k=>k=g1) w4 w5:=by rw[hw5];exact Moved.put (F:=fun k=>k=g1) (Moved.refl _ _) (.inl rfl) 1 _
  have ho5:=(ho3.below hB4).moved hM5 (fun k hk e=>by have:=ho3.lt k hk;omega)
  have hc5:=ho4.moved hM5 (fun k hk e=>by have:=ho4.lt k hk;have:=hX3.lt;omega)
  have hS5:Below w.heap.size w w5:=by
    rw[hw5,HG.out]
    exact(hS3.trans (hB4.mono hS3.size)).setCell (p:=⟨w.heap.size,1,none⟩) (Nat.le_refl _) _
  have hlo:w.heap.size≤W1.heap.size:=hBw.size
  have hlo2:w.heap.size≤w3.heap.size:=hS3.size
  have hs13:g1+1<w3.heap.size:=hR3.lt
  rw[← hw5]
  clear hw5 hM5 hX4 hR4 ho4 hB4 hgr4 hl4 l4 c4 hoE p1 ho3 hX3 hR3
  have lX:=hX5.load_agg (P:=Tryz.prog) (t:=34) Tryz.underlying34 rfl (by kernel_rfl)
  go_wp2_with (first
    | (refine wpList_store_mid rfl 34 (.tmp 2) (.tmp 13) rfl (g1+1) 0 #[.slice oa n oc,.slice ob m od,.bool f] rfl rfl (hR5.there 0 3 (Nat.le_refl _)) (by kernel_rfl) (vRec.all_one ⟨oa,n,oc,ob,m,od,⟨[],[],f⟩⟩) ?_)
    | (refine wpList_load_run rfl 34 (.tmp 1) rfl _ _ rfl lX ?_))
  obtain⟨w6,hw6⟩:∃ x,x=w5.setCells (g1+1) 0 (#[.slice oa n oc,.slice ob m od,.bool f]:Array Value).toList:=⟨_,rfl⟩
  have hR6:Has w6 (g1+1) 34 #[.slice oa n oc,.slice ob m od,.bool f]:=by rw[hw6];exact hR5.whole_cs rfl
  have hM6:Moved (fun k=>k=g1+1) w5 w6:=by rw[hw6];exact Moved.putAll (F:=fun k=>k=g1+1) (.inl rfl) _ 0 (Moved.refl _ _)
  have ho6:=ho5.moved hM6 (fun k hk e=>by have:=ho5.lt k hk;omega)
  have hc6:=hc5.moved hM6 (fun k hk e=>by have:=hc5.lt k hk;omega)
  rw[← hw6]
  refine bodyPost_ret (results_one_cell rfl _ _ (g1+1) rfl _ (hR6.load_var Tryz.underlying34 rfl (by kernel_rfl))) rfl ⟨oa,oc,ob,od,by rw[HF.out],⟨ho6.low hlo,hc6.low hlo2⟩,?_⟩
  rw[hw6]
  exact below_setAll (by have:=HG.out;omega) _ 0 hS5
end Go.Proofs.YtijemcfnlbapjaaGreatDoor
namespace Go.Proofs.YtijemcfnlbapjaaGreatDoor.Am
def Good (z:Int):Prop:=0≤z∧z≤2100000000000000
def Right (f w:Int):Prop:=Good f∧1≤w∧w≤1099511627776
instance (z:Int):Decidable (Good z):=inferInstanceAs (Decidable (_∧_))
instance (f w:Int):Decidable (Right f w):=inferInstanceAs (Decidable (_∧_))
def total:List Int→Int→Int×Int
  | [],s=>(s,0)
  | z :: l,s=>if Good z then(if Good (s+z) then total l (s+z) else(0,9)) else(0,9)
def needs (w per:Int):Prop:=1≤w∧w≤1048576∧0≤per∧per≤1048576
instance (w per:Int):Decidable (needs w per):=inferInstanceAs (Decidable (_∧_))
def need (w per:Int):Int:=(w*per+999) / 1000
end Go.Proofs.YtijemcfnlbapjaaGreatDoor.Am
namespace Go.Proofs.YtijemcfnlbapjaaGreatDoor
open Go Go.RowKit Go.ChangeShapes Go.WideShapes
theorem agood_any (z:Int) (b:Bool) (hb:b=true↔Am.Good z) (w:World) :
    Calls Tryz.prog 55 #[.int .i64 z] w fun e w'=>e=.returned (.bool b)∧w=w':=by
  have HB:=Lib.hid hb
  clear hb
  by_cases h1:0≤z
  · by_cases h2:z≤2100000000000000
    · obtain rfl:b=true:=HB.out.2 ⟨h1,h2⟩
      clear HB
      go_enter Tryz.func55,Tryz.ntmps55
      go_wp2
      go_ret
      exact⟨rfl,rfl⟩
    · obtain rfl:b=false:=by
        cases b
        · rfl
        · exact absurd (HB.out.1 rfl).2 h2
      clear HB
      go_enter Tryz.func55,Tryz.ntmps55
      go_wp2
      go_ret
      exact⟨rfl,rfl⟩
  · obtain rfl:b=false:=by
      cases b
      · rfl
      · exact absurd (HB.out.1 rfl).1 h1
    clear HB
    go_enter Tryz.func55,Tryz.ntmps55
    go_wp2
    go_ret
    exact⟨rfl,rfl⟩
def Am.Pays (f v per least:Int):Prop:=Am.needs v per∧Am.Right f v∧Am.need v per≤f∧least≤f
instance (f v per least:Int):Decidable (Am.Pays f v per least):=inferInstanceAs (Decidable (_∧_))
end Go.Proofs.YtijemcfnlbapjaaGreatDoor
