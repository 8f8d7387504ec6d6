/- the reference 14: reached, Ancestors, Descendants, IDs (mkgsc.py) -/
import Derived.Test.YtijemcfnlbapjaaGreatDoorJ31
namespace Go.Proofs.YtijemcfnlbapjaaGreatDoor
open Go Go.RowKit Go.ChangeShapes Go.WideShapes
namespace Gr
structure RInv (up:Bool) (L:List Rn) (I:List (List (BitVec 8))) (l:List (List (BitVec 8))) (i:Nat):Prop where
  nd:l.Nodup
  sub:∀ x,x∈l→RReach up L I x
  base:∀ x,x∈L.map (·.id)→x∈I→x∈l
  cl:∀ x,x∈l.take i→∀ y,y∈rnear up L x→y∈l
section
variable {up:Bool} {L:List Rn} {I l:List (List (BitVec 8))} {i:Nat}
theorem rnear_sub {x y:List (BitVec 8)} (h:y∈rnear up L x):y∈L.map (·.id):=by
  unfold rnear at h
  cases hf:rfnd L x with
  | none=>rw[hf] at h;cases h
  | some z=>
    rw[hf] at h
    obtain⟨k,hk,rfl⟩:=List.mem_map.1 h
    exact List.mem_map.2 ⟨k,(List.mem_filter.1 hk).1,rfl⟩
theorem RReach.mem {x:List (BitVec 8)} (h:RReach up L I x):x∈L.map (·.id):=by
  cases h with
  | base h _=>exact h
  | step _ h=>exact rnear_sub h
theorem RInv.start (hn:(L.map (·.id)).Nodup):RInv up L I ((L.filter fun x=>decide (x.id∈I)).map (·.id)) 0:=by
  have hm:∀ x,x∈(L.filter fun x=>decide (x.id∈I)).map (·.id)↔x∈L.map (·.id)∧x∈I:=fun x=>by
    constructor
    · intro h
      obtain⟨k,hk,rfl⟩:=List.mem_map.1 h
      obtain⟨h1,h2⟩:=List.mem_filter.1 hk
      exact⟨List.mem_map.2 ⟨k,h1,rfl⟩,of_decide_eq_true h2⟩
    · rintro ⟨h,hi⟩
      obtain⟨k,hk,rfl⟩:=List.mem_map.1 h
      exact List.mem_map.2 ⟨k,List.mem_filter.2 ⟨hk,decide_eq_true hi⟩,rfl⟩
  refine⟨List.Nodup.sublist (List.Sublist.map _ List.filter_sublist) hn,fun x hx=>?_,fun x h1 h2=>(hm x).2 ⟨h1,h2⟩,fun x hx=>?_⟩
  · obtain⟨h1,h2⟩:=(hm x).1 hx
    exact .base h1 h2
  · simp at hx
theorem RInv.push (h:RInv up L I l i) (hi:i≤l.length) {y:List (BitVec 8)} (hy:y∉l) (hr:RReach up L I y):RInv up L I (l++[y]) i:=by
  refine⟨List.nodup_append.2 ⟨h.nd,by simp,fun a ha b hb=>by rw[List.mem_singleton.1 hb];exact fun e=>hy (e▸ha)⟩,fun x hx=>?_,fun x h1 h2=>List.mem_append.2 (.inl (h.base x h1 h2)),fun x hx z hz=>?_⟩
  · rcases List.mem_append.1 hx with hx | hx
    · exact h.sub x hx
    · rw[List.mem_singleton.1 hx];exact hr
  · rw[List.take_append_of_le_length hi] at hx
    exact List.mem_append.2 (.inl (h.cl x hx z hz))
theorem RInv.next (h:RInv up L I l i) {X:List (BitVec 8)} (hX:l[i]? = some X) (hc:∀ y,y∈rnear up L X→y∈l):RInv up L I l (i+1):=by
  refine⟨h.nd,h.sub,h.base,fun x hx y hy=>?_⟩
  obtain⟨h2,h3⟩:=List.getElem?_eq_some_iff.1 hX
  rw[List.take_succ_eq_append_getElem h2,h3] at hx
  rcases List.mem_append.1 hx with hx | hx
  · exact h.cl x hx y hy
  · rw[List.mem_singleton.1 hx] at hy
    exact hc y hy
theorem RInv.done (h:RInv up L I l i) (hi:l.length≤i) (x:List (BitVec 8)):x∈l↔RReach up L I x:=by
  refine⟨h.sub x,fun hr=>?_⟩
  induction hr with
  | base h1 h2=>exact h.base _ h1 h2
  | step _ h2 ih=>exact h.cl _ (by rw[List.take_of_length_le hi];exact ih) _ h2
theorem RInv.len (h:RInv up L I l i):l.length≤L.length:=by
  have:=nodup_len h.nd (M:=L.map (·.id)) (fun z hz=>(h.sub z hz).mem)
  rwa [List.length_map] at this
end
theorem hs_lid {w:World} {x:Addr} {n i:Nat} {I:List (List (BitVec 8))} {y:List (BitVec 8)} (h:Recs hsRec w (some x) n I) (hi:I[i]? = some y):(Instr.loadAt 46 (.pointer (some (x.add (i*32))))).run Tryz.prog w=.ok (.agg (blist y).toArray) w:=
  h.load_at (P:=Tryz.prog) Tryz.underlying46 rfl size_hsr hi
def ReachPost (up:Bool) (L:List Rn) (I:List (List (BitVec 8))) (w0:World) (e:Ending) (w':World):Prop:=
  ∃ (v:Value) (K:List (List (BitVec 8))),e=.returned v∧OwnR hsRec 46 w0.heap.size w' v ((L.filter fun x=>decide (x.id∈K)).map (·.id))∧(∀ id,id∈K↔RReach up L I id)∧Below w0.heap.size w0 w'
structure RIn (up:Bool) (L:List Rn) (I:List (List (BitVec 8))) (X:List (BitVec 8)) (i k B:Nat) (w0 w:World) (la:Option Addr) (ln lc:Nat) (na:Option Addr) (nn:Nat) (l:List (List (BitVec 8))):Prop where
  o:OwnR hsRec 46 B w (.slice la ln lc) l
  le:l.length=ln
  inv:RInv up L I l i
  at_:l[i]? = some X
  nx:∀ y,y∈(rnear up L X).take k→y∈l
  r:Recs hsRec w na nn (rnear up L X)
  nf:∀ j,(Value.slice la ln lc).ownBlock=some j→∀ x,na=some x→x.block≠j
  nl:∀ x,na=some x→x.block<w.heap.size
  b:Below B w0 w
end Gr
set_option maxRecDepth 100000 in
set_option maxHeartbeats 8000000 in
theorem rreached14_true (a:Option Addr) (n q:Nat) (L:List Gr.Rn) (b:Option Addr) (m r:Nat) (I:List (List (BitVec 8))) (w:World) (h:Recs Gr.rnRec w a n L) (hI:Recs Gr.hsRec w b m I) (hv:∀ x,x∈L→x.v.At w) (hn:n≤1000000) (hnd:(L.map (·.id)).Nodup) :
    Calls Tryz.prog 65 #[.slice a n q,.slice b m r,.bool true] w (Gr.ReachPost true L I w):=by
  have HH:=Lib.hid h
  have HVV:=Lib.hid (show ∀ w',Below w.heap.size w w'→∀ x,x∈L→x.v.At w' from fun w' hb x hx=>TxAt.below (hv x hx) hb)
  have HN:=Lib.hid hn
  have HND:=Lib.hid hnd
  have HOR:=Lib.hid (rorder14_any a n q L b m r I w h hI hn)
  clear h hI hv hn hnd
  unfold Gr.ReachPost
  go_enter Tryz.func65,Tryz.ntmps65
  go_upto_region 2 with(go_at_call 69;refine HOR.out.mono ?_;rintro e w2 ⟨v2,rfl,ho2,hb2⟩;obtain⟨n2,hn2⟩:∃ k,k=((L.filter fun x=>decide (x.id∈I)).map (·.id)).length:=⟨_,rfl⟩;have HN2:=Lib.hid hn2;clear hn2;obtain⟨a2,c2,rfl,_⟩:=ho2.shape HN2.out.symm)
  have hS0:RowKit.Hid (OwnR Gr.hsRec 46 w.heap.size w2 (.slice a2 n2 c2) ((L.filter fun x=>decide (x.id∈I)).map (·.id))∧((L.filter fun x=>decide (x.id∈I)).map (·.id)).length=n2∧Gr.RInv true L I ((L.filter fun x=>decide (x.id∈I)).map (·.id)) 0∧Below w.heap.size w w2):=Lib.hid ⟨ho2,HN2.out.symm,.start HND.out,hb2⟩
  clear ho2 hb2
  go_wp2
  go_loopw [7,8] (fun lv iv wr=>∃ (i:Nat) (la:Option Addr) (ln lc:Nat) (l:List (List (BitVec 8))),i≤ln∧iv=.int .i64 i∧lv=.slice la ln lc∧RowKit.Hid (OwnR Gr.hsRec 46 w.heap.size wr (.slice la ln lc) l∧l.length=ln∧Gr.RInv true L I l i∧Below w.heap.size w wr)) (fun _ iv _=>n-(intOf iv).toNat)
  case atStart=>exact⟨0,a2,n2,c2,_,Nat.zero_le _,rfl,rfl,hS0⟩
  case round=>
    clear hS0
    obtain⟨i,la,ln,lc,l,hi,rfl,rfl,HS0⟩:=hrel
    have hlmx:ln≤9223372036854775807:=HS0.out.1.recs.1.2.1
    have hlen:ln≤n:=by
      have h1:=HS0.out.2.2.1.len
      rw[HS0.out.2.1,HH.out.1] at h1
      exact h1
    have HO:=Lib.hid HS0.out.1
    have HLL:=Lib.hid HS0.out.2.1
    have HV:=Lib.hid HS0.out.2.2.1
    have HB:=Lib.hid HS0.out.2.2.2
    clear HS0
    by_cases hlt:i<ln
    · have hii:(i:Int)<(ln:Int):=by omega
      have hi0:(0:Int)≤(i:Int):=by omega
      obtain⟨X,hX⟩:=HO.out.recs.1.get hlt
      have HXL:=Lib.hid (show X.length=32 from HO.out.recs.1.okay hX)
      obtain⟨y,rfl,_⟩:=HO.out.recs.1.2.2.2 i X hX
      have hl:=Gr.hs_lid HO.out.recs.1 hX
      have HX:=Lib.hid hX
      have HCH:=Lib.hid (rchildren14_any a n q L X HXL.out wr (HH.out.below HB.out) (HVV.out wr HB.out) HN.out HND.out)
      clear hX
      go_upto_region 8 with(first
        | (go_at_call 20;refine HCP.out.mono ?_;rintro e w6 ⟨v6,rfl,ho6,hb6⟩)
        | (go_at_call 22;refine HCH.out.mono ?_;rintro e w5 ⟨v5,rfl,ho5,hb5⟩;have h5:=HB.out.trans (hb5.mono HB.out.size);have hl5:=Gr.hs_lid (HO.out.recs.1.below hb5) HX.out;have HCP:=Lib.hid (rparents14_any a n q L X HXL.out w5 (HH.out.below h5) (HVV.out w5 h5) HN.out HND.out))
        | (refine wpList_load_run rfl 46 (.tmp 30) rfl _ _ rfl hl5 ?_)
        | (refine wpList_load_run rfl 46 (.tmp 23) rfl _ _ rfl hl ?_))
      obtain⟨nn,hnn⟩:∃ k,k=(Gr.rnear true L X).length:=⟨_,rfl⟩
      obtain⟨na,nc,rfl,_,_,hnb,hnr⟩:=ho6.shape hnn.symm
      have HR0:=Lib.hid (show Gr.RIn true L I X i 0 w.heap.size w w6 (some y) ln lc na nn l from⟨(HO.out.below hb5).below hb6,HLL.out,HV.out,HX.out,fun y hy=>by simp at hy,hnr,fun j hj x e=>by
        have h1:=HO.out.lt_size j hj
        have h2:=hnb x e
        have:=hb5.size
        omega,fun x e=>(hnb x e).2,HB.out.trans ((hb5.trans (hb6.mono hb5.size)).mono HB.out.size)⟩)
      have hnmx:nn≤9223372036854775807:=hnr.2.1
      clear ho5 hb5 ho6 hb6 hl5 hnb hnr hnn hl
      rename World=>wA
      go_wp2
      go_loopw [7,10] (fun lv kv wr=>∃ (k:Nat) (la:Option Addr) (ln lc:Nat) (l:List (List (BitVec 8))),k≤nn∧kv=.int .i64 k∧lv=.slice la ln lc∧RowKit.Hid (Gr.RIn true L I X i k w.heap.size w wr la ln lc na nn l)) (fun _ kv _=>nn-(intOf kv).toNat)
      case atStart=>exact⟨0,_,ln,lc,l,Nat.zero_le _,rfl,rfl,HR0⟩
      case round=>
        clear HR0 HO HLL HV HB HCH
        obtain⟨k,ka,kn,kc,l,hk,rfl,rfl,HR⟩:=hrel
        by_cases hkl:k<nn
        · have hki:(k:Int)<(nn:Int):=by omega
          have hk0:(0:Int)≤(k:Int):=by omega
          obtain⟨Y,hY⟩:=HR.out.r.get hkl
          have HYL:=Lib.hid (show Y.length=32 from HR.out.r.okay hY)
          obtain⟨yd,hya,_⟩:=HR.out.r.2.2.2 k Y hY
          subst hya
          have hl:=Gr.hs_lid HR.out.r hY
          have HY:=Lib.hid hY
          have HT:=Lib.hid (show(Gr.rnear true L X).take (k+1)=(Gr.rnear true L X).take k++[Y] by
            obtain⟨h2,h3⟩:=List.getElem?_eq_some_iff.1 hY
            rw[List.take_succ_eq_append_getElem h2,h3])
          have HIN:=Lib.hid (rin_any ka kn kc l Y HYL.out wr HR.out.o.recs.1)
          obtain⟨R,hR⟩:∃ r,r=decide (Y∈l):=⟨_,rfl⟩
          rw[← hR] at HIN
          have HRR:=Lib.hid hR
          clear hY hR
          cases R
          · have hny:Y∉l:=of_decide_eq_false HRR.out.symm
            have HNY:=Lib.hid hny
            clear hny
            go_wp2_with (first
              | (at_builtin;refine wpList_append_recs (R:=Gr.hsRec) rfl (.tmp 46) (.tmp 51) 30 rfl 46 Tryz.underlying30 Gr.info_hs (by kernel_rfl) (by decide) w.heap.size _ _ rfl ((HR.out.o.below hb7).below ((Below.refl _ _).alloc (Nat.le_refl _) _)) (some ⟨w7.heap.size,0,none⟩) 1 1 [Y] rfl (Gr.hs_fresh HYL.out) (fun e=>by cases e) (by have h1:=HR.out.inv.len;have h2:=HH.out.1;have:=HN.out;omega) (by have:=(HR.out.b.trans (hb7.mono HR.out.b.size)).size;simp;omega) ?_;intro v8 w8 ho8 hg8 hl8)
              | (refine wpList_build_row rfl (.tmp 50) 30 rfl 46 Tryz.underlying30 Gr.info_hs (by decide) (by decide) (blist Y).toArray (by rw[List.size_toArray,blist_length,HYL.out];rfl) rfl ?_)
              | (go_at_call 53;refine HIN.out.mono ?_;rintro e w7 ⟨rfl,hb7⟩;have hl7:=Gr.hs_lid (HR.out.r.below hb7) HY.out)
              | (refine wpList_load_run rfl 46 (.tmp 49) rfl _ _ rfl hl7 ?_)
              | (refine wpList_load_run rfl 46 (.tmp 42) rfl _ _ rfl hl ?_))
            obtain⟨a8,c8,rfl,_⟩:=ho8.shape (K:=kn+1) (by rw[List.length_append,HR.out.le];rfl)
            have hal:Below w7.heap.size w7 (w7.alloc (.cells (blist Y).toArray 46)):=(Below.refl _ _).alloc (Nat.le_refl _) _
            have hb7a:=hb7.trans (hal.mono hb7.size)
            have hoa:=HR.out.o.below hb7a
            have HR8:=Lib.hid (show Gr.RIn true L I X i (k+1) w.heap.size w w8 a8 (kn+1) c8 (some yd) nn (l++[Y]) from by
              have hm:=Moved.of_grown (F:=fun j=>(Value.slice ka kn kc).ownBlock=some j) hg8 (fun k h=>h)
              have hi2:i≤l.length:=Nat.le_of_lt (List.getElem?_eq_some_iff.1 HR.out.at_).1
              have hs7:=hb7a.size
              refine⟨ho8,by rw[List.length_append,HR.out.le];rfl,HR.out.inv.push hi2 HNY.out (.step (HR.out.inv.sub X (List.mem_of_getElem? HR.out.at_)) (List.mem_of_getElem? HY.out)),?_,fun y hy=>?_,(HR.out.r.below hb7a).moved hm (fun _ x e h=>HR.out.nf _ h x e rfl),fun j hj x e=>?_,fun x e=>?_,below_own_recs (HR.out.b.trans (hb7a.mono HR.out.b.size)) hg8 hoa.lt⟩
              · rw[List.getElem?_append_left (List.getElem?_eq_some_iff.1 HR.out.at_).1]
                exact HR.out.at_
              · rw[HT.out] at hy
                rcases List.mem_append.1 hy with hy | hy
                · exact List.mem_append.2 (.inl (HR.out.nx y hy))
                · exact List.mem_append.2 (.inr hy)
              · rcases hl8 j hj with h | h
                · exact HR.out.nf j h x e
                · have:=HR.out.nl x e
                  omega
              · have:=HR.out.nl x e
                have:=hm.size
                omega)
            clear ho8 hg8 hl8 hal hb7a hoa hl hl7 hb7
            go_roundw
            case rel=>exact⟨k+1,a8,kn+1,c8,l++[Y],by omega,by go_num,rfl,HR8⟩
            case measure=>(simp[intOf];try omega)
          · have hny:Y∈l:=of_decide_eq_true HRR.out.symm
            have HNY:=Lib.hid hny
            clear hny
            go_wp2_with (first
              | (go_at_call 53;refine HIN.out.mono ?_;rintro e w7 ⟨rfl,hb7⟩)
              | (refine wpList_load_run rfl 46 (.tmp 42) rfl _ _ rfl hl ?_))
            have HR8:=Lib.hid (show Gr.RIn true L I X i (k+1) w.heap.size w w7 ka kn kc (some yd) nn l from⟨HR.out.o.below hb7,HR.out.le,HR.out.inv,HR.out.at_,fun y hy=>by
              rw[HT.out] at hy
              rcases List.mem_append.1 hy with hy | hy
              · exact HR.out.nx y hy
              · rw[List.mem_singleton.1 hy];exact HNY.out,HR.out.r.below hb7,HR.out.nf,fun x e=>Nat.lt_of_lt_of_le (HR.out.nl x e) hb7.size,HR.out.b.trans (hb7.mono HR.out.b.size)⟩)
            clear hl hb7
            go_roundw
            case rel=>exact⟨k+1,ka,kn,kc,l,by omega,by go_num,rfl,HR8⟩
            case measure=>(simp[intOf];try omega)
        · have hki:¬ (k:Int)<(nn:Int):=by omega
          have hik:i+1≤kn:=by rw[← HR.out.le];exact(List.getElem?_eq_some_iff.1 HR.out.at_).1
          have hkn:kn≤n:=by
            have h1:=HR.out.inv.len
            rw[HR.out.le,HH.out.1] at h1
            exact h1
          have HE:=Lib.hid (show OwnR Gr.hsRec 46 w.heap.size wr (.slice ka kn kc) l∧l.length=kn∧Gr.RInv true L I l (i+1)∧Below w.heap.size w wr from⟨HR.out.o,HR.out.le,HR.out.inv.next HR.out.at_ (fun y hy=>HR.out.nx y (by rw[List.take_of_length_le (by rw[HR.out.r.1];omega)];exact hy)),HR.out.b⟩)
          clear HR
          go_wp2
          go_roundw
          case rel=>exact⟨i+1,ka,kn,kc,l,hik,by go_num,rfl,HE⟩
          case measure=>(simp[intOf];try omega)
    · have hii:¬ (i:Int)<(ln:Int):=by omega
      have HOR2:=Lib.hid (rorder14_any a n q L la ln lc l wr (HH.out.below HB.out) HO.out.recs.1 HN.out)
      have HD:=Lib.hid (HV.out.done (by rw[HLL.out];omega))
      clear HV
      go_wp2_with (go_at_call 69;refine HOR2.out.mono ?_;rintro e w5 ⟨v5,rfl,ho5,hb5⟩)
      go_ret
      exact⟨v5,l,rfl,ho5.low HB.out.size,HD.out,HB.out.trans (hb5.mono HB.out.size)⟩
set_option maxRecDepth 100000 in
set_option maxHeartbeats 8000000 in
theorem rreached14_false (a:Option Addr) (n q:Nat) (L:List Gr.Rn) (b:Option Addr) (m r:Nat) (I:List (List (BitVec 8))) (w:World) (h:Recs Gr.rnRec w a n L) (hI:Recs Gr.hsRec w b m I) (hv:∀ x,x∈L→x.v.At w) (hn:n≤1000000) (hnd:(L.map (·.id)).Nodup) :
    Calls Tryz.prog 65 #[.slice a n q,.slice b m r,.bool false] w (Gr.ReachPost false L I w):=by
  have HH:=Lib.hid h
  have HVV:=Lib.hid (show ∀ w',Below w.heap.size w w'→∀ x,x∈L→x.v.At w' from fun w' hb x hx=>TxAt.below (hv x hx) hb)
  have HN:=Lib.hid hn
  have HND:=Lib.hid hnd
  have HOR:=Lib.hid (rorder14_any a n q L b m r I w h hI hn)
  clear h hI hv hn hnd
  unfold Gr.ReachPost
  go_enter Tryz.func65,Tryz.ntmps65
  go_upto_region 2 with(go_at_call 69;refine HOR.out.mono ?_;rintro e w2 ⟨v2,rfl,ho2,hb2⟩;obtain⟨n2,hn2⟩:∃ k,k=((L.filter fun x=>decide (x.id∈I)).map (·.id)).length:=⟨_,rfl⟩;have HN2:=Lib.hid hn2;clear hn2;obtain⟨a2,c2,rfl,_⟩:=ho2.shape HN2.out.symm)
  have hS0:RowKit.Hid (OwnR Gr.hsRec 46 w.heap.size w2 (.slice a2 n2 c2) ((L.filter fun x=>decide (x.id∈I)).map (·.id))∧((L.filter fun x=>decide (x.id∈I)).map (·.id)).length=n2∧Gr.RInv false L I ((L.filter fun x=>decide (x.id∈I)).map (·.id)) 0∧Below w.heap.size w w2):=Lib.hid ⟨ho2,HN2.out.symm,.start HND.out,hb2⟩
  clear ho2 hb2
  go_wp2
  go_loopw [7,8] (fun lv iv wr=>∃ (i:Nat) (la:Option Addr) (ln lc:Nat) (l:List (List (BitVec 8))),i≤ln∧iv=.int .i64 i∧lv=.slice la ln lc∧RowKit.Hid (OwnR Gr.hsRec 46 w.heap.size wr (.slice la ln lc) l∧l.length=ln∧Gr.RInv false L I l i∧Below w.heap.size w wr)) (fun _ iv _=>n-(intOf iv).toNat)
  case atStart=>exact⟨0,a2,n2,c2,_,Nat.zero_le _,rfl,rfl,hS0⟩
  case round=>
    clear hS0
    obtain⟨i,la,ln,lc,l,hi,rfl,rfl,HS0⟩:=hrel
    have hlmx:ln≤9223372036854775807:=HS0.out.1.recs.1.2.1
    have hlen:ln≤n:=by
      have h1:=HS0.out.2.2.1.len
      rw[HS0.out.2.1,HH.out.1] at h1
      exact h1
    have HO:=Lib.hid HS0.out.1
    have HLL:=Lib.hid HS0.out.2.1
    have HV:=Lib.hid HS0.out.2.2.1
    have HB:=Lib.hid HS0.out.2.2.2
    clear HS0
    by_cases hlt:i<ln
    · have hii:(i:Int)<(ln:Int):=by omega
      have hi0:(0:Int)≤(i:Int):=by omega
      obtain⟨X,hX⟩:=HO.out.recs.1.get hlt
      have HXL:=Lib.hid (show X.length=32 from HO.out.recs.1.okay hX)
      obtain⟨y,rfl,_⟩:=HO.out.recs.1.2.2.2 i X hX
      have hl:=Gr.hs_lid HO.out.recs.1 hX
      have HX:=Lib.hid hX
      have HCH:=Lib.hid (rchildren14_any a n q L X HXL.out wr (HH.out.below HB.out) (HVV.out wr HB.out) HN.out HND.out)
      clear hX
      go_upto_region 8 with(first
        | (go_at_call 22;refine HCH.out.mono ?_;rintro e w5 ⟨v5,rfl,ho5,hb5⟩)
        | (refine wpList_load_run rfl 46 (.tmp 23) rfl _ _ rfl hl ?_))
      obtain⟨nn,hnn⟩:∃ k,k=(Gr.rnear false L X).length:=⟨_,rfl⟩
      obtain⟨na,nc,rfl,_,_,hnb,hnr⟩:=ho5.shape hnn.symm
      have HR0:=Lib.hid (show Gr.RIn false L I X i 0 w.heap.size w w5 (some y) ln lc na nn l from⟨HO.out.below hb5,HLL.out,HV.out,HX.out,fun y hy=>by simp at hy,hnr,fun j hj x e=>by
        have h1:=HO.out.lt_size j hj
        have h2:=hnb x e
        omega,fun x e=>(hnb x e).2,HB.out.trans (hb5.mono HB.out.size)⟩)
      have hnmx:nn≤9223372036854775807:=hnr.2.1
      clear ho5 hb5 hnb hnr hnn hl
      rename World=>wA
      go_wp2
      go_loopw [7,10] (fun lv kv wr=>∃ (k:Nat) (la:Option Addr) (ln lc:Nat) (l:List (List (BitVec 8))),k≤nn∧kv=.int .i64 k∧lv=.slice la ln lc∧RowKit.Hid (Gr.RIn false L I X i k w.heap.size w wr la ln lc na nn l)) (fun _ kv _=>nn-(intOf kv).toNat)
      case atStart=>exact⟨0,_,ln,lc,l,Nat.zero_le _,rfl,rfl,HR0⟩
      case round=>
        clear HR0 HO HLL HV HB HCH
        obtain⟨k,ka,kn,kc,l,hk,rfl,rfl,HR⟩:=hrel
        by_cases hkl:k<nn
        · have hki:(k:Int)<(nn:Int):=by omega
          have hk0:(0:Int)≤(k:Int):=by omega
          obtain⟨Y,hY⟩:=HR.out.r.get hkl
          have HYL:=Lib.hid (show Y.length=32 from HR.out.r.okay hY)
          obtain⟨yd,hya,_⟩:=HR.out.r.2.2.2 k Y hY
          subst hya
          have hl:=Gr.hs_lid HR.out.r hY
          have HY:=Lib.hid hY
          have HT:=Lib.hid (show(Gr.rnear false L X).take (k+1)=(Gr.rnear false L X).take k++[Y] by
            obtain⟨h2,h3⟩:=List.getElem?_eq_some_iff.1 hY
            rw[List.take_succ_eq_append_getElem h2,h3])
          have HIN:=Lib.hid (rin_any ka kn kc l Y HYL.out wr HR.out.o.recs.1)
          obtain⟨R,hR⟩:∃ r,r=decide (Y∈l):=⟨_,rfl⟩
          rw[← hR] at HIN
          have HRR:=Lib.hid hR
          clear hY hR
          cases R
          · have hny:Y∉l:=of_decide_eq_false HRR.out.symm
            have HNY:=Lib.hid hny
            clear hny
            go_wp2_with (first
              | (at_builtin;refine wpList_append_recs (R:=Gr.hsRec) rfl (.tmp 46) (.tmp 51) 30 rfl 46 Tryz.underlying30 Gr.info_hs (by kernel_rfl) (by decide) w.heap.size _ _ rfl ((HR.out.o.below hb7).below ((Below.refl _ _).alloc (Nat.le_refl _) _)) (some ⟨w7.heap.size,0,none⟩) 1 1 [Y] rfl (Gr.hs_fresh HYL.out) (fun e=>by cases e) (by have h1:=HR.out.inv.len;have h2:=HH.out.1;have:=HN.out;omega) (by have:=(HR.out.b.trans (hb7.mono HR.out.b.size)).size;simp;omega) ?_;intro v8 w8 ho8 hg8 hl8)
              | (refine wpList_build_row rfl (.tmp 50) 30 rfl 46 Tryz.underlying30 Gr.info_hs (by decide) (by decide) (blist Y).toArray (by rw[List.size_toArray,blist_length,HYL.out];rfl) rfl ?_)
              | (go_at_call 53;refine HIN.out.mono ?_;rintro e w7 ⟨rfl,hb7⟩;have hl7:=Gr.hs_lid (HR.out.r.below hb7) HY.out)
              | (refine wpList_load_run rfl 46 (.tmp 49) rfl _ _ rfl hl7 ?_)
              | (refine wpList_load_run rfl 46 (.tmp 42) rfl _ _ rfl hl ?_))
            obtain⟨a8,c8,rfl,_⟩:=ho8.shape (K:=kn+1) (by rw[List.length_append,HR.out.le];rfl)
            have hal:Below w7.heap.size w7 (w7.alloc (.cells (blist Y).toArray 46)):=(Below.refl _ _).alloc (Nat.le_refl _) _
            have hb7a:=hb7.trans (hal.mono hb7.size)
            have hoa:=HR.out.o.below hb7a
            have HR8:=Lib.hid (show Gr.RIn false L I X i (k+1) w.heap.size w w8 a8 (kn+1) c8 (some yd) nn (l++[Y]) from by
              have hm:=Moved.of_grown (F:=fun j=>(Value.slice ka kn kc).ownBlock=some j) hg8 (fun k h=>h)
              have hi2:i≤l.length:=Nat.le_of_lt (List.getElem?_eq_some_iff.1 HR.out.at_).1
              have hs7:=hb7a.size
              refine⟨ho8,by rw[List.length_append,HR.out.le];rfl,HR.out.inv.push hi2 HNY.out (.step (HR.out.inv.sub X (List.mem_of_getElem? HR.out.at_)) (List.mem_of_getElem? HY.out)),?_,fun y hy=>?_,(HR.out.r.below hb7a).moved hm (fun _ x e h=>HR.out.nf _ h x e rfl),fun j hj x e=>?_,fun x e=>?_,below_own_recs (HR.out.b.trans (hb7a.mono HR.out.b.size)) hg8 hoa.lt⟩
              · rw[List.getElem?_append_left (List.getElem?_eq_some_iff.1 HR.out.at_).1]
                exact HR.out.at_
              · rw[HT.out] at hy
                rcases List.mem_append.1 hy with hy | hy
                · exact List.mem_append.2 (.inl (HR.out.nx y hy))
                · exact List.mem_append.2 (.inr hy)
              · rcases hl8 j hj with h | h
                · exact HR.out.nf j h x e
                · have:=HR.out.nl x e
                  omega
              · have:=HR.out.nl x e
                have:=hm.size
                omega)
            clear ho8 hg8 hl8 hal hb7a hoa hl hl7 hb7
            go_roundw
            case rel=>exact⟨k+1,a8,kn+1,c8,l++[Y],by omega,by go_num,rfl,HR8⟩
            case measure=>(simp[intOf];try omega)
          · have hny:Y∈l:=of_decide_eq_true HRR.out.symm
            have HNY:=Lib.hid hny
            clear hny
            go_wp2_with (first
              | (go_at_call 53;refine HIN.out.mono ?_;rintro e w7 ⟨rfl,hb7⟩)
              | (refine wpList_load_run rfl 46 (.tmp 42) rfl _ _ rfl hl ?_))
            have HR8:=Lib.hid (show Gr.RIn false L I X i (k+1) w.heap.size w w7 ka kn kc (some yd) nn l from⟨HR.out.o.below hb7,HR.out.le,HR.out.inv,HR.out.at_,fun y hy=>by
              rw[HT.out] at hy
              rcases List.mem_append.1 hy with hy | hy
              · exact HR.out.nx y hy
              · rw[List.mem_singleton.1 hy];exact HNY.out,HR.out.r.below hb7,HR.out.nf,fun x e=>Nat.lt_of_lt_of_le (HR.out.nl x e) hb7.size,HR.out.b.trans (hb7.mono HR.out.b.size)⟩)
            clear hl hb7
            go_roundw
            case rel=>exact⟨k+1,ka,kn,kc,l,by omega,by go_num,rfl,HR8⟩
            case measure=>(simp[intOf];try omega)
        · have hki:¬ (k:Int)<(nn:Int):=by omega
          have hik:i+1≤kn:=by rw[← HR.out.le];exact(List.getElem?_eq_some_iff.1 HR.out.at_).1
          have hkn:kn≤n:=by
            have h1:=HR.out.inv.len
            rw[HR.out.le,HH.out.1] at h1
            exact h1
          have HE:=Lib.hid (show OwnR Gr.hsRec 46 w.heap.size wr (.slice ka kn kc) l∧l.length=kn∧Gr.RInv false L I l (i+1)∧Below w.heap.size w wr from⟨HR.out.o,HR.out.le,HR.out.inv.next HR.out.at_ (fun y hy=>HR.out.nx y (by rw[List.take_of_length_le (by rw[HR.out.r.1];omega)];exact hy)),HR.out.b⟩)
          clear HR
          go_wp2
          go_roundw
          case rel=>exact⟨i+1,ka,kn,kc,l,hik,by go_num,rfl,HE⟩
          case measure=>(simp[intOf];try omega)
    · have hii:¬ (i:Int)<(ln:Int):=by omega
      have HOR2:=Lib.hid (rorder14_any a n q L la ln lc l wr (HH.out.below HB.out) HO.out.recs.1 HN.out)
      have HD:=Lib.hid (HV.out.done (by rw[HLL.out];omega))
      clear HV
      go_wp2_with (go_at_call 69;refine HOR2.out.mono ?_;rintro e w5 ⟨v5,rfl,ho5,hb5⟩)
      go_ret
      exact⟨v5,l,rfl,ho5.low HB.out.size,HD.out,HB.out.trans (hb5.mono HB.out.size)⟩
set_option maxHeartbeats 4000000 in
theorem ranc14_any (a:Option Addr) (n q:Nat) (L:List Gr.Rn) (b:Option Addr) (m r:Nat) (I:List (List (BitVec 8))) (w:World) (h:Recs Gr.rnRec w a n L) (hI:Recs Gr.hsRec w b m I) (hv:∀ x,x∈L→x.v.At w) (hn:n≤1000000) (hnd:(L.map (·.id)).Nodup) :
    Calls Tryz.prog 27 #[.slice a n q,.slice b m r] w (Gr.ReachPost true L I w):=by
  have HR:=Lib.hid (rreached14_true a n q L b m r I w h hI hv hn hnd)
  clear h hI hv hn hnd
  unfold Gr.ReachPost at HR ⊢
  go_enter Tryz.func27,Tryz.ntmps27
  go_wp2_with (go_at_call 65;refine HR.out.mono ?_;rintro e w2 ⟨v,K,rfl,ho,hk,hb⟩)
  go_ret
  exact⟨v,K,rfl,ho,hk,hb⟩
set_option maxHeartbeats 4000000 in
theorem rdesc14_any (a:Option Addr) (n q:Nat) (L:List Gr.Rn) (b:Option Addr) (m r:Nat) (I:List (List (BitVec 8))) (w:World) (h:Recs Gr.rnRec w a n L) (hI:Recs Gr.hsRec w b m I) (hv:∀ x,x∈L→x.v.At w) (hn:n≤1000000) (hnd:(L.map (·.id)).Nodup) :
    Calls Tryz.prog 29 #[.slice a n q,.slice b m r] w (Gr.ReachPost false L I w):=by
  have HR:=Lib.hid (rreached14_false a n q L b m r I w h hI hv hn hnd)
  clear h hI hv hn hnd
  unfold Gr.ReachPost at HR ⊢
  go_enter Tryz.func29,Tryz.ntmps29
  go_wp2_with (go_at_call 65;refine HR.out.mono ?_;rintro e w2 ⟨v,K,rfl,ho,hk,hb⟩)
  go_ret
  exact⟨v,K,rfl,ho,hk,hb⟩
set_option maxRecDepth 100000 in
set_option maxHeartbeats 8000000 in
theorem rids14_any (a:Option Addr) (n q:Nat) (L:List Gr.Rn) (w:World) (h:Recs Gr.rnRec w a n L) (hn:n≤1000000) :
    Calls Tryz.prog 47 #[.slice a n q] w fun e w'=>∃ v,e=.returned v∧OwnR Gr.hsRec 46 w.heap.size w' v (L.map (·.id))∧Below w.heap.size w w':=by
  have HH:=Lib.hid h
  have HN:=Lib.hid hn
  have hnmx:n≤9223372036854775807:=h.2.1
  clear h hn
  go_enter Tryz.func47,Tryz.ntmps47
  go_wp2
  have hO0:RowKit.Hid (OwnR Gr.hsRec 46 w.heap.size w (.slice none 0 0) ((L.take 0).map (·.id))):=Lib.hid (OwnR.nil _ _ _ _)
  go_loopw [3,4] (fun sv iv wr=>∃ (i:Nat) (ov:Value),i≤n∧iv=.int .i64 i∧ov=sv∧RowKit.Hid (OwnR Gr.hsRec 46 w.heap.size wr ov ((L.take i).map (·.id)))∧Below w.heap.size w wr) (fun _ iv _=>n-(intOf iv).toNat)
  case atStart=>exact⟨0,_,Nat.zero_le _,rfl,rfl,hO0,Below.refl _ _⟩
  case round=>
    clear hO0
    obtain⟨i,ov,hi,rfl,rfl,HO,hb⟩:=hrel
    by_cases hlt:i<n
    · have hii:(i:Int)<(n:Int):=by omega
      have hi0:(0:Int)≤(i:Int):=by omega
      obtain⟨x,hx⟩:=HH.out.get hlt
      have HYL:=Lib.hid (show x.id.length=32 from HH.out.okay hx)
      obtain⟨ad,rfl,_⟩:=HH.out.2.2.2 i x hx
      have HT:=Lib.hid (show(L.take (i+1)).map (·.id)=(L.take i).map (·.id)++[x.id] by
        obtain⟨h2,h3⟩:=List.getElem?_eq_some_iff.1 hx
        rw[List.take_succ_eq_append_getElem h2,h3,List.map_append]
        rfl)
      have HLN:=Lib.hid (show((L.take i).map (·.id)).length≤i by
        rw[List.length_map,List.length_take]
        omega)
      have lid:=rn_lid (HH.out.below hb) hx
      have hsz:=hb.size
      clear hx
      go_wp2_with (first
        | (at_builtin;refine wpList_append_recs (R:=Gr.hsRec) rfl (.tmp 11) (.tmp 17) 30 rfl 46 Tryz.underlying30 Gr.info_hs (by kernel_rfl) (by decide) w.heap.size ov _ rfl (HO.out.below ((Below.refl _ _).alloc (Nat.le_refl _) _)) (some ⟨wr.heap.size,0,none⟩) 1 1 [x.id] rfl (Gr.hs_fresh HYL.out) (fun e=>by cases e) (by have:=HLN.out;have:=HN.out;omega) (by simp;omega) ?_;intro v' w7 ho' hg' hl')
        | (refine wpList_build_row rfl (.tmp 16) 30 rfl 46 Tryz.underlying30 Gr.info_hs (by decide) (by decide) (blist x.id).toArray (by rw[List.size_toArray,blist_length,HYL.out];rfl) rfl ?_)
        | (refine wpList_load_run rfl 46 (.tmp 15) rfl _ _ rfl lid ?_))
      have hB7:=below_own_recs (hb.alloc hb.size _) hg' HO.out.lt
      have HO2:=Lib.hid (show OwnR Gr.hsRec 46 w.heap.size w7 v' ((L.take (i+1)).map (·.id)) by rw[HT.out];exact ho')
      clear ho' hg' hl' lid
      go_roundw
      case rel=>exact⟨i+1,v',by omega,by go_num,rfl,HO2,hB7⟩
      case measure=>(simp[intOf];try omega)
    · have hii:¬ (i:Int)<(n:Int):=by omega
      obtain rfl:i=n:=by omega
      have HO2:=Lib.hid (show OwnR Gr.hsRec 46 w.heap.size wr ov (L.map (·.id)) by
        have e:L.take i=L:=List.take_of_length_le (by rw[HH.out.1];exact Nat.le_refl _)
        have:=HO.out
        rw[e] at this
        exact this)
      clear HO
      go_wp2
      go_ret
      exact⟨ov,rfl,HO2.out,hb⟩
end Go.Proofs.YtijemcfnlbapjaaGreatDoor
