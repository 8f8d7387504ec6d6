/- package graph: Rate (mkgsj.py) · gossamernum.Hashes of like lists (mkgru.py) · the reference 14: Get; GraphAsks (mkgsk.py) · a drawn region: two calls that are ready at once, in either order (by hand) · a drawn region: a slice built, a call of it, another slice built, in every order; what stands needs (by hand) -/
import Derived.Test.YtijemcfnlbapjaaGreatDoorJ35
import Derived.Test.YtijemcfnlbapjaaGreatDoorJ26
import Derived.Test.YtijemcfnlbapjaaGreatDoorJ30
import Derived.Test.YtijemcfnlbapjaaGreatDoorJ33
import Derived.Test.YtijemcfnlbapjaaGreatDoorJ34
import Derived.Laws.Cover3
import Derived.Test.YtijemcfnlbapjaaGreatDoorJ01
namespace Go.Proofs.YtijemcfnlbapjaaGreatDoor
open Go Go.RowKit Go.ChangeShapes Go.WideShapes
namespace Gr
def gbad (M:List Nd) (I:List (List (BitVec 8))):Bool:=I.isEmpty||I.any fun id=>!(find M id).isSome
def gsel (M:List Nd) (I:List (List (BitVec 8))):List Nd:=M.filter fun x=>decide (x.id∈I)
def grateV (M:List Nd) (I:List (List (BitVec 8))):Int×Int×Int:=rateV (gbad M I) ((gsel M I).map (·.fee)) ((gsel M I).map (·.wt))
theorem Sim.rate {M:List Nd} {L:List Rn} (h:Sim M L) (hk:∀ x,x∈M→Am.Good x.fee∧x.wt=Tx.weight x.x.t) (I:List (List (BitVec 8))):grateV M I=rrateV L I:=by
  have h1:gbad M I=rbad L I:=by
    unfold gbad rbad
    congr 1
    congr 1
    funext id
    rw[h.has]
  have h2:=h.keep fun k=>decide (k.2.1∈I)
  have h3:(gsel M I).map (·.fee)=rfees L I:=by
    have:=congrArg (List.map (fun k:Key=>k.2.2)) h2
    rw[List.map_map,List.map_map] at this
    exact this
  have h4:(gsel M I).map (·.wt)=rwts L I:=by
    have:=congrArg (List.map (fun k:Key=>Tx.weight k.1)) h2
    rw[List.map_map,List.map_map] at this
    rw[show rwts L I=_ from rfl]
    refine Eq.trans ?_ this
    exact List.map_congr_left fun x hx=>(hk x (List.mem_filter.1 hx).1).2
  unfold grateV rrateV
  rw[h1,h3,h4]
theorem perm_sum {A B:List Int} (h:A.Perm B):A.sum=B.sum:=by
  induction h with
  | nil=>rfl
  | cons x _ ih=>rw[List.sum_cons,List.sum_cons,ih]
  | swap x y l=>simp only[List.sum_cons];omega
  | trans _ _ h1 h2=>exact h1.trans h2
theorem tot_good:∀ (l:List Int) (s:Int),(∀ z,z∈l→Am.Good z)→Am.Good s→Am.total l s=if Am.Good (s+l.sum) then(s+l.sum,0) else(0,9)
  | [],s,_,hs=>by simp[Am.total,hs]
  | z :: l,s,h,hs=>by
    have hz:=h z List.mem_cons_self
    have hl:=sum_bound (B:=2100000000000000) (by decide) (l:=l) fun u hu=>h u (List.mem_cons_of_mem _ hu)
    unfold Am.total
    rw[if_pos hz]
    by_cases hg:Am.Good (s+z)
    · rw[if_pos hg,tot_good l (s+z) (fun u hu=>h u (List.mem_cons_of_mem _ hu)) hg,List.sum_cons,Int.add_assoc]
    · rw[if_neg hg,if_neg (fun h2=>hg (by
        rw[List.sum_cons] at h2
        obtain⟨h3,h4⟩:=h2
        obtain⟨h5,h6⟩:=hz
        obtain⟨h7,h8⟩:=hs
        exact⟨by omega,by omega⟩))]
theorem gbad_any (M:List Nd) {I:List (List (BitVec 8))} (h:I≠[]):gbad M I=I.any fun id=>!(find M id).isSome:=by
  unfold gbad
  cases I with
  | nil=>exact absurd rfl h
  | cons _ _=>rfl
theorem sel_perm {w:World} {g bn bs:Nat} {M K:List Nd} {nx b:Nat} {I:List (List (BitVec 8))} {w2:World} (h:At w g bn bs M nx) (hK:GrpAt w2 b K) (hm:∀ z,z∈K↔z∈M∧z.id∈I):K.Perm (gsel M I):=by
  have hid:(K.map (·.id)).Nodup:=by
    obtain⟨es,clock,_,_,hn,_⟩:=hK.map
    rw[ents,List.map_map] at hn
    exact hn
  have n1:K.Nodup:=(List.pairwise_map.1 hid).imp fun h e=>h (congrArg _ e)
  have n2:M.Nodup:=(List.pairwise_map.1 h.pls).imp fun h e=>h (congrArg _ e)
  refine(List.perm_ext_iff_of_nodup n1 (List.Nodup.sublist List.filter_sublist n2)).2 fun z=>?_
  rw[hm,List.mem_filter,decide_eq_true_eq]
def intR:Rec Int where
  k:=1
  cells:=fun z=>[.int .i64 z]
  ok:=fun _=>True
  pos:=by omega
  len _ _:=rfl
  one t v hv:=by rw[List.mem_singleton.1 hv];rfl
theorem info_int:(Tryz.prog.info? 3).map (fun i=>(i.zero,i.size,i.bytes))=some (some (.int .i64 0),intR.k,8):=by kernel_rfl
theorem int_fresh {w:World} (z:Int):Recs intR (w.alloc (.cells #[.int .i64 z] 3)) (some ⟨w.heap.size,0,none⟩) 1 [z]:=
  recs_fresh (R:=intR) (L:=[z]) (fun _ _=>trivial) (Has.fresh _ _ _) (by show 1≤maxLen;unfold maxLen;omega) (fun j u hj=>by rw[← Array.getElem?_toList];exact hj)
theorem int_nums {w:World} {a:Option Addr} {n:Nat} {l:List Int} (h:Recs intR w a n l):Nums w a n l:=by
  refine⟨h.1,h.2.1,fun i hi=>?_⟩
  obtain⟨z,hz⟩:=h.get hi
  obtain⟨x,e,hx⟩:=h.2.2.2 i z hz
  refine⟨x,e,?_⟩
  have h1:=hx 0 _ rfl
  have e2:i*intR.k+0=i:=by show i*1+0=i;omega
  rw[e2] at h1
  rw[h1,cn,List.getD_eq_getElem?_getD,hz]
  rfl
end Gr
set_option maxRecDepth 100000 in
set_option maxHeartbeats 8000000 in
theorem gmiss_any {w:World} {g bn bs:Nat} {M:List Gr.Nd} {nx:Nat} (h:Gr.At w g bn bs M nx) (gb:Nat) (hg:Has w gb 25 #[.pointer (some ⟨g,0,none⟩)]) (id:List (BitVec 8)) (hid:id.length=32) :
    Calls Tryz.prog 48 #[.agg (blist id).toArray,.pointer (some ⟨gb,0,none⟩)] w fun e w'=>e=.returned (.bool (!(Gr.find M id).isSome))∧Below w.heap.size w w':=by
  obtain⟨W1,hW1⟩:∃ ww,ww=w.alloc (.cells (blist id).toArray 46):=⟨_,rfl⟩
  have hB1:Below w.heap.size w W1:=by rw[hW1];exact(Below.refl _ _).alloc (Nat.le_refl _) _
  have hP1:Has W1 w.heap.size 46 (blist id).toArray:=by rw[hW1];exact Has.fresh _ _ _
  have lP:=hP1.load_agg (P:=Tryz.prog) (t:=46) Tryz.underlying46 rfl (size_hs hid)
  have c0:W1.cell? ⟨gb,0,none⟩=some (.pointer (some ⟨g,0,none⟩)):=(hg.under hB1 hg.lt).cell_at rfl
  have hA:=h.below hB1
  have HG:=Lib.hid (ghas_any hA.has hA.grp.map id hid)
  have HLK:=Lib.hid (show(Mp.look (Gr.ents M) id).isSome=(Gr.find M id).isSome by rw[Gr.look_ents,Option.isSome_map])
  rw[HLK.out] at HG
  obtain⟨o,ho⟩:∃ o,o=(Gr.find M id).isSome:=⟨_,rfl⟩
  rw[← ho] at HG ⊢
  clear HLK ho
  have HW:=Lib.hid hW1
  have HB1:=Lib.hid hB1
  clear hW1 hB1 hP1 h hg hA
  go_enter Tryz.func48,Tryz.ntmps48
  go_upto_region 1 with fail
  rw[← HW.out]
  go_wp2_with (first
    | (go_at_call 38;refine HG.out.mono ?_;rintro e w2 ⟨rfl,hb2⟩)
    | (refine wpList_load_run rfl 46 (.tmp 2) rfl _ _ rfl lP ?_))
  go_ret
  exact⟨rfl,HB1.out.trans (hb2.mono HB1.out.size)⟩
set_option maxRecDepth 100000 in
set_option maxHeartbeats 8000000 in
theorem gidx_any {w:World} {g bn bs:Nat} {M:List Gr.Nd} {nx:Nat} (h0:Gr.At w g bn bs M nx) (gb:Nat) (hg:Has w gb 25 #[.pointer (some ⟨g,0,none⟩)]) (a:Option Addr) (n q:Nat) (L:List (List (BitVec 8))) (h:Recs Gr.hsRec w a n L) (r:Bool) (hr:r=L.any fun id=>!(Gr.find M id).isSome) :
    Calls Tryz.prog 82 #[.slice a n q,.func (.func 48) #[] #[.pointer (some ⟨gb,0,none⟩)]] w fun e w'=>(∃ z:Int,e=.returned (.int .i64 z)∧(0≤z↔r=true))∧Below w.heap.size w w':=by
  have hmx:n≤9223372036854775807:=h.2.1
  have HL:=Lib.hid h.1
  have H0:=Lib.hid h0
  have HG:=Lib.hid hg
  have HR:=Lib.hid (show r=true↔∃ s,s∈L∧(!(Gr.find M s).isSome)=true by rw[hr,List.any_eq_true])
  have HH:=Lib.hid h
  clear h0 hr hg h
  go_enter Tryz.func82,Tryz.ntmps82
  go_wp2
  go_loopw [8] (fun iv wr=>∃ i:Nat,i≤n∧iv=.int .i64 i∧RowKit.Hid (∀ s,s∈L.take i→¬ ((!(Gr.find M s).isSome)=true))∧Below w.heap.size w wr) (fun iv _=>n-(intOf iv).toNat)
  case atStart=>exact⟨0,Nat.zero_le _,rfl,Lib.hid (by simp),Below.refl _ _⟩
  case round=>
    obtain⟨i,hi,rfl,HB,hb⟩:=hrel
    by_cases hlt:i<n
    · have hii:(i:Int)<(n:Int):=by omega
      have hi0:(0:Int)≤(i:Int):=by omega
      obtain⟨s,hs⟩:=HH.out.get hlt
      obtain⟨x,rfl,_⟩:=HH.out.2.2.2 i s hs
      have hy:=Gr.hs_lid (HH.out.below hb) hs
      have HSL:=Lib.hid (show s.length=32 from HH.out.okay hs)
      have HT:=Lib.hid (show L.take (i+1)=L.take i++[s] by
        obtain⟨h2,h3⟩:=List.getElem?_eq_some_iff.1 hs
        rw[List.take_succ_eq_append_getElem h2,h3])
      have HSM:=Lib.hid (List.mem_of_getElem? hs)
      clear hs
      obtain⟨o,ho⟩:∃ o,o=(!(Gr.find M s).isSome):=⟨_,rfl⟩
      have HC:=Lib.hid (show Calls Tryz.prog 48 #[.agg (blist s).toArray,.pointer (some ⟨gb,0,none⟩)] wr fun e w'=>e=.returned (.bool o)∧Below wr.heap.size wr w' from ho▸gmiss_any (H0.out.below hb) gb (HG.out.under hb HG.out.lt) s HSL.out)
      have HV:=Lib.hid ho
      clear ho
      cases o
      · have HB2:=Lib.hid (show ∀ s,s∈L.take (i+1)→¬ ((!(Gr.find M s).isSome)=true) from fun u hu=>by
          rw[HT.out] at hu
          rcases List.mem_append.1 hu with hu | hu
          · exact HB.out u hu
          · rw[List.mem_singleton.1 hu,← HV.out]
            exact Bool.false_ne_true)
        go_wp2_with (first
          | (go_at_call 48;refine HC.out.mono ?_;rintro e w2 ⟨rfl,hb2⟩;have hbn:=hb.trans (hb2.mono hb.size))
          | (refine wpList_load_run rfl 46 (.tmp 14) rfl _ _ rfl hy ?_))
        go_roundw
        case rel=>exact⟨i+1,by omega,by go_num,HB2,hbn⟩
        case measure=>(simp[intOf];try omega)
      · have HT2:=Lib.hid (HR.out.2 ⟨s,HSM.out,HV.out.symm⟩)
        go_wp2_with (first
          | (go_at_call 48;refine HC.out.mono ?_;rintro e w2 ⟨rfl,hb2⟩;have hbn:=hb.trans (hb2.mono hb.size))
          | (refine wpList_load_run rfl 46 (.tmp 14) rfl _ _ rfl hy ?_))
        go_ret
        exact⟨⟨_,rfl,fun _=>HT2.out,fun _=>by omega⟩,hbn⟩
    · have HF:=Lib.hid (show ¬ r=true from fun hr=>by
        obtain⟨s,hm,hp⟩:=HR.out.1 hr
        exact HB.out s (by rw[List.take_of_length_le (by rw[HL.out];omega)];exact hm) hp)
      have hii:¬ (i:Int)<(n:Int):=by omega
      go_wp2
      go_ret
      exact⟨⟨_,rfl,fun h=>by omega,fun h=>(HF.out h).elim⟩,hb⟩
set_option maxRecDepth 100000 in
set_option maxHeartbeats 8000000 in
theorem gcont_any {w:World} {g bn bs:Nat} {M:List Gr.Nd} {nx:Nat} (h0:Gr.At w g bn bs M nx) (gb:Nat) (hg:Has w gb 25 #[.pointer (some ⟨g,0,none⟩)]) (a:Option Addr) (n q:Nat) (L:List (List (BitVec 8))) (h:Recs Gr.hsRec w a n L) :
    Calls Tryz.prog 49 #[.slice a n q,.func (.func 48) #[] #[.pointer (some ⟨gb,0,none⟩)]] w fun e w'=>e=.returned (.bool (L.any fun id=>!(Gr.find M id).isSome))∧Below w.heap.size w w':=by
  obtain⟨r,hr⟩:∃ r,r=L.any fun id=>!(Gr.find M id).isSome:=⟨_,rfl⟩
  rw[← hr]
  have HC:=Lib.hid (gidx_any h0 gb hg a n q L h r hr)
  clear hr h0 hg h
  go_enter Tryz.func49,Tryz.ntmps49
  go_wp2_with (go_at_call 82;refine HC.out.mono ?_;rintro e w1 ⟨⟨z,rfl,hz⟩,hb⟩;have HZ:=Lib.hid hz;clear hz)
  go_ret
  refine⟨?_,hb⟩
  have h1:decide (0≤z)=r:=by
    rw[Bool.eq_iff_iff,decide_eq_true_iff,HZ.out]
  exact congrArg (fun b=>Ending.returned (.bool b)) h1
set_option maxRecDepth 100000 in
set_option maxHeartbeats 8000000 in
theorem gRate_any {w:World} {g bn bs:Nat} {M:List Gr.Nd} {nx:Nat} (h:Gr.At w g bn bs M nx) (hk:∀ x,x∈M→Am.Good x.fee∧x.wt=Tx.weight x.x.t) (a:Option Addr) (n q:Nat) (I:List (List (BitVec 8))) (hI:Recs Gr.hsRec w a n I) (hn:n≤1000) :
    Calls Tryz.prog 13 #[.pointer (some ⟨g,0,none⟩),.slice a n q] w fun e w'=>e=.returned (.tuple #[.agg #[.int .i64 (Gr.grateV M I).1,.int .i64 (Gr.grateV M I).2.1],errn (Gr.grateV M I).2.2])∧Below w.heap.size w w':=by
  obtain⟨W1,hW1⟩:∃ ww,ww=(w.alloc (.cells #[.pointer (some ⟨g,0,none⟩)] 25)).alloc (.cells #[.int .i64 0,.int .i64 0] 37):=⟨_,rfl⟩
  have hB1:Below w.heap.size w W1:=by rw[hW1];exact((Below.refl _ _).alloc (Nat.le_refl _) _).alloc (by simp) _
  have hP1:Has W1 w.heap.size 25 #[.pointer (some ⟨g,0,none⟩)]:=by rw[hW1];exact(Has.fresh _ _ _).past _
  have hR1:Has W1 (w.heap.size+1) 37 #[.int .i64 0,.int .i64 0]:=by rw[hW1];exact Has.fresh_at _ _ _ (by simp)
  have hnmx:n≤9223372036854775807:=by omega
  have hbd:=fun(w:World)=>run_build (P:=Tryz.prog) w 37 #[] #[.int .i64 0,.int .i64 0] (by kernel_rfl)
  obtain⟨Z,hZ⟩:∃ z,z=Gr.grateV M I:=⟨_,rfl⟩
  rw[← hZ]
  have HZZ:=Lib.hid hZ
  have HH:=Lib.hid (h.below hB1)
  have HI:=Lib.hid (hI.below hB1)
  have HK:=Lib.hid hk
  have HN:=Lib.hid hn
  have HW:=Lib.hid hW1
  have HB1:=Lib.hid hB1
  have HP1:=Lib.hid hP1
  have HR1:=Lib.hid hR1
  have HC:=Lib.hid (gcont_any (h.below hB1) w.heap.size hP1 a n q I (hI.below hB1))
  obtain⟨R,hR⟩:∃ r,r=I.any fun id=>!(Gr.find M id).isSome:=⟨_,rfl⟩
  rw[← hR] at HC
  have HRR:=Lib.hid hR
  clear hW1 hB1 hP1 hR1 h hI hk hn hZ hR
  go_enter Tryz.func13,Tryz.ntmps13
  go_upto_region 1 with fail
  rw[← HW.out]
  by_cases hm0:n=0
  · have HZ:=Lib.hid (show Z=(0,0,4) by
      have e:I=[]:=List.length_eq_zero_iff.1 (HI.out.1.trans hm0)
      rw[HZZ.out,e]
      rfl)
    subst hm0
    have hRr:=HR1.out
    go_wp2_with (refine wpList_store_mid rfl 37 (.tmp 4) (.tmp 22) rfl (w.heap.size+1) 0 #[.int .i64 0,.int .i64 0] rfl rfl (hRr.there 0 2 (Nat.le_refl _)) (by kernel_rfl) (by kernel_rfl) ?_)
    have hE:=hRr.whole_cs (cs2:=#[.int .i64 0,.int .i64 0]) rfl
    exact bodyPost_ret (results_cellslot rfl _ _ (w.heap.size+1) rfl _ _ (hE.load_var Tryz.underlying37 rfl (by kernel_rfl)) rfl) rfl ⟨by rw[HZ.out];rfl,below_setAll (by omega) _ 0 HB1.out⟩
  · have hmb:((n:Int)==(0:Int))=false:=beq_eq_false_iff_ne.2 (by omega)
    have HNE:=Lib.hid (show I≠[] from fun e=>hm0 (by rw[← HI.out.1,e];rfl))
    cases R
    · have HZV:=Lib.hid (show Z=Gr.rateV false ((Gr.gsel M I).map (·.fee)) ((Gr.gsel M I).map (·.wt)) by
        rw[HZZ.out,Gr.grateV,Gr.gbad_any M HNE.out,← HRR.out])
      go_upto_region 6 with(go_at_call 49;refine HC.out.mono ?_;rintro e w2 ⟨rfl,hb2⟩;have c2:=(HP1.out.under hb2 HP1.out.lt).cell_at (i:=0) (v:=.pointer (some ⟨g,0,none⟩)) rfl)
      have HA2:=Lib.hid (HH.out.below hb2)
      have HB2:=Lib.hid (HB1.out.trans (hb2.mono HB1.out.size))
      have HS:=Lib.hid (gsome_any HA2.out.has HA2.out.grp a n q I (HI.out.below hb2) (by have:=HN.out;omega) HA2.out.grp.inj)
      have H12:=Lib.hid hb2
      clear hb2
      go_wp2_with (first
        | (at_range;refine wpList_range_g (D:=Gr.dH) rfl (.tmp 26) rfl rfl HG3.out.map ?_;intro w4 hr4 hb4)
        | (go_at_call 50;refine HS.out.mono ?_;rintro e w3 ⟨b3,K3,rfl,hlb3,hg3,hz3,hn3,hb3⟩;have HG3:=Lib.hid hg3;have HZ3:=Lib.hid hz3;have HN3:=Lib.hid hn3;have HB3:=Lib.hid hb3;clear hg3 hz3 hn3 hb3 hlb3))
      have hlt4:=hr4.lt.2
      obtain⟨r,hr⟩:∃ r,r=w3.heap.size:=⟨_,rfl⟩
      have HRG:=Lib.hid hr
      rw[← hr] at hr4 hlt4 ⊢
      have hO1:RowKit.Hid (OwnR Gr.intR 3 w4.heap.size w4 (.slice none 0 0) []):=Lib.hid (OwnR.nil _ _ _ _)
      have H4:=Lib.hid (And.intro hr4 hb4)
      have HNG:=Lib.hid (show ∀ x,x∈K3→Gr.NdAt w3 x from HG3.out.nd)
      have HPM:=Lib.hid (Gr.sel_perm HA2.out HG3.out HZ3.out)
      have HKK:=Lib.hid (show ∀ x,x∈K3→Am.Good x.fee∧0≤x.wt∧x.wt≤800000 from fun x hx=>by
        obtain⟨h1,h2⟩:=HK.out x ((HZ3.out x).1 hx).1
        have h3:=HG3.out.nd x hx
        have h4:=Gr.wt_bound h3.at h3.sm
        rw[← h2] at h4
        exact⟨h1,h4⟩)
      have HLK:=Lib.hid (show K3.length≤1000 by have:=HN3.out;have:=HN.out;omega)
      clear hr hr4 c2
      simp only[Act.put,List.setIfInBounds_toArray,ts0,ts1]
      go_loopg [7,8] K3.length (fun k sv wv wr=>∃ (ov:Value) (Q R:List Gr.Nd),k=R.length∧ov=sv∧wv=.int .i64 ((Q.map (·.wt)).sum)∧RowKit.Hid ((Q++R).Perm K3)∧RowKit.Hid (RangeG Gr.dH wr b3 r (Gr.ents K3) (Gr.ents R))∧RowKit.Hid (OwnR Gr.intR 3 w4.heap.size wr ov (Q.map (·.fee)))∧Below w3.heap.size w3 wr∧w4.heap.size≤wr.heap.size)
      case atStart=>exact⟨_,[],K3,rfl,rfl,rfl,Lib.hid (List.Perm.refl _),Lib.hid H4.out.1,hO1,H4.out.2,Nat.le_refl _⟩
      case round=>
        obtain⟨ov,Q,R,hk,rfl,rfl,HP,HRR2,HO,hb,hs⟩:=hrel
        obtain⟨V,hV⟩:∃ v,v=(Q.map (·.wt)).sum:=⟨_,rfl⟩
        rw[← hV]
        have HV:=Lib.hid hV
        clear hV
        rcases R with _ | ⟨y0,R0⟩
        · have hrg:=HRR2.out
          have HB:=Lib.hid hb
          have HPQ:=Lib.hid (show Q.Perm (Gr.gsel M I) by have:=HP.out;rw[List.append_nil] at this;exact this.trans HPM.out)
          have HFS:=Lib.hid (show(Q.map (·.fee)).sum=((Gr.gsel M I).map (·.fee)).sum∧V=((Gr.gsel M I).map (·.wt)).sum from⟨Gr.perm_sum (HPQ.out.map _),by rw[HV.out];exact Gr.perm_sum (HPQ.out.map _)⟩)
          have HQG:=Lib.hid (show ∀ z,z∈Q.map (·.fee)→Am.Good z from fun z hz=>by
            obtain⟨x,hx,rfl⟩:=List.mem_map.1 hz
            exact(HKK.out x (by have:=HP.out;rw[List.append_nil] at this;exact this.subset hx)).1)
          obtain⟨fl,hfl⟩:∃ k,k=(Q.map (·.fee)).length:=⟨_,rfl⟩
          have HFL:=Lib.hid hfl
          clear hfl
          obtain⟨fa,fc,rfl,_,_,_,hfr⟩:=HO.out.shape HFL.out.symm
          have HTO:=Lib.hid (fun w' (hb':Below wr.heap.size wr w')=>ptotal_any fa fl fc (Q.map (·.fee)) w' (Gr.int_nums (hfr.below hb')))
          have HTT:=Lib.hid (Gr.tot_good (Q.map (·.fee)) 0 HQG.out (by constructor<;>decide))
          obtain⟨F,hF⟩:∃ f,f=(Q.map (·.fee)).sum:=⟨_,rfl⟩
          rw[← hF,Int.zero_add] at HTT
          have HF:=Lib.hid (show F=((Gr.gsel M I).map (·.fee)).sum by rw[hF];exact HFS.out.1)
          have hRr:=HR1.out.under (H12.out.trans ((HB3.out.trans (hb.mono HB3.out.size)).mono H12.out.size)) HR1.out.lt
          have hTT:=HB2.out.trans ((HB3.out.trans (hb.mono HB3.out.size)).mono HB2.out.size)
          have hsz1:=HB1.out.size
          clear hk HP HRR2 hb hs hF HO hfr
          by_cases hgd:Am.Good F
          · have HZ:=Lib.hid (show Z=(F,V,0) by rw[HZV.out,Gr.rateV,if_neg (by decide),if_pos (by rw[← HF.out];exact hgd),← HF.out,← HFS.out.2])
            rw[if_pos hgd] at HTT
            clear hgd
            have hbd2:=fun(w:World)=>run_build (P:=Tryz.prog) w 37 #[(0,.int .i64 F),(1,.int .i64 V)] #[.int .i64 F,.int .i64 V] (by kernel_rfl)
            go_wp2_with (first
              | (refine wpList_store_mid rfl 37 (.tmp 4) (.tmp 56) rfl (w.heap.size+1) 0 #[.int .i64 F,.int .i64 V] rfl rfl (hRr.there 0 2 (Nat.le_refl _)) (by kernel_rfl) (Gr.all2 F V) ?_)
              | (go_at_call 51;refine(HTO.out wr (Below.refl _ _)).mono ?_;rw[HTT.out];rintro e w5 ⟨rfl,rfl⟩;rw[show errn 0=Value.nilIface from rfl])
              | (at_next;refine wpList_next_nd rfl (.tmp 27) rfl rfl hrg (fun _=>?_) (fun R1 R2 y w' e=>absurd e (by simp))))
            have hE:=hRr.whole_cs (cs2:=#[.int .i64 F,.int .i64 V]) rfl
            exact bodyPost_ret (results_cellslot rfl _ _ (w.heap.size+1) rfl _ _ (hE.load_var Tryz.underlying37 rfl (by kernel_rfl)) rfl) rfl ⟨by rw[HZ.out];rfl,below_setAll (by omega) _ 0 hTT⟩
          · have HZ:=Lib.hid (show Z=(0,0,9) by rw[HZV.out,Gr.rateV,if_neg (by decide),if_neg (by rw[← HF.out];exact hgd)])
            rw[if_neg hgd] at HTT
            clear hgd
            go_wp2_with (first
              | (refine wpList_store_mid rfl 37 (.tmp 4) (.tmp 52) rfl (w.heap.size+1) 0 #[.int .i64 0,.int .i64 0] rfl rfl (hRr.there 0 2 (Nat.le_refl _)) (by kernel_rfl) (by kernel_rfl) ?_)
              | (go_at_call 51;refine(HTO.out wr (Below.refl _ _)).mono ?_;rw[HTT.out];rintro e w5 ⟨rfl,rfl⟩;rw[show errn 9=erro 9 from rfl])
              | (at_next;refine wpList_next_nd rfl (.tmp 27) rfl rfl hrg (fun _=>?_) (fun R1 R2 y w' e=>absurd e (by simp))))
            have hE:=hRr.whole_cs (cs2:=#[.int .i64 0,.int .i64 0]) rfl
            exact bodyPost_ret (results_cellslot rfl _ _ (w.heap.size+1) rfl _ _ (hE.load_var Tryz.underlying37 rfl (by kernel_rfl)) rfl) rfl ⟨by rw[HZ.out];rfl,below_setAll (by omega) _ 0 hTT⟩
        · have hrg:=HRR2.out
          have hwr:w3.heap.size≤wr.heap.size:=hb.size
          have HB:=Lib.hid hb
          have HS2:=Lib.hid hs
          have HLN:=Lib.hid (show Q.length+(y0 :: R0).length≤1000 by have:=HP.out.length_eq;rw[List.length_append] at this;have:=HLK.out;omega)
          have HGK:=Lib.hid hk
          have hVb:0≤V∧V≤800000*1000:=by
            rw[HV.out]
            refine Gr.sum_le (N:=1000) (by decide) (fun z hz=>?_) ?_
            · obtain⟨u,hu,rfl⟩:=List.mem_map.1 hz
              exact(HKK.out u (HP.out.subset (List.mem_append.2 (.inl hu)))).2
            · rw[List.length_map];have:=HLN.out;omega
          have HSB:=Lib.hid (show ∀ y,y∈K3→0≤y.wt∧y.wt≤800000 from fun y hy=>(HKK.out y hy).2)
          have HYR:=Lib.hid (show ∀ y,y∈y0 :: R0→y∈K3 from fun y hy=>HP.out.subset (List.mem_append.2 (.inr hy)))
          have HNR:=Lib.hid (show ∀ y,y∈K3→Gr.NdAt wr y from fun y hy=>(HNG.out y hy).below HB.out)
          have HFR:=Lib.hid (show ∀ y,y∈K3→∀ j,y.F j→j<w3.heap.size from fun y hy j hj=>(HNG.out y hy).lt hj)
          have h34:w3.heap.size≤w4.heap.size:=H4.out.2.size
          clear hk HRR2 hb hs hO1
          go_wp2_with (first
            | (at_builtin;refine wpList_append_recs (R:=Gr.intR) rfl (.tmp 32) (.tmp 37) 102 rfl 3 Tryz.underlying102 Gr.info_int rfl (by decide) w4.heap.size ov _ rfl (hO2.below ((Below.refl _ _).alloc (Nat.le_refl _) _)) (some ⟨w5.heap.size,0,none⟩) 1 1 [y.fee] rfl (Gr.int_fresh y.fee) (fun e=>by cases e) (by have:=HLN.out;rw[List.length_map];omega) (by have:=HS5.out;simp;omega) ?_;intro v' w6 ho6 hg6 hl6;have hb6:Below w4.heap.size w5 w6:=((Below.refl w4.heap.size w5).alloc HS5.out _).grown hg6 (by have:=HS5.out;simp;omega) hO2.lt;have cW6:=(HN5.out.moved (moved_below hb6) (fun j hj e=>by have:=HFR.out y HYK.out j hj;omega)).wt;have HB6:=Lib.hid hb6;have hyb:=HSB.out y HYK.out;clear hb6)
            | (refine wpList_entry_g rfl (.tmp 27) rfl rfl he5 ?_)
            | (at_next;refine wpList_next_nd rfl (.tmp 27) rfl rfl hrg (fun e=>absurd e (by simp)) ?_;intro R1 R2 y w5 hR5 hr5 hm5 he5;have hO2:=HO.out.moved hm5 (fun k hk e=>by have:=HO.out.lt k hk;omega);have HS5:=Lib.hid (show w4.heap.size≤w5.heap.size by have:=hm5.size;have:=HS2.out;omega);have HYK:=Lib.hid (HYR.out y (by rw[hR5];simp));have HN5:=Lib.hid ((HNR.out y HYK.out).moved hm5 (fun j hj e=>by have:=HFR.out y HYK.out j hj;have:=HRG.out;omega));have cF5:=HN5.out.fee;have HR5:=Lib.hid hR5;have HM5:=Lib.hid (And.intro hr5 hm5);clear hR5 hr5 hm5))
          have hblt:b3<w4.heap.size:=H4.out.1.lt.1
          have hR6:RangeG Gr.dH w6 b3 r (Gr.ents K3) (Gr.ents (R1++R2)):=HM5.out.1.moved (F:=fun k=>w4.heap.size≤k) (moved_below HB6.out) (by omega) (by omega)
          have hb36:Below w3.heap.size w3 w6:=(HB.out.trans (HM5.out.2.below (fun k hk=>by have:=HRG.out;omega) hwr)).trans (HB6.out.mono h34)
          have hp6:((Q++[y])++(R1++R2)).Perm K3:=by
            refine List.Perm.trans ?_ HP.out
            rw[HR5.out,List.append_assoc]
            show(Q++(y :: (R1++R2))).Perm _
            exact List.Perm.append_left Q List.perm_middle.symm
          have hlen:(R1++R2).length<gk:=by rw[HGK.out,HR5.out];simp
          have h46:w4.heap.size≤w6.heap.size:=by have:=HB6.out.size;have:=HS5.out;omega
          have HO6:=Lib.hid (show OwnR Gr.intR 3 w4.heap.size w6 v' ((Q++[y]).map (·.fee)) by rw[List.map_append];exact ho6)
          have HSU:=Lib.hid (show((Q++[y]).map (·.wt)).sum=V+y.wt by rw[List.map_append,HV.out,List.sum_append];simp)
          clear hO2 hg6 hl6 he5 hrg ho6 cF5 cW6
          go_roundg (R1++R2).length
          case measure=>exact hlen
          case rel=>exact⟨v',Q++[y],R1++R2,rfl,rfl,by rw[HSU.out],Lib.hid hp6,Lib.hid hR6,HO6,hb36,h46⟩
    · have HZ:=Lib.hid (show Z=(0,0,4) by
        rw[HZZ.out,Gr.grateV,Gr.gbad_any M HNE.out,← HRR.out]
        rfl)
      have hRr:=HR1.out
      go_wp2_with (first
        | (refine wpList_store_mid rfl 37 (.tmp 4) (.tmp 22) rfl (w.heap.size+1) 0 #[.int .i64 0,.int .i64 0] rfl rfl (hRr2.there 0 2 (Nat.le_refl _)) (by kernel_rfl) (by kernel_rfl) ?_)
        | (go_at_call 49;refine HC.out.mono ?_;rintro e w2 ⟨rfl,hb2⟩;have hRr2:=hRr.under hb2 hRr.lt))
      have hE:=hRr2.whole_cs (cs2:=#[.int .i64 0,.int .i64 0]) rfl
      exact bodyPost_ret (results_cellslot rfl _ _ (w.heap.size+1) rfl _ _ (hE.load_var Tryz.underlying37 rfl (by kernel_rfl)) rfl) rfl ⟨by rw[HZ.out];rfl,below_setAll (by omega) _ 0 (HB1.out.trans (hb2.mono HB1.out.size))⟩
end Go.Proofs.YtijemcfnlbapjaaGreatDoor
namespace Go.Proofs.YtijemcfnlbapjaaGreatDoor
open Go Go.RowKit Go.ChangeShapes Go.WideShapes
set_option maxRecDepth 100000 in
set_option maxHeartbeats 8000000 in
theorem Gr.hashes_same (a:Option Addr) (n q:Nat) (b:Option Addr) (m r:Nat) (I:List (List (BitVec 8))) (w:World) (h:Recs Gr.hsRec w a n I) (k:Recs Gr.hsRec w b m I) :
    Calls Tryz.prog 18 #[.slice a n q,.slice b m r] w fun e w'=>e=.returned (.bool true)∧Below w.heap.size w w':=by
  have hl:n=m:=by have h1:=h.1;have h2:=k.1;omega
  subst hl
  have HH:=Lib.hid h
  have HK:=Lib.hid k
  have hnmx:n≤9223372036854775807:=h.2.1
  clear h k
  go_enter Tryz.func18,Tryz.ntmps18
  go_wp2
  go_loopw [13] (fun iv wr=>∃ (i:Nat),i≤n∧iv=.int .i64 i∧Below w.heap.size w wr) (fun iv _=>n-(intOf iv).toNat)
  case atStart=>exact⟨0,Nat.zero_le _,rfl,Below.refl _ _⟩
  case round=>
    obtain⟨i,hi,rfl,hb⟩:=hrel
    by_cases hlt:i<n
    · have hii:(i:Int)<(n:Int):=by omega
      have hi0:(0:Int)≤(i:Int):=by omega
      obtain⟨v,hv⟩:=HH.out.get hlt
      obtain⟨x,rfl,_⟩:=HH.out.2.2.2 i v hv
      obtain⟨y,rfl,_⟩:=HK.out.2.2.2 i v hv
      have HVL:=Lib.hid (show v.length=32 from HH.out.okay hv)
      have HV:=Lib.hid hv
      go_upto_region 6 with fail
      obtain⟨ws,hws⟩:∃ ww,ww=wr.drew:=⟨_,rfl⟩
      have hBs:Below w.heap.size w ws:=by rw[hws];exact hb.drew
      have lV:=fun(wq:World) (hSw:Held ws wq)=>(show(Instr.loadAt 46 (.pointer (some (x.add (i*32))))).run Tryz.prog wq=.ok (.agg (blist v).toArray) wq from((HH.out.below hBs).below hSw.below).load_at (P:=Tryz.prog) Tryz.underlying46 rfl Gr.size_hsr HV.out)
      have lU:=fun(wq:World) (hSw:Held ws wq)=>(show(Instr.loadAt 46 (.pointer (some (y.add (i*32))))).run Tryz.prog wq=.ok (.agg (blist v).toArray) wq from((HK.out.below hBs).below hSw.below).load_at (P:=Tryz.prog) Tryz.underlying46 rfl Gr.size_hsr HV.out)
      clear hb hv
      refine wp_region_held_drew (S:=Held ws) (by kernel_rfl) (by rw[hws];exact Held.refl _) (fun hHeld=>?_)
      rw[← hws] at hHeld ⊢
      clear hws
      refine tka (v:=?_) 0 16 rfl rfl hHeld (Or.inl ⟨by rfl,?_⟩) rfl ?_
      rotate_left
      · intro wq hSw
        go_simp
        try with_reducible rfl
      simp only[ts0,ts1]
      refine tka (v:=?_) 1 17 rfl rfl hHeld (Or.inl ⟨by rfl,?_⟩) rfl ?_
      rotate_left
      · intro wq hSw
        go_simp
        try with_reducible rfl
      simp only[ts0,ts1]
      refine tka (v:=?_) 2 18 rfl rfl hHeld (Or.inl ⟨by rfl,?_⟩) rfl ?_
      rotate_left
      · intro wq hSw
        go_simp
        try with_reducible rfl
      simp only[ts0,ts1]
      refine tka 3 19 rfl rfl hHeld (yieldsIf_load_agg (by rfl) 46 (.tmp 18) rfl _ _ (by rfl) (fun wq hSw=>lV wq hSw)) rfl ?_
      simp only[ts0,ts1]
      refine tka (v:=?_) 4 20 rfl rfl hHeld (Or.inl ⟨by rfl,?_⟩) rfl ?_
      rotate_left
      · intro wq hSw
        go_simp
        try with_reducible rfl
      simp only[ts0,ts1]
      refine tka (v:=?_) 5 21 rfl rfl hHeld (Or.inl ⟨by rfl,?_⟩) rfl ?_
      rotate_left
      · intro wq hSw
        go_simp
        try with_reducible rfl
      simp only[ts0,ts1]
      refine tka (v:=?_) 6 22 rfl rfl hHeld (Or.inl ⟨by rfl,?_⟩) rfl ?_
      rotate_left
      · intro wq hSw
        go_simp
        try with_reducible rfl
      simp only[ts0,ts1]
      refine tka 7 23 rfl rfl hHeld (yieldsIf_load_agg (by rfl) 46 (.tmp 22) rfl _ _ (by rfl) (fun wq hSw=>lU wq hSw)) rfl ?_
      simp only[ts0,ts1]
      refine tka 8 24 rfl rfl hHeld (yieldsIf_neq_same (by rfl) 46 5 46 32 (.tmp 19) (.tmp 23) rfl v (by rfl) (by rfl) (by kernel_rfl) Tryz.underlying46 Tryz.underlying5 (by kernel_rfl) HVL.out) rfl ?_
      simp only[ts0,ts1]
      refine wpAnyH_done (by kernel_rfl) ?_ _
      clear lV lU hHeld
      go_wp2
      go_roundw
      case rel=>exact⟨i+1,by omega,by go_num,hBs⟩
      case measure=>(simp[intOf];try omega)
    · have hii:¬ (i:Int)<(n:Int):=by omega
      go_wp2
      go_ret
      exact⟨rfl,hb⟩
end Go.Proofs.YtijemcfnlbapjaaGreatDoor
namespace Go.Proofs.YtijemcfnlbapjaaGreatDoor
open Go Go.RowKit Go.ChangeShapes Go.WideShapes
namespace Gr
abbrev zRn:Array Value:=#[.slice none 0 0,.slice none 0 0,.bool false,.int .u8 0,.int .u8 0,.int .u8 0,.int .u8 0,.int .u8 0,.int .u8 0,.int .u8 0,.int .u8 0,.int .u8 0,.int .u8 0,.int .u8 0,.int .u8 0,.int .u8 0,.int .u8 0,.int .u8 0,.int .u8 0,.int .u8 0,.int .u8 0,.int .u8 0,.int .u8 0,.int .u8 0,.int .u8 0,.int .u8 0,.int .u8 0,.int .u8 0,.int .u8 0,.int .u8 0,.int .u8 0,.int .u8 0,.int .u8 0,.int .u8 0,.int .u8 0,.int .i64 0]
theorem size_rn:(Tryz.prog.info? 50).map (·.size)=some rnRec.k:=by kernel_rfl
end Gr
namespace Gr
section
variable {W w w':World} {g bn bs:Nat} {M:List Nd} {nx:Nat} {xa:Option Addr} {xn xq:Nat} {L:List Rn}
theorem Pl.nodup (h:Pl W w g bn bs M nx xa xn xq L):(L.map (·.id)).Nodup:=by
  rw[← h.sim.ids]
  obtain⟨es,clock,_,_,hn,_⟩:=h.ga.grp.map
  rw[ents,List.map_map] at hn
  exact hn
theorem Pl.twin (h:Pl W w g bn bs M nx xa xn xq L) {y:Rn} (hy:y∈L):∃ x,x∈M∧x.key=y.key:=by
  have h1:y.key∈M.map Nd.key:=by rw[show M.map Nd.key=L.map Rn.key from h.sim];exact List.mem_map.2 ⟨y,hy,rfl⟩
  obtain⟨x,hx,e⟩:=List.mem_map.1 h1
  exact⟨x,hx,e⟩
theorem Pl.good (h:Pl W w g bn bs M nx xa xn xq L) (hb:Below W.heap.size W w):∀ y,y∈L→y.v.At w∧Tx.Small y.v.t∧Am.Good y.fee:=fun y hy=>by
  obtain⟨x,hx,e⟩:=h.twin hy
  have e1:x.x.t=y.v.t:=congrArg (fun k:Key=>k.1) e
  have e2:x.fee=y.fee:=congrArg (fun k:Key=>k.2.2) e
  exact⟨TxAt.below (h.va y hy) hb,e1▸(h.ga.grp.nd x hx).sm,e2▸(h.ok x hx).1⟩
end
def IdsV (v:Value) (I:List (List (BitVec 8))) (w:World):Prop:=∃ (a:Option Addr) (n q:Nat),v=.slice a n q∧Recs hsRec w a n I
theorem IdsV.keep {I:List (List (BitVec 8))} : ∀ v w1 w2,IdsV v I w1→Below w1.heap.size w1 w2→IdsV v I w2:=fun _ _ _ ⟨a,n,q,e,h⟩ hb=>⟨a,n,q,e,h.below hb⟩
theorem IdsV.of {B:Nat} {v:Value} {I:List (List (BitVec 8))} {w:World} (h:OwnR hsRec 46 B w v I):IdsV v I w:=by
  obtain⟨a,c,e,_,_,_,hr⟩:=h.shape rfl
  exact⟨a,_,c,e,hr⟩
theorem rall_ex (up:Bool) (L:List Rn) (I:List (List (BitVec 8))):∃ l:List (List (BitVec 8)),(∀ K:List (List (BitVec 8)),(∀ id,id∈K↔RReach up L I id)→(L.filter fun x=>decide (x.id∈K)).map (·.id)=l)∧∃ K:List (List (BitVec 8)),∀ id,id∈K↔RReach up L I id:=by
  classical
  refine⟨(L.filter fun x=>decide (RReach up L I x.id)).map (·.id),fun K hK=>?_,(L.filter fun x=>decide (RReach up L I x.id)).map (·.id),fun id=>⟨fun h=>?_,fun h=>?_⟩⟩
  · congr 1
    exact List.filter_congr fun x _=>decide_eq_decide.2 (hK x.id)
  · obtain⟨x,hx,rfl⟩:=List.mem_map.1 h
    exact of_decide_eq_true (List.mem_filter.1 hx).2
  · obtain⟨x,hx,rfl⟩:=List.mem_map.1 h.mem
    exact List.mem_map.2 ⟨x,List.mem_filter.2 ⟨hx,decide_eq_true h⟩,rfl⟩
theorem neq_self (E:List (BitVec 8)):(!decide (E=E))=false:=by rw[decide_eq_true (rfl:E=E)];rfl
theorem rn_tx_at {w:World} {g:Nat} {x:Rn} (h:Has w g 50 (rnCells x).toArray):(Instr.loadAt 34 (.pointer (some ⟨g,0,none⟩))).run Tryz.prog w=.ok (txv x.v.a x.v.n x.v.q x.v.b x.v.m x.v.r x.v.t.firm) w:=
  Gr.load_mid h 0 (vCells x.v) (fun j v hj=>by
    rw[Nat.zero_add,List.getElem?_toArray]
    exact rn_tx j v hj) Tryz.underlying34 rfl (by kernel_rfl)
end Gr
end Go.Proofs.YtijemcfnlbapjaaGreatDoor
namespace Go.Proofs.YtijemcfnlbapjaaGreatDoor
open Go Go.RowKit Go.ChangeShapes Go.WideShapes
namespace Gr
def StepOf (P:Program) (ops:Array Oper) (Q:Exit→Act→World→Prop) (o:Oper) (p:Value→World→Prop) (a:Act) (w:World):Prop:=
  ∀ K:Act→World→Prop,(∀ v w',p v w'→Below w.heap.size w w'→K (a.put o.dst v) w')→if Region.wanted o (yielded ops a.tmps)=true then Oper.wp P o a w K Q else K (a.put o.dst undef) w
end Gr
end Go.Proofs.YtijemcfnlbapjaaGreatDoor
namespace Go.Proofs.YtijemcfnlbapjaaGreatDoor
open Go Go.RowKit Go.ChangeShapes Go.WideShapes
namespace Gr
theorem wpAnyH_three {P:Program} {ops:Array Oper} {Q:Exit→Act→World→Prop} {md:Region.Mode} {S:World→Prop} {fuel:Nat} {listed:Array Bool} {l:List Value} {ds:List _} {w:World} (i j k di dj dk:Nat) {oi oj ok:Oper} (hi:ops[i]? = some oi) (hj:ops[j]? = some oj) (hk:ops[k]? = some ok)
    (hdi:oi.dst=some di) (hdj:oj.dst=some dj) (hdk:ok.dst=some dk) (hij:di≠dj) (hjk:dj≠dk) (nij:i≠j) (njk:j≠k)
    (hr:Region.ready md ops listed=[i,j]) (hri:Region.ready md ops (listed.setIfInBounds i true)=[k,j]) (hrj:Region.ready md ops (listed.setIfInBounds j true)=[i])
    (hrik:Region.ready md ops ((listed.setIfInBounds i true).setIfInBounds k true)=[j]) (hrij:Region.ready md ops ((listed.setIfInBounds i true).setIfInBounds j true)=[k])
    (p q s:Value→World→Prop) (hp:∀ v w1 w2,p v w1→Below w1.heap.size w1 w2→p v w2) (hq:∀ v w1 w2,q v w1→Below w1.heap.size w1 w2→q v w2) (hs:∀ v w1 w2,s v w1→Below w1.heap.size w1 w2→s v w2)
    (hS:∀ w',Below w.heap.size w w'→S w')
    (si:StepOf P ops Q oi p ⟨l.toArray,ds⟩ w) (si2:∀ v w',Below w.heap.size w w'→StepOf P ops Q oi p ⟨(l.set dj v).toArray,ds⟩ w')
    (sj:StepOf P ops Q oj q ⟨l.toArray,ds⟩ w) (sj2:∀ u w',Below w.heap.size w w'→StepOf P ops Q oj q ⟨(l.set di u).toArray,ds⟩ w') (sj3:∀ u x w',Below w.heap.size w w'→StepOf P ops Q oj q ⟨((l.set di u).set dk x).toArray,ds⟩ w')
    (sk:∀ u w',p u w'→Below w.heap.size w w'→StepOf P ops Q ok s ⟨(l.set di u).toArray,ds⟩ w') (sk2:∀ u v w',p u w'→Below w.heap.size w w'→StepOf P ops Q ok s ⟨((l.set di u).set dj v).toArray,ds⟩ w')
    (h:∀ u v x w',p u w'→q v w'→s x w'→Below w.heap.size w w'→wpAnyH P md ops Q S fuel (((listed.setIfInBounds i true).setIfInBounds j true).setIfInBounds k true) ⟨(((l.set di u).set dj v).set dk x).toArray,ds⟩ w') :
    wpAnyH P md ops Q S (fuel+3) listed ⟨l.toArray,ds⟩ w:=by
  have last:∀ u v w',p u w'→q v w'→Below w.heap.size w w'→wpAnyH P md ops Q S (fuel+1) ((listed.setIfInBounds i true).setIfInBounds j true) ⟨((l.set di u).set dj v).toArray,ds⟩ w':=fun u v w1 hu hv hb1=>by
    refine wpAnyH_ready hrij (by simp) (AllReadyH.cons hk (fun K hK=>?_) AllReadyH.nil)
    refine sk2 u v w1 hu hb1 K fun x w2 hx hb2=>?_
    rw[hdk,put_dst rfl]
    have hb:=hb1.trans (hb2.mono hb1.size)
    exact hK.out _ _ (hS w2 hb) (fun _=>h u v x w2 (hp u w1 w2 hu hb2) (hq v w1 w2 hv hb2) hx hb)
  refine wpAnyH_ready hr (by simp) (AllReadyH.cons hi (fun K hK=>?_) (AllReadyH.cons hj (fun K hK=>?_) AllReadyH.nil))
  · refine si K fun u w1 hu hb1=>?_
    rw[hdi,put_dst rfl]
    refine hK.out _ _ (hS w1 hb1) (fun _=>?_)
    refine wpAnyH_ready hri (by simp) (AllReadyH.cons hk (fun K2 hK2=>?_) (AllReadyH.cons hj (fun K2 hK2=>?_) AllReadyH.nil))
    · refine sk u w1 hu hb1 K2 fun x w2 hx hb2=>?_
      rw[hdk,put_dst rfl]
      have hb:=hb1.trans (hb2.mono hb1.size)
      refine hK2.out _ _ (hS w2 hb) (fun _=>?_)
      refine wpAnyH_ready hrik (by simp) (AllReadyH.cons hj (fun K3 hK3=>?_) AllReadyH.nil)
      refine sj3 u x w2 hb K3 fun v w3 hv hb3=>?_
      rw[hdj,put_dst rfl]
      have hbb:=hb.trans (hb3.mono hb.size)
      refine hK3.out _ _ (hS w3 hbb) (fun _=>?_)
      have h2:=h u v x w3 (hp u w1 w3 hu (hb2.trans (hb3.mono hb2.size))) hv (hs x w2 w3 hx hb3) hbb
      rw[List.set_comm _ _ hjk,Array.setIfInBounds_comm _ _ njk] at h2
      exact h2
    · refine sj2 u w1 hb1 K2 fun v w2 hv hb2=>?_
      rw[hdj,put_dst rfl]
      have hb:=hb1.trans (hb2.mono hb1.size)
      exact hK2.out _ _ (hS w2 hb) (fun _=>last u v w2 (hp u w1 w2 hu hb2) hv hb)
  · refine sj K fun v w1 hv hb1=>?_
    rw[hdj,put_dst rfl]
    refine hK.out _ _ (hS w1 hb1) (fun _=>?_)
    refine wpAnyH_ready hrj (by simp) (AllReadyH.cons hi (fun K2 hK2=>?_) AllReadyH.nil)
    refine si2 v w1 hb1 K2 fun u w2 hu hb2=>?_
    rw[hdi,put_dst rfl]
    have hb:=hb1.trans (hb2.mono hb1.size)
    refine hK2.out _ _ (hS w2 hb) (fun _=>?_)
    have h2:=last u v w2 hu (hq v w1 w2 hv hb2) hb
    rw[List.set_comm _ _ hij,Array.setIfInBounds_comm _ _ nij] at h2
    exact h2
section
variable {W w:World} {g bn bs:Nat} {M:List Nd} {nx:Nat} {xa:Option Addr} {xn xq:Nat} {L:List Rn}
theorem one_there (hn:(L.map (·.id)).Nodup) {X:Rn} {i:Nat} (hX:L[i]? = some X) (hg:Am.Good X.fee):rrateV L [X.id]=(X.fee,Tx.weight X.v.t,0):=by
  have hm:=List.mem_of_getElem? hX
  have hf:L.filter (fun x=>decide (x.id∈[X.id]))=[X]:=by
    have hnd:L.Nodup:=(List.pairwise_map.1 hn).imp fun h e=>h (congrArg _ e)
    obtain⟨h2,h3⟩:=List.getElem?_eq_some_iff.1 hX
    have e:L=L.take i++X :: L.drop (i+1):=by rw[← h3,List.getElem_cons_drop h2,List.take_append_drop]
    have hd2:=hnd
    rw[e] at hd2
    obtain⟨_,d2,d3⟩:=List.nodup_append.1 hd2
    obtain⟨d4,_⟩:=List.nodup_cons.1 d2
    have f1:(L.take i).filter (fun x=>decide (x.id∈[X.id]))=[]:=List.filter_eq_nil_iff.2 fun x hx=>by
      rw[decide_eq_true_eq]
      exact fun e=>d3 x hx X List.mem_cons_self (rn_inj hn x X (List.mem_of_mem_take hx) hm (List.mem_singleton.1 e))
    have f2:(L.drop (i+1)).filter (fun x=>decide (x.id∈[X.id]))=[]:=List.filter_eq_nil_iff.2 fun x hx=>by
      rw[decide_eq_true_eq]
      exact fun e=>d4 (rn_inj hn x X (List.mem_of_mem_drop hx) hm (List.mem_singleton.1 e)▸hx)
    rw[e,List.filter_append,List.filter_cons,f1,f2]
    simp
  have hb:rbad L [X.id]=false:=rbad_no (by simp) fun id hid=>by
    rw[List.mem_singleton.1 hid]
    exact decide_eq_true ⟨X,hm,rfl⟩
  unfold rrateV rfees rwts
  rw[hb,hf]
  unfold rateV
  simp[hg]
theorem Pl.found (h:Pl W w g bn bs M nx xa xn xq L) {X:Rn} (hX:X∈L):∃ x,find M X.id=some x∧x∈M∧x.key=X.key∧getT M X.id=X.v.t:=by
  obtain⟨x,hx,e⟩:=h.twin hX
  have e1:x.id=X.id:=congrArg (fun k:Key=>k.2.1) e
  have hf:find M X.id=some x:=(find_is h.ga.grp.inj).2 ⟨hx,e1⟩
  refine⟨x,hf,hx,e,?_⟩
  unfold getT
  rw[hf]
  exact congrArg (fun k:Key=>k.1) e
theorem Pl.coin (h:Pl W w g bn bs M nx xa xn xq L) {X:Rn} (hX:X∈L) (i:Nat):coinO M (X.id,(i:Int))=X.v.t.co[i]?:=by
  obtain⟨x,hf,hx,e,_⟩:=h.found hX
  have e0:x.x.t=X.v.t:=congrArg (fun k:Key=>k.1) e
  have hm:x.x.m=x.x.t.co.length:=(h.ga.grp.nd x hx).at.co.1.symm
  unfold coinO
  by_cases hi:i<x.x.m
  · rw[maker_some.2 ⟨hf,by show(0:Int)≤(i:Int);omega,by show(i:Int)<(x.x.m:Int);omega⟩,← e0]
    rfl
  · cases hq:maker M (X.id,(i:Int)) with
    | none=>rw[← e0,List.getElem?_eq_none (by omega)];rfl
    | some z=>
      obtain⟨h1,_,h3⟩:=maker_some.1 hq
      have e2:z=x:=Option.some.inj (h1.symm.trans hf)
      subst e2
      exact absurd (show(i:Int)<(z.x.m:Int) from h3) (by omega)
theorem Pl.spend (h:Pl W w g bn bs M nx xa xn xq L) {X:Rn} (hX:X∈L) {s:Tx.Sp} (hs:s∈X.v.t.sp):spdI M (pt s)=X.id∧(Gr.spd M (pt s)).isSome=true:=by
  obtain⟨x,_,hx,e,_⟩:=h.found hX
  have e0:x.x.t=X.v.t:=congrArg (fun k:Key=>k.1) e
  have e1:x.id=X.id:=congrArg (fun k:Key=>k.2.1) e
  have hp:pt s∈x.pts:=List.mem_map.2 ⟨s,by rw[e0];exact hs,rfl⟩
  have hsp:Gr.spd M (pt s)=some x:=spd_uniq hx hp fun z hz hz2=>h.ga.dis z x _ hz hx hz2 hp
  unfold spdI
  rw[hsp]
  exact⟨e1,rfl⟩
end
end Gr
end Go.Proofs.YtijemcfnlbapjaaGreatDoor
