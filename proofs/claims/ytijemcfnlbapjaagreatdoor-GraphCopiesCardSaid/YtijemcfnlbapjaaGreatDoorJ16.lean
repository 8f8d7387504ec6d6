/- the reference's SHA-256 -/
import Derived.Test.YtijemcfnlbapjaaGreatDoorJ11
import Derived.Test.YtijemcfnlbapjaaGreatDoorJ03
namespace Go.Proofs.YtijemcfnlbapjaaGreatDoor
open Go Go.RowKit Go.ChangeShapes Go.WideShapes
theorem grown_putsS {w:World} {g:Nat} : ∀ (vs:List Value) {w':World} (o:Nat),w.grownBy w' (some g)→w.grownBy (w'.setCells g o vs) (some g)
  | [],_,_,h=>h
  | v :: r,_,o,h=>grown_putsS r (o+1) (grown_put7 h o v)
set_option maxRecDepth 100000 in
set_option maxHeartbeats 100000000 in
theorem rsum_any (ad:Option Addr) (n cp:Nat) (l:List (BitVec 8)) (w:World) (hw:Bytes8 w ad n l) (hn:n≤1000000) (hc0:ad=none→cp=0) (hT:Tab32 w 1 Dg.kL) :
    Calls Tryz.prog 101 #[.slice ad n cp] w fun e w'=>e=.returned (.agg (blist (Dg.sum l)).toArray)∧Below w.heap.size w w':=by
  have HL:=Lib.hid hw.1
  have HKS:=Lib.hid (hT.lt (by decide))
  go_enter Tryz.func101,Tryz.ntmps101
  go_upto_region 2 with fail
  obtain⟨w0,hw0⟩:∃ x,x=(w.alloc (.cells z32 46)).alloc (.cells #[.int .u32 1779033703,.int .u32 3144134277,.int .u32 1013904242,.int .u32 2773480762,.int .u32 1359893119,.int .u32 2600822924,.int .u32 528734635,.int .u32 1541459225] 159):=⟨_,rfl⟩
  rw[← hw0]
  have hR0:Has w0 w.heap.size 46 z32:=by rw[hw0];exact(Has.fresh _ _ _).past _
  have hG0:Has w0 (w.heap.size+1) 159 #[.int .u32 (nb32 (Dg.run (Dg.pad l) 0).a),.int .u32 (nb32 (Dg.run (Dg.pad l) 0).b),.int .u32 (nb32 (Dg.run (Dg.pad l) 0).c),.int .u32 (nb32 (Dg.run (Dg.pad l) 0).d),.int .u32 (nb32 (Dg.run (Dg.pad l) 0).e),.int .u32 (nb32 (Dg.run (Dg.pad l) 0).f),.int .u32 (nb32 (Dg.run (Dg.pad l) 0).g),.int .u32 (nb32 (Dg.run (Dg.pad l) 0).h)]:=by rw[hw0];exact Has.fresh_at _ _ _ (by simp)
  have hB0:Below w.heap.size w w0:=by rw[hw0];exact((Below.refl _ _).alloc (Nat.le_refl _) _).alloc (by simp) _
  clear hw0
  go_upto_region 3 with(first
    | (at_builtin;refine wpList_append_lit rfl (.tmp 20) (.tmp 21) 130 rfl 5 Tryz.underlying130 info_byte w0.heap.size va l rfl ho1 1 [128#8] rfl #[.int .u8 128] rfl rfl (by have:=HL.out;omega) hq1.size ?_;intro vb w2 ho2 hg2;have hq2:=below_lit7 hq1 ho1 hg2)
    | (at_builtin;have hoE:OwnB 5 w0.heap.size (w0.alloc (.cells #[] 5)) (.slice (some ⟨w0.heap.size,0,none⟩) 0 0) []:=OwnB.empty (Nat.le_refl _) (Has.fresh w0 _ _);refine wpList_append_bytes rfl (.tmp 18) (.tmp 19) 130 rfl 5 Tryz.underlying130 info_byte w0.heap.size _ [] rfl hoE ad n cp l rfl ((hw.below hB0).past _) hc0 (by simp;omega) (by simp) ?_;intro va w1 ho1 hg1;rw[List.nil_append] at ho1;have hq1:Below w0.heap.size w0 w1:=below_own_rowb ((Below.refl w0.heap.size w0).alloc (Nat.le_refl _) _) hg1 hoE.lt))
  clear hoE ho1 hg1 hq1 hg2
  go_wp2_with fail
  go_loopw [4] (fun bv wr=>∃ j:Nat,j≤Dg.zs n∧OwnB 5 w0.heap.size wr bv (l++[128#8]++List.replicate j 0#8)∧Below w0.heap.size w0 wr) (fun bv _=>n+100-sliceLen bv)
  case atStart=>exact⟨0,Nat.zero_le _,by simpa using ho2,hq2⟩
  case round=>
    clear ho2 hq2
    obtain⟨j,hj,ho,hb⟩:=hrel
    have hz64:Dg.zs n<64:=Nat.mod_lt _ (by omega)
    obtain⟨K,hK⟩:∃ K,K=n+1+j:=⟨_,rfl⟩
    have HK:=Lib.hid (show(l++[128#8]++List.replicate j 0#8).length=K by rw[List.length_append,List.length_append,HL.out,List.length_replicate,hK];rfl)
    have ho':=ho
    obtain⟨ba,bc,rfl,hbc,_,hbw⟩:=ho.shape HK.out
    obtain⟨r,hr⟩:∃ r,r=K%64:=⟨_,rfl⟩
    have hm1:(K:Int).tmod 64=(r:Int):=by rw[hr];rfl
    have hm2:(K:Int)%64=(r:Int):=by omega
    have HZ:=Lib.hid (And.intro hK (And.intro hr (show Dg.zs n=(119-n%64)%64 from rfl)))
    have HJ:=Lib.hid hj
    clear hK hr hj
    by_cases h56:r=56
    · have hr56:(r:Int)=56:=by omega
      have HZZ:=Lib.hid (show j=Dg.zs n by have:=HZ.out;have:=HJ.out;omega)
      clear h56
      obtain⟨P,hP⟩:∃ P,P=l++[128#8]++List.replicate j 0#8:=⟨_,rfl⟩
      rw[← hP] at ho ho' hbw HK
      have HP:=Lib.hid hP
      clear hP
      have hnw:=nat_to_u64 n
      obtain⟨X,hX⟩:∃ X,X=BitVec.ofNat 64 n*8#64:=⟨_,rfl⟩
      go_upto_region 6 with fail
      rw[← hX]
      have HX:=Lib.hid hX
      clear hX hnw hm1 hm2 hr56
      go_wp2_with fail
      rename World=>wA
      go_loopw [4,6] (fun bv iv wr=>∃ e:Nat,e≤8∧iv=.int .i64 ((e:Int)-1)∧OwnB 5 w0.heap.size wr bv (P++(List.range (8-e)).map (Dg.be (n*8)))∧Below w0.heap.size w0 wr) (fun _ iv _=>(intOf iv+1).toNat)
      case atStart=>exact⟨8,Nat.le_refl _,rfl,by simpa using ho',hb⟩
      case round=>
        clear ho ho' hb hbw hbc
        obtain⟨e,he,rfl,ho,hb⟩:=hrel
        rcases e with _ | e
        · have hm1:((0:Nat):Int)-1=-1:=rfl
          rw[hm1]
          have hpad:P++(List.range (8-0)).map (Dg.be (n*8))=Dg.pad l:=by
            rw[HP.out,HZZ.out]
            unfold Dg.pad
            rw[HL.out]
          rw[hpad] at ho
          obtain⟨M,hM⟩:∃ M,M=(Dg.pad l).length:=⟨_,rfl⟩
          have hM0:0<M:=by rw[hM,Dg.pad_len];omega
          have hMb:M≤1000200:=by
            have hz:Dg.zs l.length<64:=Nat.mod_lt _ (by omega)
            have:=HL.out
            rw[hM,Dg.pad_len]
            omega
          obtain⟨N,hN⟩:∃ N,N=M / 64:=⟨_,rfl⟩
          have HM:=Lib.hid (And.intro hM (And.intro (show M%64=0 by rw[hM];exact Dg.pad_mod l) hN))
          obtain⟨pg,pc,cur,rfl,hpc,hpg,hC,hcur⟩:=own_open ho hM.symm hM0
          clear hpad ho hM hN
          obtain⟨L,hLd⟩:∃ L,L=Dg.pad l:=⟨_,rfl⟩
          rw[← hLd] at hcur hG0
          have HLd:=Lib.hid hLd
          clear hLd
          have hGP:=hG0.under hb hG0.lt
          have hRP:=hR0.under hb hR0.lt
          have hBP:=hB0.trans (hb.mono hB0.size)
          have hTP:=(hT.below hB0).below hb
          have hgs:w.heap.size+2≤w0.heap.size:=by have:=hG0.lt;omega
          clear hG0 hR0 hb
          go_wp2_with fail
          rename World=>wP
          go_loopw [7] (fun iv wr=>∃ k:Nat,k≤N∧iv=.int .i64 ((64*k:Nat):Int)∧Has wr (w.heap.size+1) 159 #[.int .u32 (nb32 (Dg.run L k).a),.int .u32 (nb32 (Dg.run L k).b),.int .u32 (nb32 (Dg.run L k).c),.int .u32 (nb32 (Dg.run L k).d),.int .u32 (nb32 (Dg.run L k).e),.int .u32 (nb32 (Dg.run L k).f),.int .u32 (nb32 (Dg.run L k).g),.int .u32 (nb32 (Dg.run L k).h)]∧Has wr w.heap.size 46 z32∧Has wr pg 5 cur∧Tab32 wr 1 Dg.kL∧Below w.heap.size w wr) (fun iv _=>M+64-(intOf iv).toNat)
          case atStart=>exact⟨0,Nat.zero_le _,rfl,hGP,hRP,hC,hTP,hBP⟩
          case round=>
            clear hGP hRP hC hTP hBP
            obtain⟨k,hk,rfl,hG,hR,hC,hTb,hB⟩:=hrel
            obtain⟨at_,hat⟩:∃ x,x=64*k:=⟨_,rfl⟩
            rw[← hat]
            obtain⟨v,hv⟩:∃ v,v=Dg.run L k:=⟨_,rfl⟩
            rw[← hv] at hG
            have hatb:at_≤M:=by have:=HM.out;omega
            have hat64:(at_:Int)+64=((at_+64:Nat):Int):=by omega
            have HA:=Lib.hid (And.intro hat (And.intro hk hv))
            clear hat hv hk
            by_cases hle:at_+64≤M
            · have hlei:(at_:Int)+64≤(M:Int):=by omega
              clear hat64
              go_wp2_with fail
              obtain⟨m,hm⟩:∃ m,m=Dg.blk L k:=⟨_,rfl⟩
              have Hm:=Lib.hid hm
              obtain⟨gW,hgW⟩:∃ g,g=wr.heap.size:=⟨_,rfl⟩
              obtain⟨wB,hwB⟩:∃ x,x=wr.alloc (.cells z64 175):=⟨_,rfl⟩
              rw[← hwB,← hgW]
              have hW0:Has wB gW 175 (wcells 64 (Dg.wF m 0)):=by rw[hwB,hgW,← z64_eq m];exact Has.fresh _ _ _
              have hsB:wB.heap.size=gW+1:=by rw[hwB,hgW,World.size_alloc]
              have hGB:Has wB (w.heap.size+1) 159 #[.int .u32 (nb32 v.a),.int .u32 (nb32 v.b),.int .u32 (nb32 v.c),.int .u32 (nb32 v.d),.int .u32 (nb32 v.e),.int .u32 (nb32 v.f),.int .u32 (nb32 v.g),.int .u32 (nb32 v.h)]:=by rw[hwB];exact hG.past _
              have hRB:Has wB w.heap.size 46 z32:=by rw[hwB];exact hR.past _
              have hCB:Has wB pg 5 cur:=by rw[hwB];exact hC.past _
              have hTB:Tab32 wB 1 Dg.kL:=by rw[hwB];exact hTb.past _
              have hBB:Below w.heap.size w wB:=by rw[hwB];exact hB.alloc hB.size _
              have hpgW:pg≠gW:=by have:=hC.lt;omega
              have hGW:w.heap.size+1<gW:=by have:=hG.lt;omega
              have hTW:1<gW:=by have:=hTb.lt (by decide);omega
              clear hG hR hC hTb hB hm hwB hgW
              go_loopw [9] (fun iv wr=>∃ t:Nat,t≤64∧iv=.int .i64 t∧Has wr gW 175 (wcells 64 (Dg.wF m t))∧wB.grownBy wr (some gW)) (fun iv _=>64-(intOf iv).toNat)
              case atStart=>exact⟨0,Nat.zero_le _,rfl,hW0,grown_refl7 _ _⟩
              case round=>
                clear hW0
                obtain⟨t,ht,rfl,hW,hgr⟩:=hrel
                by_cases h64:t<64
                · have ht64:(t:Int)<64:=by omega
                  have ht0:(0:Int)≤(t:Int):=by omega
                  by_cases h16:t<16
                  · have ht16:(t:Int)<16:=by omega
                    as_aux_lemma=>
                      obtain⟨q,hqv⟩:∃ x,x=4*t:=⟨_,rfl⟩
                      have hqi:(4:Int)*(t:Int)=(q:Int):=by omega
                      have hqw:IntKind.i64.wrap (q:Int)=(q:Int):=IntWalk.i64_in _ (by omega)
                      have hq0:(0:Int)≤(q:Int):=by omega
                      obtain⟨p0,hp0v⟩:∃ x,x=at_+q:=⟨_,rfl⟩
                      have hp0i:(at_:Int)+(q:Int)=(p0:Int):=by omega
                      have hp0w:IntKind.i64.wrap (p0:Int)=(p0:Int):=IntWalk.i64_in _ (by omega)
                      have hp00:(0:Int)≤(p0:Int):=by omega
                      have hp0u:(p0:Int)<(M:Int):=by omega
                      obtain⟨p1,hp1v⟩:∃ x,x=p0+1:=⟨_,rfl⟩
                      have hp1i:(p0:Int)+1=(p1:Int):=by omega
                      have hp1w:IntKind.i64.wrap (p1:Int)=(p1:Int):=IntWalk.i64_in _ (by omega)
                      have hp10:(0:Int)≤(p1:Int):=by omega
                      have hp1u:(p1:Int)<(M:Int):=by omega
                      obtain⟨p2,hp2v⟩:∃ x,x=p0+2:=⟨_,rfl⟩
                      have hp2i:(p0:Int)+2=(p2:Int):=by omega
                      have hp2w:IntKind.i64.wrap (p2:Int)=(p2:Int):=IntWalk.i64_in _ (by omega)
                      have hp20:(0:Int)≤(p2:Int):=by omega
                      have hp2u:(p2:Int)<(M:Int):=by omega
                      obtain⟨p3,hp3v⟩:∃ x,x=p0+3:=⟨_,rfl⟩
                      have hp3i:(p0:Int)+3=(p3:Int):=by omega
                      have hp3w:IntKind.i64.wrap (p3:Int)=(p3:Int):=IntWalk.i64_in _ (by omega)
                      have hp30:(0:Int)≤(p3:Int):=by omega
                      have hp3u:(p3:Int)<(M:Int):=by omega
                      obtain⟨b0,hb0⟩:∃ x,x=cb L p0:=⟨_,rfl⟩
                      have k0:=hcur p0 (by omega)
                      rw[← hb0] at k0
                      obtain⟨b1,hb1⟩:∃ x,x=cb L p1:=⟨_,rfl⟩
                      have k1:=hcur p1 (by omega)
                      rw[← hb1] at k1
                      obtain⟨b2,hb2⟩:∃ x,x=cb L p2:=⟨_,rfl⟩
                      have k2:=hcur p2 (by omega)
                      rw[← hb2] at k2
                      obtain⟨b3,hb3⟩:∃ x,x=cb L p3:=⟨_,rfl⟩
                      have k3:=hcur p3 (by omega)
                      rw[← hb3] at k3
                      have HX:=Lib.hid (show(b0.setWidth 32<<<24+b1.setWidth 32<<<16+b2.setWidth 32<<<8+b3.setWidth 32)=Dg.sch m t by
                        rw[Dg.sch_lo m h16,Hm.out,hb0,hb1,hb2,hb3,hp1v,hp2v,hp3v,hp0v,hqv]
                        unfold Dg.blk Dg.word
                        rw[HA.out.1])
                      clear hqv hp0v hp1v hp2v hp3v hb0 hb1 hb2 hb3
                      go_upto_region 18 with fail
                      refine still_tail_drew7 43 rfl (by kernel_rfl) ?_
                      simp only[List.take_succ_cons,List.take_zero,List.drop_succ_cons,List.drop_zero]
                      obtain⟨wn,hwn⟩:∃ x,x=wr.drew:=⟨_,rfl⟩
                      rw[← hwn]
                      replace hW:Has wn gW 175 (wcells 64 (Dg.wF m t)):=by rw[hwn];exact hW.draw
                      replace hgr:wB.grownBy wn (some gW):=by rw[hwn];exact grown_drew7 hgr
                      clear hwn
                      have hCn:=grown_has hgr hCB hpgW
                      have c0:wn.cell? ⟨pg,p0,none⟩=some (.int .u8 (nb8 b0)):=hCn.cell_at k0
                      have c1:wn.cell? ⟨pg,p1,none⟩=some (.int .u8 (nb8 b1)):=hCn.cell_at k1
                      have c2:wn.cell? ⟨pg,p2,none⟩=some (.int .u8 (nb8 b2)):=hCn.cell_at k2
                      have c3:wn.cell? ⟨pg,p3,none⟩=some (.int .u8 (nb8 b3)):=hCn.cell_at k3
                      have cw:=hW.cell_at (wcells_at (Dg.wF m t) h64)
                      have fw:=hW.loose t
                      refine still_then _ (by
                        repeat still_step
                        exact wpStill_nil rfl) ?_
                      go_wp2_with fail
                      have hW2:=hW.put t (.int .u32 (nb32 (b0.setWidth 32<<<24+b1.setWidth 32<<<16+b2.setWidth 32<<<8+b3.setWidth 32)))
                      rw[wF_step m t _ HX.out] at hW2
                      go_roundw
                      case rel=>exact⟨t+1,by omega,by go_num,hW2,grown_put7 hgr _ _⟩
                      case measure=>(simp[intOf];try omega)
                  · have ht16:¬ (t:Int)<16:=by omega
                    as_aux_lemma=>
                      obtain⟨t2,ht2v⟩:∃ x,x=t-2:=⟨_,rfl⟩
                      have ht2i:(t:Int)-2=(t2:Int):=by omega
                      have ht2w:IntKind.i64.wrap (t2:Int)=(t2:Int):=IntWalk.i64_in _ (by omega)
                      have ht20:(0:Int)≤(t2:Int):=by omega
                      have ht2u:(t2:Int)<64:=by omega
                      obtain⟨y2,hy2⟩:∃ x,x=Dg.sch m t2:=⟨_,rfl⟩
                      have j2:(wcells 64 (Dg.wF m t))[t2]? = some (.int .u32 (nb32 y2)):=by rw[wcells_at _ (by omega),wF_lo m (by omega),hy2]
                      obtain⟨t7,ht7v⟩:∃ x,x=t-7:=⟨_,rfl⟩
                      have ht7i:(t:Int)-7=(t7:Int):=by omega
                      have ht7w:IntKind.i64.wrap (t7:Int)=(t7:Int):=IntWalk.i64_in _ (by omega)
                      have ht70:(0:Int)≤(t7:Int):=by omega
                      have ht7u:(t7:Int)<64:=by omega
                      obtain⟨y7,hy7⟩:∃ x,x=Dg.sch m t7:=⟨_,rfl⟩
                      have j7:(wcells 64 (Dg.wF m t))[t7]? = some (.int .u32 (nb32 y7)):=by rw[wcells_at _ (by omega),wF_lo m (by omega),hy7]
                      obtain⟨t15,ht15v⟩:∃ x,x=t-15:=⟨_,rfl⟩
                      have ht15i:(t:Int)-15=(t15:Int):=by omega
                      have ht15w:IntKind.i64.wrap (t15:Int)=(t15:Int):=IntWalk.i64_in _ (by omega)
                      have ht150:(0:Int)≤(t15:Int):=by omega
                      have ht15u:(t15:Int)<64:=by omega
                      obtain⟨y15,hy15⟩:∃ x,x=Dg.sch m t15:=⟨_,rfl⟩
                      have j15:(wcells 64 (Dg.wF m t))[t15]? = some (.int .u32 (nb32 y15)):=by rw[wcells_at _ (by omega),wF_lo m (by omega),hy15]
                      obtain⟨t16,ht16v⟩:∃ x,x=t-16:=⟨_,rfl⟩
                      have ht16i:(t:Int)-16=(t16:Int):=by omega
                      have ht16w:IntKind.i64.wrap (t16:Int)=(t16:Int):=IntWalk.i64_in _ (by omega)
                      have ht160:(0:Int)≤(t16:Int):=by omega
                      have ht16u:(t16:Int)<64:=by omega
                      obtain⟨y16,hy16⟩:∃ x,x=Dg.sch m t16:=⟨_,rfl⟩
                      have j16:(wcells 64 (Dg.wF m t))[t16]? = some (.int .u32 (nb32 y16)):=by rw[wcells_at _ (by omega),wF_lo m (by omega),hy16]
                      obtain⟨A,hA⟩:∃ x,x=Dg.ror y2 17^^^Dg.ror y2 19^^^y2>>>10:=⟨_,rfl⟩
                      have i7:(wcells 64 (Dg.wG m t A))[t7]? = some (.int .u32 (nb32 y7)):=by rw[wcells_at _ (by omega),show Dg.wG m t A t7=Dg.wF m t t7 from if_neg (by omega),wF_lo m (by omega),hy7]
                      have i15:(wcells 64 (Dg.wG m t A))[t15]? = some (.int .u32 (nb32 y15)):=by rw[wcells_at _ (by omega),show Dg.wG m t A t15=Dg.wF m t t15 from if_neg (by omega),wF_lo m (by omega),hy15]
                      have i16:(wcells 64 (Dg.wG m t A))[t16]? = some (.int .u32 (nb32 y16)):=by rw[wcells_at _ (by omega),show Dg.wG m t A t16=Dg.wF m t t16 from if_neg (by omega),wF_lo m (by omega),hy16]
                      have iA:(wcells 64 (Dg.wG m t A))[t]? = some (.int .u32 (nb32 A)):=by rw[wcells_at _ h64,show Dg.wG m t A t=A from if_pos rfl]
                      have HX:=Lib.hid (show A+y7+(Dg.ror y15 7^^^Dg.ror y15 18^^^y15>>>3)+y16=Dg.sch m t by
                        rw[Dg.sch_hi m (by omega),hA,hy2,hy7,hy15,hy16,ht2v,ht7v,ht15v,ht16v]
                        rfl)
                      have HAA:=Lib.hid hA
                      clear hA hy2 hy7 hy15 hy16 ht2v ht7v ht15v ht16v
                      go_upto_region 19 with fail
                      refine still_tail_drew7 19 rfl (by kernel_rfl) ?_
                      simp only[List.take_succ_cons,List.take_zero,List.drop_succ_cons,List.drop_zero]
                      obtain⟨wn,hwn⟩:∃ x,x=wr.drew:=⟨_,rfl⟩
                      rw[← hwn]
                      replace hW:Has wn gW 175 (wcells 64 (Dg.wF m t)):=by rw[hwn];exact hW.draw
                      replace hgr:wB.grownBy wn (some gW):=by rw[hwn];exact grown_drew7 hgr
                      clear hwn
                      have c2:wn.cell? ⟨gW,t2,none⟩=some (.int .u32 (nb32 y2)):=hW.cell_at j2
                      have cw:=hW.cell_at (wcells_at (Dg.wF m t) h64)
                      have fw:=hW.loose t
                      refine still_then _ (by
                        repeat still_step
                        still_call ((rturn_any _ 17 17 rfl (by omega) _).mono fun e w' h=>⟨h.1,h.2.symm⟩)
                        repeat still_step
                        still_call ((rturn_any _ 19 19 rfl (by omega) _).mono fun e w' h=>⟨h.1,h.2.symm⟩)
                        repeat still_step
                        exact wpStill_nil rfl) ?_
                      go_upto_region 20 with fail
                      rw[← HAA.out]
                      replace hW:=hW.put t (.int .u32 (nb32 A))
                      rw[wG_step m t A] at hW
                      replace hgr:=grown_put7 hgr t (.int .u32 (nb32 A))
                      obtain⟨wm,hwm⟩:∃ x,x=wn.setCell ⟨gW,t,none⟩ (.int .u32 (nb32 A)):=⟨_,rfl⟩
                      rw[← hwm] at hW hgr ⊢
                      clear hwm c2 cw fw j2 j7 j15 j16
                      refine still_tail_drew7 33 rfl (by kernel_rfl) ?_
                      simp only[List.take_succ_cons,List.take_zero,List.drop_succ_cons,List.drop_zero]
                      obtain⟨wo,hwn⟩:∃ x,x=wm.drew:=⟨_,rfl⟩
                      rw[← hwn]
                      replace hW:Has wo gW 175 (wcells 64 (Dg.wG m t A)):=by rw[hwn];exact hW.draw
                      replace hgr:wB.grownBy wo (some gW):=by rw[hwn];exact grown_drew7 hgr
                      clear hwn
                      have c7:wo.cell? ⟨gW,t7,none⟩=some (.int .u32 (nb32 y7)):=hW.cell_at i7
                      have c15:wo.cell? ⟨gW,t15,none⟩=some (.int .u32 (nb32 y15)):=hW.cell_at i15
                      have c16:wo.cell? ⟨gW,t16,none⟩=some (.int .u32 (nb32 y16)):=hW.cell_at i16
                      have cA:wo.cell? ⟨gW,t,none⟩=some (.int .u32 (nb32 A)):=hW.cell_at iA
                      have fw:=hW.loose t
                      refine still_then _ (by
                        repeat still_step
                        still_call ((rturn_any _ 7 7 rfl (by omega) _).mono fun e w' h=>⟨h.1,h.2.symm⟩)
                        repeat still_step
                        still_call ((rturn_any _ 18 18 rfl (by omega) _).mono fun e w' h=>⟨h.1,h.2.symm⟩)
                        repeat still_step
                        exact wpStill_nil rfl) ?_
                      go_wp2_with fail
                      have hW2:=hW.put t (.int .u32 (nb32 (A+y7+(Dg.ror y15 7^^^Dg.ror y15 18^^^y15>>>3)+y16)))
                      rw[wG_end m t A _ HX.out] at hW2
                      go_roundw
                      case rel=>exact⟨t+1,by omega,by go_num,hW2,grown_put7 hgr _ _⟩
                      case measure=>(simp[intOf];try omega)
                · have HTT:=Lib.hid (show t=64 by omega)
                  have ht64:¬ (t:Int)<64:=by omega
                  rw[HTT.out] at hW
                  have hGC:=grown_has hgr hGB (by omega)
                  have hRC:=grown_has hgr hRB (by omega)
                  have hCC:=grown_has hgr hCB hpgW
                  have hTC:=grown_tab hgr hTB (by decide) (by omega)
                  have hBC:=grown_low hBB hgr (by omega) (by omega)
                  have hsC:=hgr.size
                  clear hGB hRB hCB hTB hBB hgr h64 ht
                  obtain⟨va,vb_,vc,vd,ve,vf,vg,vh⟩:=v
                  replace hGC:Has wr (w.heap.size+1) 159 #[.int .u32 (nb32 va),.int .u32 (nb32 vb_),.int .u32 (nb32 vc),.int .u32 (nb32 vd),.int .u32 (nb32 ve),.int .u32 (nb32 vf),.int .u32 (nb32 vg),.int .u32 (nb32 vh)]:=hGC
                  have c0:=hGC.cell_at (i:=0) (v:=.int .u32 (nb32 va)) rfl
                  have c1:=hGC.cell_at (i:=1) (v:=.int .u32 (nb32 vb_)) rfl
                  have c2:=hGC.cell_at (i:=2) (v:=.int .u32 (nb32 vc)) rfl
                  have c3:=hGC.cell_at (i:=3) (v:=.int .u32 (nb32 vd)) rfl
                  have c4:=hGC.cell_at (i:=4) (v:=.int .u32 (nb32 ve)) rfl
                  have c5:=hGC.cell_at (i:=5) (v:=.int .u32 (nb32 vf)) rfl
                  have c6:=hGC.cell_at (i:=6) (v:=.int .u32 (nb32 vg)) rfl
                  have c7:=hGC.cell_at (i:=7) (v:=.int .u32 (nb32 vh)) rfl
                  go_upto_region 22 with fail
                  obtain⟨gX,hgX⟩:∃ g,g=wr.heap.size:=⟨_,rfl⟩
                  obtain⟨wD,hwD⟩:∃ x,x=wr.alloc (.cells #[.int .u32 (nb32 va),.int .u32 (nb32 vb_),.int .u32 (nb32 vc),.int .u32 (nb32 vd),.int .u32 (nb32 ve),.int .u32 (nb32 vf),.int .u32 (nb32 vg),.int .u32 (nb32 vh)] 159):=⟨_,rfl⟩
                  rw[← hwD,← hgX]
                  have hX0:Has wD gX 159 #[.int .u32 (nb32 va),.int .u32 (nb32 vb_),.int .u32 (nb32 vc),.int .u32 (nb32 vd),.int .u32 (nb32 ve),.int .u32 (nb32 vf),.int .u32 (nb32 vg),.int .u32 (nb32 vh)]:=by rw[hwD,hgX];exact Has.fresh _ _ _
                  have hGD:Has wD (w.heap.size+1) 159 #[.int .u32 (nb32 va),.int .u32 (nb32 vb_),.int .u32 (nb32 vc),.int .u32 (nb32 vd),.int .u32 (nb32 ve),.int .u32 (nb32 vf),.int .u32 (nb32 vg),.int .u32 (nb32 vh)]:=by rw[hwD];exact hGC.past _
                  have hRD:Has wD w.heap.size 46 z32:=by rw[hwD];exact hRC.past _
                  have hCD:Has wD pg 5 cur:=by rw[hwD];exact hCC.past _
                  have hWD:Has wD gW 175 (wcells 64 (Dg.wF m 64)):=by rw[hwD];exact hW.past _
                  have hTD:Tab32 wD 1 Dg.kL:=by rw[hwD];exact hTC.past _
                  have hBD:Below w.heap.size w wD:=by rw[hwD];exact hBC.alloc hBC.size _
                  have hpgX:pg≠gX:=by have:=hCC.lt;omega
                  have hGX:w.heap.size+1<gX:=by have:=hGC.lt;omega
                  have hWX:gW<gX:=by have:=hW.lt;omega
                  have hTX:1<gX:=by have:=hTC.lt (by decide);omega
                  have hsD:gX<wD.heap.size:=hX0.lt
                  clear hGC hRC hCC hTC hBC hW hwD hgX c0 c1 c2 c3 c4 c5 c6 c7
                  go_wp2_with fail
                  go_loopw [11] (fun iv wr=>∃ t:Nat,t≤64∧iv=.int .i64 t∧Has wr gX 159 #[.int .u32 (nb32 (Dg.steps m ⟨va,vb_,vc,vd,ve,vf,vg,vh⟩ t).a),.int .u32 (nb32 (Dg.steps m ⟨va,vb_,vc,vd,ve,vf,vg,vh⟩ t).b),.int .u32 (nb32 (Dg.steps m ⟨va,vb_,vc,vd,ve,vf,vg,vh⟩ t).c),.int .u32 (nb32 (Dg.steps m ⟨va,vb_,vc,vd,ve,vf,vg,vh⟩ t).d),.int .u32 (nb32 (Dg.steps m ⟨va,vb_,vc,vd,ve,vf,vg,vh⟩ t).e),.int .u32 (nb32 (Dg.steps m ⟨va,vb_,vc,vd,ve,vf,vg,vh⟩ t).f),.int .u32 (nb32 (Dg.steps m ⟨va,vb_,vc,vd,ve,vf,vg,vh⟩ t).g),.int .u32 (nb32 (Dg.steps m ⟨va,vb_,vc,vd,ve,vf,vg,vh⟩ t).h)]∧wD.grownBy wr (some gX)) (fun iv _=>64-(intOf iv).toNat)
                  case atStart=>exact⟨0,Nat.zero_le _,rfl,hX0,grown_refl7 _ _⟩
                  case round=>
                    clear hX0
                    obtain⟨s,hs,rfl,hX,hgr⟩:=hrel
                    obtain⟨u,hu⟩:∃ u,u=Dg.steps m ⟨va,vb_,vc,vd,ve,vf,vg,vh⟩ s:=⟨_,rfl⟩
                    rw[← hu] at hX
                    have HU:=Lib.hid hu
                    clear hu
                    by_cases h64:s<64
                    · obtain⟨xa,xb,xc,xd,xe,xf,xg,xh⟩:=u
                      replace hX:Has wr gX 159 #[.int .u32 (nb32 xa),.int .u32 (nb32 xb),.int .u32 (nb32 xc),.int .u32 (nb32 xd),.int .u32 (nb32 xe),.int .u32 (nb32 xf),.int .u32 (nb32 xg),.int .u32 (nb32 xh)]:=hX
                      have hs64:(s:Int)<64:=by omega
                      have hs0:(0:Int)≤(s:Int):=by omega
                      obtain⟨kt,hkt⟩:∃ x,x=Dg.kL.getD s 0:=⟨_,rfl⟩
                      obtain⟨wt,hwt⟩:∃ x,x=Dg.sch m s:=⟨_,rfl⟩
                      have jW:(wcells 64 (Dg.wF m 64))[s]? = some (.int .u32 (nb32 wt)):=by rw[wcells_at _ h64,wF_lo m h64,hwt]
                      have HKW:=Lib.hid (And.intro hkt hwt)
                      clear hwt hkt
                      go_upto_region 25 with fail
                      refine still_all_drew7 rfl (by kernel_rfl) ?_
                      obtain⟨wn,hwn⟩:∃ x,x=wr.drew:=⟨_,rfl⟩
                      rw[← hwn]
                      replace hX:Has wn gX 159 #[.int .u32 (nb32 xa),.int .u32 (nb32 xb),.int .u32 (nb32 xc),.int .u32 (nb32 xd),.int .u32 (nb32 xe),.int .u32 (nb32 xf),.int .u32 (nb32 xg),.int .u32 (nb32 xh)]:=by rw[hwn];exact hX.draw
                      replace hgr:wD.grownBy wn (some gX):=by rw[hwn];exact grown_drew7 hgr
                      clear hwn
                      have c4:wn.cell? ⟨gX,4,none⟩=some (.int .u32 (nb32 xe)):=hX.cell_at rfl
                      have c5:wn.cell? ⟨gX,5,none⟩=some (.int .u32 (nb32 xf)):=hX.cell_at rfl
                      have c6:wn.cell? ⟨gX,6,none⟩=some (.int .u32 (nb32 xg)):=hX.cell_at rfl
                      have c7:wn.cell? ⟨gX,7,none⟩=some (.int .u32 (nb32 xh)):=hX.cell_at rfl
                      have cK:wn.cell? ⟨1,s,none⟩=some (.int .u32 (nb32 kt)):=by rw[HKW.out.1];exact grown_tab hgr hTD (by decide) (by omega) s (by rw[Dg.kL_len];exact h64)
                      have cW:wn.cell? ⟨gW,s,none⟩=some (.int .u32 (nb32 wt)):=(grown_has hgr hWD (by omega)).cell_at jW
                      refine still_then _ (by
                        repeat still_step
                        still_call ((rturn_any _ 6 6 rfl (by omega) _).mono fun e w' h=>⟨h.1,h.2.symm⟩)
                        repeat still_step
                        still_call ((rturn_any _ 11 11 rfl (by omega) _).mono fun e w' h=>⟨h.1,h.2.symm⟩)
                        repeat still_step
                        still_call ((rturn_any _ 25 25 rfl (by omega) _).mono fun e w' h=>⟨h.1,h.2.symm⟩)
                        repeat still_step
                        exact wpStill_nil rfl) ?_
                      go_upto_region 26 with fail
                      obtain⟨T1,hT1⟩:∃ x,x=xh+(Dg.ror xe 6^^^Dg.ror xe 11^^^Dg.ror xe 25)+(xe&&&xf^^^(4294967295#32-xe)&&&xg)+kt+wt:=⟨_,rfl⟩
                      rw[← hT1]
                      have HT1:=Lib.hid hT1
                      clear hT1 cK cW c4 c5 c6 c7 jW
                      refine still_all_drew7 rfl (by kernel_rfl) ?_
                      obtain⟨wo,hwn⟩:∃ x,x=wn.drew:=⟨_,rfl⟩
                      rw[← hwn]
                      replace hX:Has wo gX 159 #[.int .u32 (nb32 xa),.int .u32 (nb32 xb),.int .u32 (nb32 xc),.int .u32 (nb32 xd),.int .u32 (nb32 xe),.int .u32 (nb32 xf),.int .u32 (nb32 xg),.int .u32 (nb32 xh)]:=by rw[hwn];exact hX.draw
                      replace hgr:wD.grownBy wo (some gX):=by rw[hwn];exact grown_drew7 hgr
                      clear hwn
                      have c0:wo.cell? ⟨gX,0,none⟩=some (.int .u32 (nb32 xa)):=hX.cell_at rfl
                      have c1:wo.cell? ⟨gX,1,none⟩=some (.int .u32 (nb32 xb)):=hX.cell_at rfl
                      have c2:wo.cell? ⟨gX,2,none⟩=some (.int .u32 (nb32 xc)):=hX.cell_at rfl
                      refine still_then _ (by
                        repeat still_step
                        still_call ((rturn_any _ 2 2 rfl (by omega) _).mono fun e w' h=>⟨h.1,h.2.symm⟩)
                        repeat still_step
                        still_call ((rturn_any _ 13 13 rfl (by omega) _).mono fun e w' h=>⟨h.1,h.2.symm⟩)
                        repeat still_step
                        still_call ((rturn_any _ 22 22 rfl (by omega) _).mono fun e w' h=>⟨h.1,h.2.symm⟩)
                        repeat still_step
                        exact wpStill_nil rfl) ?_
                      go_upto_region 27 with fail
                      obtain⟨T2,hT2⟩:∃ x,x=(Dg.ror xa 2^^^Dg.ror xa 13^^^Dg.ror xa 22)+(xa&&&xb^^^xa&&&xc^^^xb&&&xc):=⟨_,rfl⟩
                      rw[← hT2]
                      have HT2:=Lib.hid hT2
                      clear hT2 c0 c1 c2
                      have c0:wo.cell? ⟨gX,0,none⟩=some (.int .u32 (nb32 xa)):=hX.cell_at rfl
                      have c1:wo.cell? ⟨gX,1,none⟩=some (.int .u32 (nb32 xb)):=hX.cell_at rfl
                      have c2:wo.cell? ⟨gX,2,none⟩=some (.int .u32 (nb32 xc)):=hX.cell_at rfl
                      have c3:wo.cell? ⟨gX,3,none⟩=some (.int .u32 (nb32 xd)):=hX.cell_at rfl
                      have c4:wo.cell? ⟨gX,4,none⟩=some (.int .u32 (nb32 xe)):=hX.cell_at rfl
                      have c5:wo.cell? ⟨gX,5,none⟩=some (.int .u32 (nb32 xf)):=hX.cell_at rfl
                      have c6:wo.cell? ⟨gX,6,none⟩=some (.int .u32 (nb32 xg)):=hX.cell_at rfl
                      have c7:wo.cell? ⟨gX,7,none⟩=some (.int .u32 (nb32 xh)):=hX.cell_at rfl
                      have f0:=hX.loose 0
                      have f1:=hX.loose 1
                      have f2:=hX.loose 2
                      have f3:=hX.loose 3
                      have f4:=hX.loose 4
                      have f5:=hX.loose 5
                      have f6:=hX.loose 6
                      have f7:=hX.loose 7
                      have hbd8:=fun(w:World)=>run_build (P:=Tryz.prog) w 159 #[(0,.int .u32 (nb32 (T1+T2))),(1,.int .u32 (nb32 xa)),(2,.int .u32 (nb32 xb)),(3,.int .u32 (nb32 xc)),(4,.int .u32 (nb32 (xd+T1))),(5,.int .u32 (nb32 xe)),(6,.int .u32 (nb32 xf)),(7,.int .u32 (nb32 xg))] #[.int .u32 (nb32 (T1+T2)),.int .u32 (nb32 xa),.int .u32 (nb32 xb),.int .u32 (nb32 xc),.int .u32 (nb32 (xd+T1)),.int .u32 (nb32 xe),.int .u32 (nb32 xf),.int .u32 (nb32 xg)] (by kernel_rfl)
                      have hth8:=hX.there 0 8 (Nat.le_refl _)
                      go_upto_region 24 with(first
                        | (refine wpList_store_mid rfl 159 (.tmp 10) (.tmp 243) rfl gX 0 #[.int .u32 (nb32 (T1+T2)),.int .u32 (nb32 xa),.int .u32 (nb32 xb),.int .u32 (nb32 xc),.int .u32 (nb32 (xd+T1)),.int .u32 (nb32 xe),.int .u32 (nb32 xf),.int .u32 (nb32 xg)] rfl rfl hth8 (by kernel_rfl) (by simp[Value.oneCell']) ?_))
                      have hXn:=hX.whole_cs (cs2:=#[.int .u32 (nb32 (T1+T2)),.int .u32 (nb32 xa),.int .u32 (nb32 xb),.int .u32 (nb32 xc),.int .u32 (nb32 (xd+T1)),.int .u32 (nb32 xe),.int .u32 (nb32 xf),.int .u32 (nb32 xg)]) rfl
                      have hgn:wD.grownBy (wo.setCells gX 0 [.int .u32 (nb32 (T1+T2)),.int .u32 (nb32 xa),.int .u32 (nb32 xb),.int .u32 (nb32 xc),.int .u32 (nb32 (xd+T1)),.int .u32 (nb32 xe),.int .u32 (nb32 xf),.int .u32 (nb32 xg)]) (some gX):=grown_putsS _ 0 hgr
                      obtain⟨wp8,hwp8⟩:∃ x,x=wo.setCells gX 0 [.int .u32 (nb32 (T1+T2)),.int .u32 (nb32 xa),.int .u32 (nb32 xb),.int .u32 (nb32 xc),.int .u32 (nb32 (xd+T1)),.int .u32 (nb32 xe),.int .u32 (nb32 xf),.int .u32 (nb32 xg)]:=⟨_,rfl⟩
                      have hXn:Has wp8 gX 159 #[.int .u32 (nb32 (T1+T2)),.int .u32 (nb32 xa),.int .u32 (nb32 xb),.int .u32 (nb32 xc),.int .u32 (nb32 (xd+T1)),.int .u32 (nb32 xe),.int .u32 (nb32 xf),.int .u32 (nb32 xg)]:=by rw[hwp8];exact hXn
                      have hgn:wD.grownBy wp8 (some gX):=by rw[hwp8];exact hgn
                      have hwp8a:wp8=wo.setCells gX 0 (#[.int .u32 (nb32 (T1+T2)),.int .u32 (nb32 xa),.int .u32 (nb32 xb),.int .u32 (nb32 xc),.int .u32 (nb32 (xd+T1)),.int .u32 (nb32 xe),.int .u32 (nb32 xf),.int .u32 (nb32 xg)]:Array Value).toList:=hwp8
                      first | rw[← hwp8] | rw[← hwp8a]
                      clear hwp8 hwp8a hbd8 hth8
                      clear c0 c1 c2 c3 c4 c5 c6 c7 f0 f1 f2 f3 f4 f5 f6 f7
                      go_wp2_with fail
                      go_roundw
                      case rel=>
                        refine⟨s+1,by omega,by go_num,?_,?_⟩
                        · rw[show Dg.steps m ⟨va,vb_,vc,vd,ve,vf,vg,vh⟩ (s+1)=Dg.step (Dg.steps m ⟨va,vb_,vc,vd,ve,vf,vg,vh⟩ s) (Dg.kL.getD s 0) (Dg.sch m s) from rfl,← HU.out,← HKW.out.1,← HKW.out.2]
                          unfold Dg.step Dg.t1 Dg.t2 Dg.S1 Dg.S0 Dg.ch Dg.maj
                          simp only
                          rw[← HT1.out,← HT2.out]
                          exact hXn
                        · exact hgn
                      case measure=>(simp[intOf];try omega)
                    · have HSS:=Lib.hid (show s=64 by omega)
                      have hs64:¬ (s:Int)<64:=by omega
                      have hGF0:=grown_has hgr hGD (by omega)
                      have hRF:=grown_has hgr hRD (by omega)
                      have hCF:=grown_has hgr hCD hpgX
                      have hTF:=grown_tab hgr hTD (by decide) (by omega)
                      have hBF:=grown_low hBD hgr (by omega) (by omega)
                      clear hGD hRD hCD hWD hTD hBD hgr hs h64
                      obtain⟨vv,hvv⟩:∃ x,x=(⟨va,vb_,vc,vd,ve,vf,vg,vh⟩:Dg.V8):=⟨_,rfl⟩
                      have hGF:Has wr (w.heap.size+1) 159 (wcells 8 (Dg.aF vv u 0)):=by rw[hvv,← aF_zero,← v8_cells];exact hGF0
                      have hXF:Has wr gX 159 (wcells 8 u.at):=by rw[← v8_cells];exact hX
                      have HVV:=Lib.hid hvv
                      clear hvv hX hGF0
                      go_wp2_with fail
                      rename World=>wF
                      go_loopw [14] (fun iv wr=>∃ i:Nat,i≤8∧iv=.int .i64 i∧Has wr (w.heap.size+1) 159 (wcells 8 (Dg.aF vv u i))∧wF.grownBy wr (some (w.heap.size+1))) (fun iv _=>8-(intOf iv).toNat)
                      case atStart=>exact⟨0,Nat.zero_le _,rfl,hGF,grown_refl7 _ _⟩
                      case round=>
                        clear hGF
                        obtain⟨i,hi,rfl,hG,hgr⟩:=hrel
                        by_cases h8:i<8
                        · as_aux_lemma=>
                            have hi8:(i:Int)<8:=by omega
                            have hi0:(0:Int)≤(i:Int):=by omega
                            obtain⟨y,hy⟩:∃ x,x=vv.at i:=⟨_,rfl⟩
                            obtain⟨z,hz⟩:∃ x,x=u.at i:=⟨_,rfl⟩
                            have jG:(wcells 8 (Dg.aF vv u i))[i]? = some (.int .u32 (nb32 y)):=by rw[wcells_at _ h8,aF_here,hy]
                            have jX:(wcells 8 u.at)[i]? = some (.int .u32 (nb32 z)):=by rw[wcells_at _ h8,hz]
                            have HYZ:=Lib.hid (show y+z=vv.at i+u.at i by rw[hy,hz])
                            clear hy hz
                            go_upto_region 31 with fail
                            refine still_tail_drew7 9 rfl (by kernel_rfl) ?_
                            simp only[List.take_succ_cons,List.take_zero,List.drop_succ_cons,List.drop_zero]
                            obtain⟨wn,hwn⟩:∃ x,x=wr.drew:=⟨_,rfl⟩
                            rw[← hwn]
                            replace hG:Has wn (w.heap.size+1) 159 (wcells 8 (Dg.aF vv u i)):=by rw[hwn];exact hG.draw
                            replace hgr:wF.grownBy wn (some (w.heap.size+1)):=by rw[hwn];exact grown_drew7 hgr
                            clear hwn
                            have cG:wn.cell? ⟨w.heap.size+1,i,none⟩=some (.int .u32 (nb32 y)):=hG.cell_at jG
                            have fG:=hG.loose i
                            have cX:wn.cell? ⟨gX,i,none⟩=some (.int .u32 (nb32 z)):=(grown_has hgr hXF (by omega)).cell_at jX
                            refine still_then _ (by
                              repeat still_step
                              exact wpStill_nil rfl) ?_
                            go_wp2_with fail
                            have hG2:=hG.put i (.int .u32 (nb32 (y+z)))
                            rw[aF_step vv u i _ HYZ.out] at hG2
                            go_roundw
                            case rel=>exact⟨i+1,by omega,by go_num,hG2,grown_put7 hgr _ _⟩
                            case measure=>(simp[intOf];try omega)
                        · as_aux_lemma=>
                            have hi8:¬ (i:Int)<8:=by omega
                            have hie:i=8:=by omega
                            subst hie
                            have hR2:=grown_has hgr hRF (by omega)
                            have hC2:=grown_has hgr hCF (by omega)
                            have hT2:=grown_tab hgr hTF (by decide) (by have:=HKS.out;omega)
                            have hB2:=grown_low hBF hgr (by omega) hBF.size
                            rw[aF_end,← v8_cells] at hG
                            clear hRF hCF hTF hBF hXF hgr hi
                            have HRUN:=Lib.hid (show Dg.add8 vv u=Dg.run L (k+1) by
                              show _=Dg.take8 L k (Dg.run L k)
                              unfold Dg.take8
                              rw[← HA.out.2.2,HU.out,HSS.out,Hm.out,HVV.out])
                            rw[HRUN.out] at hG
                            have hnx:(at_:Int)+64=((64*(k+1):Nat):Int):=by have:=HA.out.1;omega
                            have HNX:=Lib.hid hnx
                            clear hnx
                            go_wp2_with fail
                            go_roundw
                            case rel=>exact⟨k+1,by have:=HM.out;have:=HA.out.1;omega,by have:=HNX.out;have:=HA.out.1;go_num,hG,hR2,hC2,hT2,hB2⟩
                            case measure=>(simp[intOf];try omega)
            · have HKN:=Lib.hid (show k=N by have:=HM.out;have:=HA.out.1;have:=HA.out.2.1;omega)
              have hlei:¬ (at_:Int)+64≤(M:Int):=by omega
              have hG8:Has wr (w.heap.size+1) 159 (wcells 8 v.at):=by rw[← v8_cells];exact hG
              have HVR:=Lib.hid (show Dg.out v=Dg.sum l by
                unfold Dg.sum
                rw[HA.out.2.2,HLd.out,HKN.out,HM.out.2.2,HM.out.1])
              clear hG hC hTb hat64 hle
              go_upto_region 33 with fail
              obtain⟨gO,hgO⟩:∃ g,g=wr.heap.size:=⟨_,rfl⟩
              obtain⟨wO,hwO⟩:∃ x,x=wr.alloc (.cells z32 46):=⟨_,rfl⟩
              rw[← hwO,← hgO]
              have hO0:Has wO gO 46 (bcells 32 (Dg.oF v 0)):=by rw[hwO,hgO,← oF_zero v];exact Has.fresh _ _ _
              have hRO:Has wO w.heap.size 46 z32:=by rw[hwO];exact hR.past _
              have hGO:Has wO (w.heap.size+1) 159 (wcells 8 v.at):=by rw[hwO];exact hG8.past _
              have hBO:Below w.heap.size w wO:=by rw[hwO];exact hB.alloc hB.size _
              have hgO1:w.heap.size+1<gO:=by have:=hG8.lt;omega
              clear hR hG8 hB hwO hgO
              go_wp2_with fail
              go_loopw [16] (fun iv wr=>∃ i:Nat,i≤32∧iv=.int .i64 i∧Has wr gO 46 (bcells 32 (Dg.oF v i))∧wO.grownBy wr (some gO)) (fun iv _=>32-(intOf iv).toNat)
              case atStart=>exact⟨0,Nat.zero_le _,rfl,hO0,grown_refl7 _ _⟩
              case round=>
                clear hO0
                obtain⟨i,hi,rfl,hO,hgr⟩:=hrel
                by_cases h32:i<32
                · as_aux_lemma=>
                    have hi32:(i:Int)<32:=by omega
                    have hi0:(0:Int)≤(i:Int):=by omega
                    obtain⟨d,hd⟩:∃ d,d=i / 4:=⟨_,rfl⟩
                    obtain⟨r4,hr4⟩:∃ r,r=i%4:=⟨_,rfl⟩
                    have hdi:(i:Int).tdiv 4=(d:Int):=by rw[hd];rfl
                    have hdi2:(i:Int) / 4=(d:Int):=by omega
                    have hri:(i:Int).tmod 4=(r4:Int):=by rw[hr4];rfl
                    have hri2:(i:Int)%4=(r4:Int):=by omega
                    have hd8:(d:Int)<8:=by omega
                    have hd0:(0:Int)≤(d:Int):=by omega
                    have h8:d<8:=by omega
                    obtain⟨e8,he8⟩:∃ e,e=8*r4:=⟨_,rfl⟩
                    have he8i:(8:Int)*(r4:Int)=(e8:Int):=by omega
                    have he8w:IntKind.i64.wrap (e8:Int)=(e8:Int):=IntWalk.i64_in _ (by omega)
                    obtain⟨sh,hsh⟩:∃ e,e=24-e8:=⟨_,rfl⟩
                    have hshi:(24:Int)-(e8:Int)=(sh:Int):=by omega
                    have hshw:IntKind.i64.wrap (sh:Int)=(sh:Int):=IntWalk.i64_in _ (by omega)
                    have hshu:IntKind.u64.wrap (sh:Int)=(sh:Int):=by rw[IntKind.wrap_u64];omega
                    have hsh0:(0:Int)≤(sh:Int):=by omega
                    obtain⟨y,hy⟩:∃ y,y=v.at d:=⟨_,rfl⟩
                    have cH:wr.cell? ⟨w.heap.size+1,d,none⟩=some (.int .u32 (nb32 y)):=by rw[hy];exact(grown_has hgr hGO (by omega)).cell_at (wcells_at _ h8)
                    have cO:=hO.cell_at (bcells_at (Dg.oF v i) h32)
                    have fO:=hO.loose i
                    have HY:=Lib.hid (show(y>>>sh).setWidth 8=Dg.ob v i by
                      unfold Dg.ob
                      rw[hy,hd,hsh,he8,hr4])
                    clear hd hr4 he8 hsh hy
                    go_upto_region 35 with fail
                    have hO2:=hO.put i (.int .u8 (nb8 ((y>>>sh).setWidth 8)))
                    rw[oF_step v i _ HY.out] at hO2
                    go_wp2_with fail
                    go_roundw
                    case rel=>exact⟨i+1,by omega,by go_num,hO2,grown_put7 hgr _ _⟩
                    case measure=>(simp[intOf];try omega)
                · as_aux_lemma=>
                    have hie:i=32:=by omega
                    subst hie
                    have hi32:¬ (32:Int)<32:=by omega
                    rw[oF_end,HVR.out] at hO
                    have hR2:=grown_has hgr hRO (by omega)
                    have hB2:=grown_low hBO hgr (by omega) hBO.size
                    have hx:=Has.load_bytes (P:=Tryz.prog) Tryz.underlying46 (by kernel_rfl) (Dg.sum_len l) hO
                    have hth:=hR2.there 0 (blist (Dg.sum l)).toArray.size (by rw[List.size_toArray,blist_length,Dg.sum_len];decide)
                    have hsz:=size_hash' (Dg.sum_len l)
                    have hone:=one_hash (Dg.sum l)
                    have HT:=Lib.hid (And.intro hth (And.intro hsz hone))
                    clear hth hsz hone hgr hRO hGO hBO
                    go_wp2_with (first
                      | (refine wpList_store_mid rfl 46 (.tmp 2) (.tmp 274) rfl w.heap.size 0 (blist (Dg.sum l)).toArray rfl rfl HT.out.1 HT.out.2.1 HT.out.2.2 ?_)
                      | (refine wpList_load_run rfl 46 (.tmp 15) rfl _ _ rfl hx ?_))
                    have hE:=hR2.whole (l:=Dg.sum l) (by rw[Dg.sum_len];rfl)
                    have hS:=size_hash (Dg.sum_len l)
                    exact bodyPost_ret (results_one_cell rfl _ _ w.heap.size rfl _ (run_loadVar_mid _ _ 0 46 _ _ hE.range Tryz.underlying46 rfl hS)) rfl ⟨rfl,below_setAll (Nat.le_refl _) _ 0 hB2⟩
        · as_aux_lemma=>
            have hi1:((e+1:Nat):Int)-1=(e:Int):=by omega
            rw[hi1]
            have he0:(0:Int)≤(e:Int):=by omega
            have he7:e≤7:=by omega
            obtain⟨q,hq⟩:∃ q,q=8*e:=⟨_,rfl⟩
            have hq8:(8:Int)*(e:Int)=(q:Int):=by omega
            have hqw:IntKind.i64.wrap (q:Int)=(q:Int):=IntWalk.i64_in _ (by omega)
            have hqu:IntKind.u64.wrap (q:Int)=(q:Int):=by rw[IntKind.wrap_u64];omega
            have hq0:(0:Int)≤(q:Int):=by omega
            have HB:=Lib.hid (Dg.be_at n e he7 X q HX.out hq)
            have HR:=Lib.hid (Dg.range_be n e he7)
            have hle:(P++(List.range (8-(e+1))).map (Dg.be (n*8))).length+1≤1099511627776:=by have:=HK.out;have:=HZ.out;have:=HJ.out;simp;omega
            clear hq hi1
            go_wp2_with (first
              | (at_builtin;refine wpList_append_lit rfl (.tmp 38) (.tmp 45) 130 rfl 5 Tryz.underlying130 info_byte w0.heap.size _ _ rfl ho 1 [(X>>>q).setWidth 8] rfl #[.int .u8 (nb8 ((X>>>q).setWidth 8))] rfl rfl hle hb.size ?_;intro v2 w2 h2 h3))
            go_roundw
            case rel=>exact⟨e,by omega,rfl,by rw[HR.out,← List.append_assoc,HB.out];exact h2,below_lit7 hb ho h3⟩
            case measure=>(simp[intOf];try omega)
    · as_aux_lemma=>
        have hne:((r:Int)==56)=false:=by simpa using(show ¬ ((r:Int)=56) by omega)
        have hne2:¬ ((r:Int)=56):=by omega
        have H56:=Lib.hid h56
        clear h56
        go_wp2_with (first
          | (at_builtin;refine wpList_append_lit rfl (.tmp 27) (.tmp 28) 130 rfl 5 Tryz.underlying130 info_byte w0.heap.size _ (l++[128#8]++List.replicate j 0#8) rfl ho' 1 [0#8] rfl #[.int .u8 0] rfl rfl (by have:=HK.out;have:=HZ.out;have:=HJ.out;omega) hb.size ?_;intro v2 w2 h2 h3))
        have hl2:(l++[128#8]++List.replicate j 0#8++[0#8]).length=K+1:=by rw[List.length_append,HK.out];rfl
        have h2':=h2
        obtain⟨a2,c2,rfl,_,_,_⟩:=h2.shape hl2
        go_roundw
        case rel=>exact⟨j+1,by have:=HJ.out;have:=HZ.out;have:=H56.out;omega,by rw[List.replicate_succ',← List.append_assoc];exact h2',below_lit7 hb ho' h3⟩
        case measure=>
          have:=HZ.out;have:=HJ.out
          simp only[sliceLen]
          omega
end Go.Proofs.YtijemcfnlbapjaaGreatDoor
