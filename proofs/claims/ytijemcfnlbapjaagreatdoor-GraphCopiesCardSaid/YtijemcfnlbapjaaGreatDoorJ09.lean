/- the reference's put (mktxt.py) · the reference's Bytes, Base, Weight -/
import Derived.Test.YtijemcfnlbapjaaGreatDoorJ08
import Derived.Test.YtijemcfnlbapjaaGreatDoorJ01
namespace Go.Proofs.YtijemcfnlbapjaaGreatDoor
open Go Go.RowKit Go.ChangeShapes Go.WideShapes
theorem Tx.take_snoc {α:Type} {l:List α} {i:Nat} {x:α} (h:l[i]? = some x):l.take (i+1)=l.take i++[x]:=by
  obtain⟨h2,h3⟩:=List.getElem?_eq_some_iff.1 h
  rw[List.take_succ_eq_append_getElem h2,h3]
theorem bytes_lit (w:World) (y:BitVec 8):Bytes8 (w.alloc (.cells #[.int .u8 (nb8 y)] 5)) (some ⟨w.heap.size,0,none⟩) 1 [y]:=by
  refine⟨rfl,by unfold maxLen;omega,fun i hi=>⟨_,rfl,?_⟩⟩
  obtain rfl:i=0:=by omega
  exact(Has.fresh w _ _).cell_at rfl
set_option maxRecDepth 100000 in
set_option maxHeartbeats 16000000 in
theorem rput_true (a:Option Addr) (n q:Nat) (b:Option Addr) (m r:Nat) (t:Tx.T) (w:World) (ht:TxAt w a n q b m r t) (hs:Tx.Small t) :
    Calls Tryz.prog 100 #[txv a n q b m r t.firm,.bool true] w (BytesPost8 5 w.heap.size (Tx.enc true t) w):=by
  obtain⟨f,hf⟩:∃ f,f=t.firm:=⟨_,rfl⟩
  rw[← hf]
  obtain⟨W1,hW1⟩:∃ x,x=w.alloc (.cells #[.slice a n q,.slice b m r,.bool f] 34):=⟨_,rfl⟩
  have hBw:Below w.heap.size w W1:=by rw[hW1];exact(Below.refl _ w).alloc (Nat.le_refl _) _
  have hX:Has W1 w.heap.size 34 #[.slice a n q,.slice b m r,.bool f]:=by rw[hW1];exact Has.fresh w _ _
  have HT:=Lib.hid (ht.below hBw)
  have HF:=Lib.hid hf
  have HSM:=Lib.hid hs
  have hn30:n≤30:=by have e:t.sp.length=n:=ht.sp.1;rw[← e];exact hs.1
  have hm30:m≤30:=by have e:t.co.length=m:=ht.co.1;rw[← e];exact hs.2.1
  have HW:=Lib.hid hW1
  clear hW1 hf ht hs
  go_enter Tryz.func100,Tryz.ntmps100
  go_upto_region 1 with fail
  rw[← HW.out]
  obtain⟨g1,hg1⟩:∃ g,g=w.heap.size:=⟨_,rfl⟩
  rw[← hg1] at hX ⊢
  have HG:=Lib.hid hg1
  clear hg1
  have c10:W1.cell? ⟨g1,0,none⟩=some (.slice a n q):=hX.cell_at rfl
  go_upto_region 2 with(go_at_call 120;refine(rcount_any n W1).mono ?_;rintro e w2 ⟨v2,rfl,ho2,hb2⟩)
  clear c10
  have hcl:=Pk.count_le (n:Int)
  go_wp2
  go_loopw [5,6] (fun sv iv wr=>∃ i:Nat,i≤n∧iv=.int .i64 i∧OwnB 5 W1.heap.size wr sv (Pk.count n++(t.sp.take i).flatMap (Tx.encSp true))∧RowKit.Hid ((Pk.count n++(t.sp.take i).flatMap (Tx.encSp true)).length≤9+5100*i)∧Below W1.heap.size W1 wr) (fun _ iv _=>n-(intOf iv).toNat)
  case atStart=>exact⟨0,Nat.zero_le _,rfl,by simpa using ho2,Lib.hid (by simpa using hcl),hb2⟩
  case round=>
    clear ho2 hb2 hcl
    obtain⟨i,hi,rfl,ho,HLN,hb⟩:=hrel
    have c10:wr.cell? ⟨g1,0,none⟩=some (.slice a n q):=(hX.under hb hX.lt).cell_at rfl
    by_cases hlt:i<n
    · have hii:(i:Int)<(n:Int):=by omega
      have hi0:(0:Int)≤(i:Int):=by omega
      obtain⟨s,hs⟩:=HT.out.sp.get hlt
      obtain⟨x,hax,_⟩:=HT.out.sp.2.2.2 i s hs
      subst hax
      have hok:=HT.out.sp.okay hs
      have hy:=spends_at (HT.out.sp.below hb) hs
      have HOK:=Lib.hid hok
      have HS:=Lib.hid hs
      have HK5:=Lib.hid (HSM.out.2.2 s (List.mem_of_getElem? hs))
      clear hok hs
      go_upto_region 6 with(first
        | (refine wpList_store_mid rfl 61 (.tmp 7) (.tmp 24) rfl wr.heap.size 0 (spCells s).toArray rfl rfl (spRec.there _ _ rfl HOK.out) (spRec.size_eq size_spend HOK.out) (spRec.all_one s) ?_)
        | (refine wpList_load_run rfl 61 (.tmp 23) rfl _ _ rfl hy ?_))
      obtain⟨w5,hw5⟩:∃ x,x=(wr.alloc (.cells zSp 61)).setCells wr.heap.size 0 (spCells s):=⟨_,rfl⟩
      obtain⟨hG,hb5⟩:=Rec.new (R:=spRec) rfl HOK.out hw5
      rw[← hw5]
      clear hw5 hy c10
      obtain⟨g7,hg7⟩:∃ g,g=wr.heap.size:=⟨_,rfl⟩
      rw[← hg7] at hG ⊢
      clear hg7
      replace ho:=ho.below hb5
      replace hb:=hb.trans (hb5.mono hb.size)
      clear hb5
      obtain⟨l0,hl0⟩:∃ l,l=Pk.count n++(t.sp.take i).flatMap (Tx.encSp true):=⟨_,rfl⟩
      rw[← hl0] at ho HLN
      have HL0:=Lib.hid hl0
      clear hl0
      have lH:=Has.spHash hG HOK.out.1
      have HLK:=Lib.hid (show(s.h).length=32∧True from⟨HOK.out.1,trivial⟩)
      go_upto_region 7 with(first
        | (at_builtin;refine wpList_append_bytes rfl (.tmp 25) (.tmp 29) 130 rfl 5 Tryz.underlying130 info_byte W1.heap.size _ (l0) rfl (ho.below hbc) xa 32 xc (s.h) rfl hby hx0 (by have:=HLN.out;have:=HLK.out;(try simp only[List.length_append]);omega) (by have:=hbc.size;have:=hb.size;omega) ?_;intro va wna ho2 hgr)
        | (go_at_call 121;refine(rhash_any s.h HOK.out.1 _).mono ?_;rintro e wc ⟨vc,rfl,hoc,hbc⟩;obtain⟨xa,xc,rfl,hxc,hx0,hby⟩:=hoc.shape HLK.out.1)
        | (refine wpList_load_run rfl 46 (.tmp 27) rfl _ _ rfl lH ?_))
      have hbn:=below_own_rowb (hb.trans (hbc.mono hb.size)) hgr ho.lt
      replace hG:=(hG.under hbc hG.lt).moved (Moved.of_grown (F:=fun k=>_=some k) hgr (fun k e=>e)) (fun e=>(ho.below hbc).apart (hG.under hbc hG.lt) (by decide) _ e rfl)
      replace hb:=hbn
      replace ho:=ho2
      clear ho2 hgr hbn hbc hoc hby hx0 hxc
      clear lH
      have c32:=Has.spN hG HOK.out.1
      have hw32:=int_to_u64 s.n
      have HLK:=Lib.hid (show(Pk.num (BitVec.ofInt 64 s.n) 4).length=4∧s.h.length=32 from⟨rfl,HOK.out.1⟩)
      go_upto_region 8 with(first
        | (at_builtin;refine wpList_append_bytes rfl (.tmp 31) (.tmp 36) 130 rfl 5 Tryz.underlying130 info_byte W1.heap.size _ (l0++s.h) rfl (ho.below hbc) xa 4 xc (Pk.num (BitVec.ofInt 64 s.n) 4) rfl hby hx0 (by have:=HLN.out;have:=HLK.out;(try simp only[List.length_append]);omega) (by have:=hbc.size;have:=hb.size;omega) ?_;intro vb wnb ho2 hgr)
        | (go_at_call 122;refine(rnum8_any (BitVec.ofInt 64 s.n) 4 _).mono ?_;rintro e wc ⟨vc,rfl,hoc,hbc⟩;obtain⟨xa,xc,rfl,hxc,hx0,hby⟩:=hoc.shape HLK.out.1))
      have hbn:=below_own_rowb (hb.trans (hbc.mono hb.size)) hgr ho.lt
      replace hG:=(hG.under hbc hG.lt).moved (Moved.of_grown (F:=fun k=>_=some k) hgr (fun k e=>e)) (fun e=>(ho.below hbc).apart (hG.under hbc hG.lt) (by decide) _ e rfl)
      replace hb:=hbn
      replace ho:=ho2
      clear ho2 hgr hbn hbc hoc hby hx0 hxc
      clear c32 hw32
      have c33:=Has.spKey hG HOK.out.1
      obtain⟨kt,hkt⟩:∃ k,k=(Pk.text s.key).length:=⟨_,rfl⟩
      have hkt2:kt≤5009:=by rw[hkt];unfold Pk.text;rw[List.length_append];have:=Pk.count_le (s.key.length:Int);have:=HK5.out;omega
      have HKT:=Lib.hid hkt
      clear hkt
      have HLK:=Lib.hid (show(Pk.text s.key).length=kt∧s.h.length=32∧(Pk.num (BitVec.ofInt 64 s.n) 4).length=4 from⟨HKT.out.symm,HOK.out.1,rfl⟩)
      go_upto_region 10 with(first
        | (at_builtin;refine wpList_append_bytes rfl (.tmp 39) (.tmp 42) 130 rfl 5 Tryz.underlying130 info_byte W1.heap.size _ (l0++s.h++Pk.num (BitVec.ofInt 64 s.n) 4) rfl (ho.below hbc) xa kt xc (Pk.text s.key) rfl hby hx0 (by have:=HLN.out;have:=HLK.out;(try simp only[List.length_append]);omega) (by have:=hbc.size;have:=hb.size;omega) ?_;intro vc wnc ho2 hgr)
        | (go_at_call 123;refine(rtext_any s.key (by have:=HK5.out;omega) _).mono ?_;rintro e wc ⟨vc,rfl,hoc,hbc⟩;obtain⟨xa,xc,rfl,hxc,hx0,hby⟩:=hoc.shape HLK.out.1))
      have hbn:=below_own_rowb (hb.trans (hbc.mono hb.size)) hgr ho.lt
      replace hG:=(hG.under hbc hG.lt).moved (Moved.of_grown (F:=fun k=>_=some k) hgr (fun k e=>e)) (fun e=>(ho.below hbc).apart (hG.under hbc hG.lt) (by decide) _ e rfl)
      replace hb:=hbn
      replace ho:=ho2
      clear ho2 hgr hbn hbc hoc hby hx0 hxc
      clear c33
      have c34:=Has.spSeal hG HOK.out.1
      have HLK:=Lib.hid (show(Pk.num s.sl 8).length=8∧s.h.length=32∧(Pk.num (BitVec.ofInt 64 s.n) 4).length=4∧(Pk.text s.key).length=kt from⟨rfl,HOK.out.1,rfl,HKT.out.symm⟩)
      go_upto_region 4 with(first
        | (at_builtin;refine wpList_append_bytes rfl (.tmp 44) (.tmp 47) 130 rfl 5 Tryz.underlying130 info_byte W1.heap.size _ (l0++s.h++Pk.num (BitVec.ofInt 64 s.n) 4++Pk.text s.key) rfl (ho.below hbc) xa 8 xc (Pk.num s.sl 8) rfl hby hx0 (by have:=HLN.out;have:=HLK.out;(try simp only[List.length_append]);omega) (by have:=hbc.size;have:=hb.size;omega) ?_;intro vd wnd ho2 hgr)
        | (go_at_call 122;refine(rnum8_any s.sl 8 _).mono ?_;rintro e wc ⟨vc,rfl,hoc,hbc⟩;obtain⟨xa,xc,rfl,hxc,hx0,hby⟩:=hoc.shape HLK.out.1))
      have hbn:=below_own_rowb (hb.trans (hbc.mono hb.size)) hgr ho.lt
      replace hb:=hbn
      replace ho:=ho2
      clear ho2 hgr hbn hbc hoc hby hx0 hxc
      clear c34
      have hE:Pk.count n++(t.sp.take (i+1)).flatMap (Tx.encSp true)=l0++s.h++Pk.num (BitVec.ofInt 64 s.n) 4++Pk.text s.key++Pk.num s.sl 8:=by
        rw[Tx.take_snoc HS.out,List.flatMap_append,← List.append_assoc,← HL0.out,List.flatMap_singleton]
        simp[Tx.encSp,Pk.num,Pk.okSize]
      have HLN2:=Lib.hid (show(Pk.count n++(t.sp.take (i+1)).flatMap (Tx.encSp true)).length≤9+5100*(i+1) by
        rw[hE]
        have e1:=HLN.out
        have e2:=HLK.out
        simp only[List.length_append]
        omega)
      rw[← hE] at ho
      clear hE HLN HLK
      go_wp2
      go_roundw
      case rel=>exact⟨i+1,by omega,by go_num,ho,HLN2,hb⟩
      case measure=>(simp[intOf];try omega)
    · have hii:¬ (i:Int)<(n:Int):=by omega
      have hin:i=n:=by omega
      have htk:t.sp.take i=t.sp:=List.take_of_length_le (by have e:t.sp.length=n:=HT.out.sp.1;omega)
      rw[htk] at ho HLN
      clear htk hin
      obtain⟨l0,hl0⟩:∃ l,l=Pk.count n++t.sp.flatMap (Tx.encSp true):=⟨_,rfl⟩
      rw[← hl0] at ho HLN
      have HL0:=Lib.hid hl0
      clear hl0
      have c11:wr.cell? ⟨g1,1,none⟩=some (.slice b m r):=(hX.under hb hX.lt).cell_at rfl
      obtain⟨kt,hkt⟩:∃ k,k=(Pk.count m).length:=⟨_,rfl⟩
      have hkt2:kt≤9:=by rw[hkt];exact Pk.count_le _
      have HKT:=Lib.hid hkt
      clear hkt
      have HLK:=Lib.hid (show(Pk.count m).length=kt∧True from⟨HKT.out.symm,trivial⟩)
      go_upto_region 12 with(first
        | (at_builtin;refine wpList_append_bytes rfl (.tmp 49) (.tmp 53) 130 rfl 5 Tryz.underlying130 info_byte W1.heap.size _ (l0) rfl (ho.below hbc) xa kt xc (Pk.count m) rfl hby hx0 (by have:=HLN.out;have:=HLK.out;(try simp only[List.length_append]);omega) (by have:=hbc.size;have:=hb.size;omega) ?_;intro va wna ho2 hgr)
        | (go_at_call 120;refine(rcount_any m _).mono ?_;rintro e wc ⟨vc,rfl,hoc,hbc⟩;obtain⟨xa,xc,rfl,hxc,hx0,hby⟩:=hoc.shape HLK.out.1))
      have hbn:=below_own_rowb (hb.trans (hbc.mono hb.size)) hgr ho.lt
      replace hb:=hbn
      replace ho:=ho2
      clear ho2 hgr hbn hbc hoc hby hx0 hxc
      clear c11 c10
      have HLC:=Lib.hid (show(l0++Pk.count m).length≤160000 by rw[List.length_append];have:=HLN.out;have:=HLK.out;omega)
      obtain⟨l1,hl1⟩:∃ l,l=l0++Pk.count m:=⟨_,rfl⟩
      rw[← hl1] at ho HLC
      have HL1:=Lib.hid hl1
      clear hl1 HLN HLK
      go_wp2
      go_loopw [5,8] (fun sv iv wr=>∃ i:Nat,i≤m∧iv=.int .i64 i∧OwnB 5 W1.heap.size wr sv (l1++(t.co.take i).flatMap Tx.encCo)∧RowKit.Hid ((l1++(t.co.take i).flatMap Tx.encCo).length≤160000+16*i)∧Below W1.heap.size W1 wr) (fun _ iv _=>m-(intOf iv).toNat)
      case atStart=>exact⟨0,Nat.zero_le _,rfl,by simpa using ho,Lib.hid (by simpa using HLC.out),hb⟩
      case round=>
        clear ho hb
        obtain⟨j,hj,rfl,ho,HLN,hb⟩:=hrel
        by_cases hlj:j<m
        · have hji:(j:Int)<(m:Int):=by omega
          have hj0:(0:Int)≤(j:Int):=by omega
          obtain⟨c,hc⟩:=HT.out.co.get hlj
          obtain⟨x,hax,_⟩:=HT.out.co.2.2.2 j c hc
          subst hax
          have HC:=Lib.hid hc
          clear hc
          obtain⟨l2,hl2⟩:∃ l,l=l1++(t.co.take j).flatMap Tx.encCo:=⟨_,rfl⟩
          rw[← hl2] at ho HLN
          have HL2:=Lib.hid hl2
          clear hl2
          have c11:wr.cell? ⟨g1,1,none⟩=some (.slice (some x) m r):=(hX.under hb hX.lt).cell_at rfl
          have d0:wr.cell? (x.add (j*2))=some (.int .i64 c.v):=(HT.out.co.below hb).field (R:=coRec) (j:=0) HC.out rfl
          have hwv:=int_to_u64 c.v
          have HLK:=Lib.hid (show(Pk.num (BitVec.ofInt 64 c.v) 8).length=8∧True from⟨rfl,trivial⟩)
          go_upto_region 16 with(first
            | (at_builtin;refine wpList_append_bytes rfl (.tmp 62) (.tmp 70) 130 rfl 5 Tryz.underlying130 info_byte W1.heap.size _ (l2) rfl (ho.below hbc) xa 8 xc (Pk.num (BitVec.ofInt 64 c.v) 8) rfl hby hx0 (by have:=HLN.out;have:=HLK.out;(try simp only[List.length_append]);omega) (by have:=hbc.size;have:=hb.size;omega) ?_;intro vb wnb ho2 hgr)
            | (go_at_call 122;refine(rnum8_any (BitVec.ofInt 64 c.v) 8 _).mono ?_;rintro e wc ⟨vc,rfl,hoc,hbc⟩;obtain⟨xa,xc,rfl,hxc,hx0,hby⟩:=hoc.shape HLK.out.1))
          have hbn:=below_own_rowb (hb.trans (hbc.mono hb.size)) hgr ho.lt
          replace hb:=hbn
          replace ho:=ho2
          clear ho2 hgr hbn hbc hoc hby hx0 hxc
          clear c11 d0 hwv
          have c11:wnb.cell? ⟨g1,1,none⟩=some (.slice (some x) m r):=(hX.under hb hX.lt).cell_at rfl
          have d1:wnb.cell? ⟨(x.add (j*2)).block,(x.add (j*2)).off+1,none⟩=some (.int .u64 (nb64 c.lock)):=(HT.out.co.below hb).fieldS (R:=coRec) (j:=0) HC.out rfl
          have HLK:=Lib.hid (show(Pk.num c.lock 8).length=8∧(Pk.num (BitVec.ofInt 64 c.v) 8).length=8 from⟨rfl,rfl⟩)
          go_upto_region 14 with(first
            | (at_builtin;refine wpList_append_bytes rfl (.tmp 72) (.tmp 79) 130 rfl 5 Tryz.underlying130 info_byte W1.heap.size _ (l2++Pk.num (BitVec.ofInt 64 c.v) 8) rfl (ho.below hbc) xa 8 xc (Pk.num c.lock 8) rfl hby hx0 (by have:=HLN.out;have:=HLK.out;(try simp only[List.length_append]);omega) (by have:=hbc.size;have:=hb.size;omega) ?_;intro vc wnc ho2 hgr)
            | (go_at_call 122;refine(rnum8_any c.lock 8 _).mono ?_;rintro e wc ⟨vc,rfl,hoc,hbc⟩;obtain⟨xa,xc,rfl,hxc,hx0,hby⟩:=hoc.shape HLK.out.1))
          have hbn:=below_own_rowb (hb.trans (hbc.mono hb.size)) hgr ho.lt
          replace hb:=hbn
          replace ho:=ho2
          clear ho2 hgr hbn hbc hoc hby hx0 hxc
          clear c11 d1
          have hE:l1++(t.co.take (j+1)).flatMap Tx.encCo=l2++Pk.num (BitVec.ofInt 64 c.v) 8++Pk.num c.lock 8:=by
            rw[Tx.take_snoc HC.out,List.flatMap_append,← List.append_assoc,← HL2.out,List.flatMap_singleton]
            simp[Tx.encCo,Pk.num,Pk.okSize]
          have HLN2:=Lib.hid (show(l1++(t.co.take (j+1)).flatMap Tx.encCo).length≤160000+16*(j+1) by
            rw[hE]
            have e1:=HLN.out
            have e2:=HLK.out
            simp only[List.length_append]
            omega)
          rw[← hE] at ho
          clear hE HLN HLK
          go_wp2
          go_roundw
          case rel=>exact⟨j+1,by omega,by go_num,ho,HLN2,hb⟩
          case measure=>(simp[intOf];try omega)
        · have hji:¬ (j:Int)<(m:Int):=by omega
          have htk:t.co.take j=t.co:=List.take_of_length_le (by have e:t.co.length=m:=HT.out.co.1;omega)
          rw[htk] at ho HLN
          clear htk
          have c11:wr.cell? ⟨g1,1,none⟩=some (.slice b m r):=(hX.under hb hX.lt).cell_at rfl
          have c12:wr.cell? ⟨g1,2,none⟩=some (.bool f):=(hX.under hb hX.lt).cell_at rfl
          obtain⟨l3,hl3⟩:∃ l,l=l1++t.co.flatMap Tx.encCo:=⟨_,rfl⟩
          rw[← hl3] at ho HLN
          have hL:∀ y,l3++[y]=Pk.count t.sp.length++t.sp.flatMap (Tx.encSp true)++Pk.count t.co.length++t.co.flatMap Tx.encCo++[y]:=fun y=>by
            rw[hl3,HL1.out,HL0.out,show t.sp.length=n from HT.out.sp.1,show t.co.length=m from HT.out.co.1]
          have HL:=Lib.hid hL
          clear hl3 hL
          have hlo:w.heap.size≤W1.heap.size:=hBw.size
          cases f
          · have HE:=Lib.hid (show l3++[0#8]=Tx.enc true t by rw[HL.out,Tx.enc,← HF.out];rfl)
            have hlit:Bytes8 (wr.alloc (.cells #[.int .u8 0] 5)) (some ⟨wr.heap.size,0,none⟩) 1 [0#8]:=bytes_lit wr 0#8
            go_wp2_with (first
              | (at_builtin;refine wpList_append_bytes rfl (.tmp 86) (.tmp 87) 130 rfl 5 Tryz.underlying130 info_byte W1.heap.size _ l3 rfl (ho.below ((Below.refl _ _).alloc (Nat.le_refl _) _)) (some ⟨wr.heap.size,0,none⟩) 1 1 [0#8] rfl hlit (fun e=>by cases e) (by have:=HLN.out;omega) (by have:=hb.size;simp;omega) ?_;intro vE wE ho2 hgr))
            have hbn:=below_own_rowb (hb.alloc hb.size _) hgr ho.lt
            rw[HE.out] at ho2
            go_ret
            exact⟨vE,rfl,ho2.low hlo,hBw.trans (hbn.mono hBw.size)⟩
          · have HE:=Lib.hid (show l3++[1#8]=Tx.enc true t by rw[HL.out,Tx.enc,← HF.out];rfl)
            have hlit:Bytes8 (wr.alloc (.cells #[.int .u8 1] 5)) (some ⟨wr.heap.size,0,none⟩) 1 [1#8]:=bytes_lit wr 1#8
            go_wp2_with (first
              | (at_builtin;refine wpList_append_bytes rfl (.tmp 83) (.tmp 84) 130 rfl 5 Tryz.underlying130 info_byte W1.heap.size _ l3 rfl (ho.below ((Below.refl _ _).alloc (Nat.le_refl _) _)) (some ⟨wr.heap.size,0,none⟩) 1 1 [1#8] rfl hlit (fun e=>by cases e) (by have:=HLN.out;omega) (by have:=hb.size;simp;omega) ?_;intro vE wE ho2 hgr))
            have hbn:=below_own_rowb (hb.alloc hb.size _) hgr ho.lt
            rw[HE.out] at ho2
            go_ret
            exact⟨vE,rfl,ho2.low hlo,hBw.trans (hbn.mono hBw.size)⟩
set_option maxRecDepth 100000 in
set_option maxHeartbeats 16000000 in
theorem rput_false (a:Option Addr) (n q:Nat) (b:Option Addr) (m r:Nat) (t:Tx.T) (w:World) (ht:TxAt w a n q b m r t) (hs:Tx.Small t) :
    Calls Tryz.prog 100 #[txv a n q b m r t.firm,.bool false] w (BytesPost8 5 w.heap.size (Tx.enc false t) w):=by
  obtain⟨f,hf⟩:∃ f,f=t.firm:=⟨_,rfl⟩
  rw[← hf]
  obtain⟨W1,hW1⟩:∃ x,x=w.alloc (.cells #[.slice a n q,.slice b m r,.bool f] 34):=⟨_,rfl⟩
  have hBw:Below w.heap.size w W1:=by rw[hW1];exact(Below.refl _ w).alloc (Nat.le_refl _) _
  have hX:Has W1 w.heap.size 34 #[.slice a n q,.slice b m r,.bool f]:=by rw[hW1];exact Has.fresh w _ _
  have HT:=Lib.hid (ht.below hBw)
  have HF:=Lib.hid hf
  have HSM:=Lib.hid hs
  have hn30:n≤30:=by have e:t.sp.length=n:=ht.sp.1;rw[← e];exact hs.1
  have hm30:m≤30:=by have e:t.co.length=m:=ht.co.1;rw[← e];exact hs.2.1
  have HW:=Lib.hid hW1
  clear hW1 hf ht hs
  go_enter Tryz.func100,Tryz.ntmps100
  go_upto_region 1 with fail
  rw[← HW.out]
  obtain⟨g1,hg1⟩:∃ g,g=w.heap.size:=⟨_,rfl⟩
  rw[← hg1] at hX ⊢
  have HG:=Lib.hid hg1
  clear hg1
  have c10:W1.cell? ⟨g1,0,none⟩=some (.slice a n q):=hX.cell_at rfl
  go_upto_region 2 with(go_at_call 120;refine(rcount_any n W1).mono ?_;rintro e w2 ⟨v2,rfl,ho2,hb2⟩)
  clear c10
  have hcl:=Pk.count_le (n:Int)
  go_wp2
  go_loopw [5,6] (fun sv iv wr=>∃ i:Nat,i≤n∧iv=.int .i64 i∧OwnB 5 W1.heap.size wr sv (Pk.count n++(t.sp.take i).flatMap (Tx.encSp false))∧RowKit.Hid ((Pk.count n++(t.sp.take i).flatMap (Tx.encSp false)).length≤9+5100*i)∧Below W1.heap.size W1 wr) (fun _ iv _=>n-(intOf iv).toNat)
  case atStart=>exact⟨0,Nat.zero_le _,rfl,by simpa using ho2,Lib.hid (by simpa using hcl),hb2⟩
  case round=>
    clear ho2 hb2 hcl
    obtain⟨i,hi,rfl,ho,HLN,hb⟩:=hrel
    have c10:wr.cell? ⟨g1,0,none⟩=some (.slice a n q):=(hX.under hb hX.lt).cell_at rfl
    by_cases hlt:i<n
    · have hii:(i:Int)<(n:Int):=by omega
      have hi0:(0:Int)≤(i:Int):=by omega
      obtain⟨s,hs⟩:=HT.out.sp.get hlt
      obtain⟨x,hax,_⟩:=HT.out.sp.2.2.2 i s hs
      subst hax
      have hok:=HT.out.sp.okay hs
      have hy:=spends_at (HT.out.sp.below hb) hs
      have HOK:=Lib.hid hok
      have HS:=Lib.hid hs
      have HK5:=Lib.hid (HSM.out.2.2 s (List.mem_of_getElem? hs))
      clear hok hs
      go_upto_region 6 with(first
        | (refine wpList_store_mid rfl 61 (.tmp 7) (.tmp 24) rfl wr.heap.size 0 (spCells s).toArray rfl rfl (spRec.there _ _ rfl HOK.out) (spRec.size_eq size_spend HOK.out) (spRec.all_one s) ?_)
        | (refine wpList_load_run rfl 61 (.tmp 23) rfl _ _ rfl hy ?_))
      obtain⟨w5,hw5⟩:∃ x,x=(wr.alloc (.cells zSp 61)).setCells wr.heap.size 0 (spCells s):=⟨_,rfl⟩
      obtain⟨hG,hb5⟩:=Rec.new (R:=spRec) rfl HOK.out hw5
      rw[← hw5]
      clear hw5 hy c10
      obtain⟨g7,hg7⟩:∃ g,g=wr.heap.size:=⟨_,rfl⟩
      rw[← hg7] at hG ⊢
      clear hg7
      replace ho:=ho.below hb5
      replace hb:=hb.trans (hb5.mono hb.size)
      clear hb5
      obtain⟨l0,hl0⟩:∃ l,l=Pk.count n++(t.sp.take i).flatMap (Tx.encSp false):=⟨_,rfl⟩
      rw[← hl0] at ho HLN
      have HL0:=Lib.hid hl0
      clear hl0
      have lH:=Has.spHash hG HOK.out.1
      have HLK:=Lib.hid (show(s.h).length=32∧True from⟨HOK.out.1,trivial⟩)
      go_upto_region 7 with(first
        | (at_builtin;refine wpList_append_bytes rfl (.tmp 25) (.tmp 29) 130 rfl 5 Tryz.underlying130 info_byte W1.heap.size _ (l0) rfl (ho.below hbc) xa 32 xc (s.h) rfl hby hx0 (by have:=HLN.out;have:=HLK.out;(try simp only[List.length_append]);omega) (by have:=hbc.size;have:=hb.size;omega) ?_;intro va wna ho2 hgr)
        | (go_at_call 121;refine(rhash_any s.h HOK.out.1 _).mono ?_;rintro e wc ⟨vc,rfl,hoc,hbc⟩;obtain⟨xa,xc,rfl,hxc,hx0,hby⟩:=hoc.shape HLK.out.1)
        | (refine wpList_load_run rfl 46 (.tmp 27) rfl _ _ rfl lH ?_))
      have hbn:=below_own_rowb (hb.trans (hbc.mono hb.size)) hgr ho.lt
      replace hG:=(hG.under hbc hG.lt).moved (Moved.of_grown (F:=fun k=>_=some k) hgr (fun k e=>e)) (fun e=>(ho.below hbc).apart (hG.under hbc hG.lt) (by decide) _ e rfl)
      replace hb:=hbn
      replace ho:=ho2
      clear ho2 hgr hbn hbc hoc hby hx0 hxc
      clear lH
      have c32:=Has.spN hG HOK.out.1
      have hw32:=int_to_u64 s.n
      have HLK:=Lib.hid (show(Pk.num (BitVec.ofInt 64 s.n) 4).length=4∧s.h.length=32 from⟨rfl,HOK.out.1⟩)
      go_upto_region 8 with(first
        | (at_builtin;refine wpList_append_bytes rfl (.tmp 31) (.tmp 36) 130 rfl 5 Tryz.underlying130 info_byte W1.heap.size _ (l0++s.h) rfl (ho.below hbc) xa 4 xc (Pk.num (BitVec.ofInt 64 s.n) 4) rfl hby hx0 (by have:=HLN.out;have:=HLK.out;(try simp only[List.length_append]);omega) (by have:=hbc.size;have:=hb.size;omega) ?_;intro vb wnb ho2 hgr)
        | (go_at_call 122;refine(rnum8_any (BitVec.ofInt 64 s.n) 4 _).mono ?_;rintro e wc ⟨vc,rfl,hoc,hbc⟩;obtain⟨xa,xc,rfl,hxc,hx0,hby⟩:=hoc.shape HLK.out.1))
      have hbn:=below_own_rowb (hb.trans (hbc.mono hb.size)) hgr ho.lt
      replace hG:=(hG.under hbc hG.lt).moved (Moved.of_grown (F:=fun k=>_=some k) hgr (fun k e=>e)) (fun e=>(ho.below hbc).apart (hG.under hbc hG.lt) (by decide) _ e rfl)
      replace hb:=hbn
      replace ho:=ho2
      clear ho2 hgr hbn hbc hoc hby hx0 hxc
      clear c32 hw32
      have hE:Pk.count n++(t.sp.take (i+1)).flatMap (Tx.encSp false)=l0++s.h++Pk.num (BitVec.ofInt 64 s.n) 4:=by
        rw[Tx.take_snoc HS.out,List.flatMap_append,← List.append_assoc,← HL0.out,List.flatMap_singleton]
        simp[Tx.encSp,Pk.num,Pk.okSize]
      have HLN2:=Lib.hid (show(Pk.count n++(t.sp.take (i+1)).flatMap (Tx.encSp false)).length≤9+5100*(i+1) by
        rw[hE]
        have e1:=HLN.out
        have e2:=HLK.out
        simp only[List.length_append]
        omega)
      rw[← hE] at ho
      clear hE HLN HLK
      go_wp2
      go_roundw
      case rel=>exact⟨i+1,by omega,by go_num,ho,HLN2,hb⟩
      case measure=>(simp[intOf];try omega)
    · have hii:¬ (i:Int)<(n:Int):=by omega
      have hin:i=n:=by omega
      have htk:t.sp.take i=t.sp:=List.take_of_length_le (by have e:t.sp.length=n:=HT.out.sp.1;omega)
      rw[htk] at ho HLN
      clear htk hin
      obtain⟨l0,hl0⟩:∃ l,l=Pk.count n++t.sp.flatMap (Tx.encSp false):=⟨_,rfl⟩
      rw[← hl0] at ho HLN
      have HL0:=Lib.hid hl0
      clear hl0
      have c11:wr.cell? ⟨g1,1,none⟩=some (.slice b m r):=(hX.under hb hX.lt).cell_at rfl
      obtain⟨kt,hkt⟩:∃ k,k=(Pk.count m).length:=⟨_,rfl⟩
      have hkt2:kt≤9:=by rw[hkt];exact Pk.count_le _
      have HKT:=Lib.hid hkt
      clear hkt
      have HLK:=Lib.hid (show(Pk.count m).length=kt∧True from⟨HKT.out.symm,trivial⟩)
      go_upto_region 12 with(first
        | (at_builtin;refine wpList_append_bytes rfl (.tmp 49) (.tmp 53) 130 rfl 5 Tryz.underlying130 info_byte W1.heap.size _ (l0) rfl (ho.below hbc) xa kt xc (Pk.count m) rfl hby hx0 (by have:=HLN.out;have:=HLK.out;(try simp only[List.length_append]);omega) (by have:=hbc.size;have:=hb.size;omega) ?_;intro va wna ho2 hgr)
        | (go_at_call 120;refine(rcount_any m _).mono ?_;rintro e wc ⟨vc,rfl,hoc,hbc⟩;obtain⟨xa,xc,rfl,hxc,hx0,hby⟩:=hoc.shape HLK.out.1))
      have hbn:=below_own_rowb (hb.trans (hbc.mono hb.size)) hgr ho.lt
      replace hb:=hbn
      replace ho:=ho2
      clear ho2 hgr hbn hbc hoc hby hx0 hxc
      clear c11 c10
      have HLC:=Lib.hid (show(l0++Pk.count m).length≤160000 by rw[List.length_append];have:=HLN.out;have:=HLK.out;omega)
      obtain⟨l1,hl1⟩:∃ l,l=l0++Pk.count m:=⟨_,rfl⟩
      rw[← hl1] at ho HLC
      have HL1:=Lib.hid hl1
      clear hl1 HLN HLK
      go_wp2
      go_loopw [5,8] (fun sv iv wr=>∃ i:Nat,i≤m∧iv=.int .i64 i∧OwnB 5 W1.heap.size wr sv (l1++(t.co.take i).flatMap Tx.encCo)∧RowKit.Hid ((l1++(t.co.take i).flatMap Tx.encCo).length≤160000+16*i)∧Below W1.heap.size W1 wr) (fun _ iv _=>m-(intOf iv).toNat)
      case atStart=>exact⟨0,Nat.zero_le _,rfl,by simpa using ho,Lib.hid (by simpa using HLC.out),hb⟩
      case round=>
        clear ho hb
        obtain⟨j,hj,rfl,ho,HLN,hb⟩:=hrel
        by_cases hlj:j<m
        · have hji:(j:Int)<(m:Int):=by omega
          have hj0:(0:Int)≤(j:Int):=by omega
          obtain⟨c,hc⟩:=HT.out.co.get hlj
          obtain⟨x,hax,_⟩:=HT.out.co.2.2.2 j c hc
          subst hax
          have HC:=Lib.hid hc
          clear hc
          obtain⟨l2,hl2⟩:∃ l,l=l1++(t.co.take j).flatMap Tx.encCo:=⟨_,rfl⟩
          rw[← hl2] at ho HLN
          have HL2:=Lib.hid hl2
          clear hl2
          have c11:wr.cell? ⟨g1,1,none⟩=some (.slice (some x) m r):=(hX.under hb hX.lt).cell_at rfl
          have d0:wr.cell? (x.add (j*2))=some (.int .i64 c.v):=(HT.out.co.below hb).field (R:=coRec) (j:=0) HC.out rfl
          have hwv:=int_to_u64 c.v
          have HLK:=Lib.hid (show(Pk.num (BitVec.ofInt 64 c.v) 8).length=8∧True from⟨rfl,trivial⟩)
          go_upto_region 16 with(first
            | (at_builtin;refine wpList_append_bytes rfl (.tmp 62) (.tmp 70) 130 rfl 5 Tryz.underlying130 info_byte W1.heap.size _ (l2) rfl (ho.below hbc) xa 8 xc (Pk.num (BitVec.ofInt 64 c.v) 8) rfl hby hx0 (by have:=HLN.out;have:=HLK.out;(try simp only[List.length_append]);omega) (by have:=hbc.size;have:=hb.size;omega) ?_;intro vb wnb ho2 hgr)
            | (go_at_call 122;refine(rnum8_any (BitVec.ofInt 64 c.v) 8 _).mono ?_;rintro e wc ⟨vc,rfl,hoc,hbc⟩;obtain⟨xa,xc,rfl,hxc,hx0,hby⟩:=hoc.shape HLK.out.1))
          have hbn:=below_own_rowb (hb.trans (hbc.mono hb.size)) hgr ho.lt
          replace hb:=hbn
          replace ho:=ho2
          clear ho2 hgr hbn hbc hoc hby hx0 hxc
          clear c11 d0 hwv
          have c11:wnb.cell? ⟨g1,1,none⟩=some (.slice (some x) m r):=(hX.under hb hX.lt).cell_at rfl
          have d1:wnb.cell? ⟨(x.add (j*2)).block,(x.add (j*2)).off+1,none⟩=some (.int .u64 (nb64 c.lock)):=(HT.out.co.below hb).fieldS (R:=coRec) (j:=0) HC.out rfl
          have HLK:=Lib.hid (show(Pk.num c.lock 8).length=8∧(Pk.num (BitVec.ofInt 64 c.v) 8).length=8 from⟨rfl,rfl⟩)
          go_upto_region 14 with(first
            | (at_builtin;refine wpList_append_bytes rfl (.tmp 72) (.tmp 79) 130 rfl 5 Tryz.underlying130 info_byte W1.heap.size _ (l2++Pk.num (BitVec.ofInt 64 c.v) 8) rfl (ho.below hbc) xa 8 xc (Pk.num c.lock 8) rfl hby hx0 (by have:=HLN.out;have:=HLK.out;(try simp only[List.length_append]);omega) (by have:=hbc.size;have:=hb.size;omega) ?_;intro vc wnc ho2 hgr)
            | (go_at_call 122;refine(rnum8_any c.lock 8 _).mono ?_;rintro e wc ⟨vc,rfl,hoc,hbc⟩;obtain⟨xa,xc,rfl,hxc,hx0,hby⟩:=hoc.shape HLK.out.1))
          have hbn:=below_own_rowb (hb.trans (hbc.mono hb.size)) hgr ho.lt
          replace hb:=hbn
          replace ho:=ho2
          clear ho2 hgr hbn hbc hoc hby hx0 hxc
          clear c11 d1
          have hE:l1++(t.co.take (j+1)).flatMap Tx.encCo=l2++Pk.num (BitVec.ofInt 64 c.v) 8++Pk.num c.lock 8:=by
            rw[Tx.take_snoc HC.out,List.flatMap_append,← List.append_assoc,← HL2.out,List.flatMap_singleton]
            simp[Tx.encCo,Pk.num,Pk.okSize]
          have HLN2:=Lib.hid (show(l1++(t.co.take (j+1)).flatMap Tx.encCo).length≤160000+16*(j+1) by
            rw[hE]
            have e1:=HLN.out
            have e2:=HLK.out
            simp only[List.length_append]
            omega)
          rw[← hE] at ho
          clear hE HLN HLK
          go_wp2
          go_roundw
          case rel=>exact⟨j+1,by omega,by go_num,ho,HLN2,hb⟩
          case measure=>(simp[intOf];try omega)
        · have hji:¬ (j:Int)<(m:Int):=by omega
          have htk:t.co.take j=t.co:=List.take_of_length_le (by have e:t.co.length=m:=HT.out.co.1;omega)
          rw[htk] at ho HLN
          clear htk
          have c11:wr.cell? ⟨g1,1,none⟩=some (.slice b m r):=(hX.under hb hX.lt).cell_at rfl
          have c12:wr.cell? ⟨g1,2,none⟩=some (.bool f):=(hX.under hb hX.lt).cell_at rfl
          obtain⟨l3,hl3⟩:∃ l,l=l1++t.co.flatMap Tx.encCo:=⟨_,rfl⟩
          rw[← hl3] at ho HLN
          have hL:∀ y,l3++[y]=Pk.count t.sp.length++t.sp.flatMap (Tx.encSp false)++Pk.count t.co.length++t.co.flatMap Tx.encCo++[y]:=fun y=>by
            rw[hl3,HL1.out,HL0.out,show t.sp.length=n from HT.out.sp.1,show t.co.length=m from HT.out.co.1]
          have HL:=Lib.hid hL
          clear hl3 hL
          have hlo:w.heap.size≤W1.heap.size:=hBw.size
          cases f
          · have HE:=Lib.hid (show l3++[0#8]=Tx.enc false t by rw[HL.out,Tx.enc,← HF.out];rfl)
            have hlit:Bytes8 (wr.alloc (.cells #[.int .u8 0] 5)) (some ⟨wr.heap.size,0,none⟩) 1 [0#8]:=bytes_lit wr 0#8
            go_wp2_with (first
              | (at_builtin;refine wpList_append_bytes rfl (.tmp 86) (.tmp 87) 130 rfl 5 Tryz.underlying130 info_byte W1.heap.size _ l3 rfl (ho.below ((Below.refl _ _).alloc (Nat.le_refl _) _)) (some ⟨wr.heap.size,0,none⟩) 1 1 [0#8] rfl hlit (fun e=>by cases e) (by have:=HLN.out;omega) (by have:=hb.size;simp;omega) ?_;intro vE wE ho2 hgr))
            have hbn:=below_own_rowb (hb.alloc hb.size _) hgr ho.lt
            rw[HE.out] at ho2
            go_ret
            exact⟨vE,rfl,ho2.low hlo,hBw.trans (hbn.mono hBw.size)⟩
          · have HE:=Lib.hid (show l3++[1#8]=Tx.enc false t by rw[HL.out,Tx.enc,← HF.out];rfl)
            have hlit:Bytes8 (wr.alloc (.cells #[.int .u8 1] 5)) (some ⟨wr.heap.size,0,none⟩) 1 [1#8]:=bytes_lit wr 1#8
            go_wp2_with (first
              | (at_builtin;refine wpList_append_bytes rfl (.tmp 83) (.tmp 84) 130 rfl 5 Tryz.underlying130 info_byte W1.heap.size _ l3 rfl (ho.below ((Below.refl _ _).alloc (Nat.le_refl _) _)) (some ⟨wr.heap.size,0,none⟩) 1 1 [1#8] rfl hlit (fun e=>by cases e) (by have:=HLN.out;omega) (by have:=hb.size;simp;omega) ?_;intro vE wE ho2 hgr))
            have hbn:=below_own_rowb (hb.alloc hb.size _) hgr ho.lt
            rw[HE.out] at ho2
            go_ret
            exact⟨vE,rfl,ho2.low hlo,hBw.trans (hbn.mono hBw.size)⟩
end Go.Proofs.YtijemcfnlbapjaaGreatDoor
namespace Go.Proofs.YtijemcfnlbapjaaGreatDoor
open Go Go.RowKit Go.ChangeShapes Go.WideShapes
theorem Tx.encSp_len (all:Bool) (s:Tx.Sp) (h:s.h.length=32) (hk:s.key.length≤5000):(Tx.encSp all s).length≤5060:=by
  unfold Tx.encSp
  cases all
  · simp[Pk.le_len,h]
  · have:=Pk.count_le (s.key.length:Int)
    simp[Pk.le_len,h,Pk.text]
    omega
theorem Tx.flat_len {α:Type} (f:α→List (BitVec 8)) (k:Nat):∀ l:List α,(∀ x,x∈l→(f x).length≤k)→(l.flatMap f).length≤k*l.length
  | [],_=>by simp
  | x :: l,h=>by
    have ih:=Tx.flat_len f k l (fun y hy=>h y (List.mem_cons_of_mem _ hy))
    have h1:=h x List.mem_cons_self
    rw[List.flatMap_cons,List.length_append,List.length_cons,Nat.mul_add,Nat.mul_one]
    omega
theorem Tx.enc_len (all:Bool) (t:Tx.T) (hs:Tx.Small t) (hh:∀ s,s∈t.sp→s.h.length=32):(Tx.enc all t).length≤200000:=by
  have h1:=Tx.flat_len (Tx.encSp all) 5060 t.sp (fun s hx=>Tx.encSp_len all s (hh s hx) (hs.2.2 s hx))
  have h2:=Tx.flat_len Tx.encCo 16 t.co (fun c _=>by simp[Tx.encCo,Pk.le_len])
  have h3:=Pk.count_le (t.sp.length:Int)
  have h4:=Pk.count_le (t.co.length:Int)
  have h5:=hs.1
  have h6:=hs.2.1
  unfold Tx.enc
  simp only[List.length_append,List.length_cons,List.length_nil]
  have h7:5060*t.sp.length≤5060*30:=Nat.mul_le_mul_left _ h5
  have h8:16*t.co.length≤16*30:=Nat.mul_le_mul_left _ h6
  omega
set_option maxRecDepth 100000 in
set_option maxHeartbeats 4000000 in
theorem rtbytes_any (a:Option Addr) (n q:Nat) (b:Option Addr) (m r:Nat) (t:Tx.T) (w:World) (ht:TxAt w a n q b m r t) (hs:Tx.Small t) :
    Calls Tryz.prog 84 #[txv a n q b m r t.firm] w (BytesPost8 5 w.heap.size (Tx.enc true t) w):=by
  obtain⟨w1,hw1⟩:∃ x,x=w.alloc (.cells #[.slice a n q,.slice b m r,.bool t.firm] 34):=⟨_,rfl⟩
  have hb1:Below w.heap.size w w1:=by rw[hw1];exact(Below.refl _ _).alloc (Nat.le_refl _) _
  have hX:Has w1 w.heap.size 34 #[.slice a n q,.slice b m r,.bool t.firm]:=by rw[hw1];exact Has.fresh _ _ _
  have lX:=hX.load_agg (P:=Tryz.prog) (t:=34) Tryz.underlying34 rfl (by kernel_rfl)
  have HW:=Lib.hid hw1
  have HT:=Lib.hid (ht.below hb1)
  have HS:=Lib.hid hs
  clear hw1 ht hs hX
  go_enter Tryz.func84,Tryz.ntmps84
  go_upto_region 1 with fail
  rw[← HW.out]
  go_wp2_with (first
    | (go_at_call 100;refine(rput_true a n q b m r t w1 HT.out HS.out).mono ?_;rintro e w2 ⟨v,rfl,ho,hb2⟩)
    | (refine wpList_load_run rfl 34 (.tmp 1) rfl _ _ rfl lX ?_))
  go_ret
  exact⟨v,rfl,ho.low hb1.size,hb1.trans (hb2.mono hb1.size)⟩
set_option maxRecDepth 100000 in
set_option maxHeartbeats 4000000 in
theorem rbase_any (a:Option Addr) (n q:Nat) (b:Option Addr) (m r:Nat) (t:Tx.T) (w:World) (ht:TxAt w a n q b m r t) (hs:Tx.Small t) :
    Calls Tryz.prog 83 #[txv a n q b m r t.firm] w (BytesPost8 5 w.heap.size (Tx.enc false t) w):=by
  obtain⟨w1,hw1⟩:∃ x,x=w.alloc (.cells #[.slice a n q,.slice b m r,.bool t.firm] 34):=⟨_,rfl⟩
  have hb1:Below w.heap.size w w1:=by rw[hw1];exact(Below.refl _ _).alloc (Nat.le_refl _) _
  have hX:Has w1 w.heap.size 34 #[.slice a n q,.slice b m r,.bool t.firm]:=by rw[hw1];exact Has.fresh _ _ _
  have lX:=hX.load_agg (P:=Tryz.prog) (t:=34) Tryz.underlying34 rfl (by kernel_rfl)
  have HW:=Lib.hid hw1
  have HT:=Lib.hid (ht.below hb1)
  have HS:=Lib.hid hs
  clear hw1 ht hs hX
  go_enter Tryz.func83,Tryz.ntmps83
  go_upto_region 1 with fail
  rw[← HW.out]
  go_wp2_with (first
    | (go_at_call 100;refine(rput_false a n q b m r t w1 HT.out HS.out).mono ?_;rintro e w2 ⟨v,rfl,ho,hb2⟩)
    | (refine wpList_load_run rfl 34 (.tmp 1) rfl _ _ rfl lX ?_))
  go_ret
  exact⟨v,rfl,ho.low hb1.size,hb1.trans (hb2.mono hb1.size)⟩
set_option maxRecDepth 100000 in
set_option maxHeartbeats 4000000 in
theorem rweight_any (a:Option Addr) (n q:Nat) (b:Option Addr) (m r:Nat) (t:Tx.T) (w:World) (ht:TxAt w a n q b m r t) (hs:Tx.Small t) :
    Calls Tryz.prog 54 #[txv a n q b m r t.firm] w fun e w'=>e=.returned (.int .i64 (Tx.weight t))∧Below w.heap.size w w':=by
  obtain⟨w1,hw1⟩:∃ x,x=w.alloc (.cells #[.slice a n q,.slice b m r,.bool t.firm] 34):=⟨_,rfl⟩
  have hb1:Below w.heap.size w w1:=by rw[hw1];exact(Below.refl _ _).alloc (Nat.le_refl _) _
  have hX:Has w1 w.heap.size 34 #[.slice a n q,.slice b m r,.bool t.firm]:=by rw[hw1];exact Has.fresh _ _ _
  have lX:=hX.load_agg (P:=Tryz.prog) (t:=34) Tryz.underlying34 rfl (by kernel_rfl)
  have hh:∀ s,s∈t.sp→s.h.length=32:=fun s hx=>(ht.sp.2.2.1 s hx).1
  obtain⟨k1,hk1⟩:∃ k,k=(Tx.enc false t).length:=⟨_,rfl⟩
  obtain⟨k2,hk2⟩:∃ k,k=(Tx.enc true t).length:=⟨_,rfl⟩
  have e1:k1≤200000:=by rw[hk1];exact Tx.enc_len _ t hs hh
  have e2:k2≤200000:=by rw[hk2];exact Tx.enc_len _ t hs hh
  have HWR:=Lib.hid (show IntKind.i64.wrap (3*(k1:Int))=3*(k1:Int)∧IntKind.i64.wrap (3*(k1:Int)+(k2:Int))=3*(k1:Int)+(k2:Int) from⟨IntWalk.i64_in _ (by omega),IntWalk.i64_in _ (by omega)⟩)
  have HK:=Lib.hid (show(Tx.enc false t).length=k1∧(Tx.enc true t).length=k2∧Tx.weight t=3*(k1:Int)+(k2:Int) from⟨hk1.symm,hk2.symm,by rw[Tx.weight,← hk1,← hk2]⟩)
  have HW:=Lib.hid hw1
  have HX:=Lib.hid hX
  have HT:=Lib.hid (ht.below hb1)
  have HS:=Lib.hid hs
  clear hw1 ht hs hX hk1 hk2 hh
  go_enter Tryz.func54,Tryz.ntmps54
  go_upto_region 1 with fail
  rw[← HW.out]
  obtain⟨ws,hws⟩:∃ x,x=w1.drew:=⟨_,rfl⟩
  have hbs:Below w1.heap.size w1 ws:=by rw[hws];exact(Below.refl _ _).drew
  have HXs:=Lib.hid (HX.out.under hbs HX.out.lt)
  have HTs:=Lib.hid (HT.out.below hbs)
  have hBs:=hb1.trans (hbs.mono hb1.size)
  refine wp_region_held_drew (S:=Held ws) (by kernel_rfl) (by rw[hws];exact Held.refl _) (fun hHeld=>?_)
  rw[← hws] at hHeld ⊢
  clear hws hbs lX
  refine tka 0 3 rfl rfl hHeld (yieldsIf_load_agg (by rfl) 34 (.tmp 1) rfl _ _ (by rfl) (fun wq hSw=>(HXs.out.under hSw HXs.out.lt).load_agg (P:=Tryz.prog) (t:=34) Tryz.underlying34 rfl (by kernel_rfl))) rfl ?_
  simp only[ts0,ts1]
  refine tka 4 7 rfl rfl hHeld (yieldsIf_load_agg (by rfl) 34 (.tmp 1) rfl _ _ (by rfl) (fun wq hSw=>(HXs.out.under hSw HXs.out.lt).load_agg (P:=Tryz.prog) (t:=34) Tryz.underlying34 rfl (by kernel_rfl))) rfl ?_
  simp only[ts0,ts1]
  refine wpAnyH_ready (rs:=[1]) (by kernel_rfl) (by simp) ?_
  refine AllReadyH.cons rfl (fun K hK=>?_) AllReadyH.nil
  go_simp
  go_at_call 83;refine(rbase_any a n q b m r t ws HTs.out HS.out).mono ?_;rintro e k1w ⟨v2,rfl,ho2,hk1⟩;obtain⟨x2,c2,rfl,_,_,_⟩:=ho2.shape HK.out.1
  refine hK.out _ _ (Held.of hk1) (fun _=>?_)
  clear hK K
  try simp only[Act.put,List.setIfInBounds_toArray,ts0,ts1]
  refine held_grow (w1:=k1w) (Held.of hk1) ?_
  clear hHeld
  have hHeld:Held k1w k1w:=Held.refl _
  refine tka (v:=?_) 2 5 rfl rfl hHeld (Or.inl ⟨by rfl,?_⟩) rfl ?_
  rotate_left
  · intro wq hSw
    go_simp
    try with_reducible rfl
  simp only[ts0,ts1]
  refine tka (v:=?_) 3 6 rfl rfl hHeld (Or.inl ⟨by rfl,?_⟩) rfl ?_
  rotate_left
  · intro wq hSw
    go_simp
    try with_reducible rfl
  simp only[ts0,ts1]
  refine wpAnyH_ready (rs:=[5]) (by kernel_rfl) (by simp) ?_
  refine AllReadyH.cons rfl (fun K hK=>?_) AllReadyH.nil
  go_simp
  go_at_call 84;refine(rtbytes_any a n q b m r t k1w (HTs.out.below hk1) HS.out).mono ?_;rintro e k2w ⟨v3,rfl,ho3,hk2⟩;obtain⟨x3,c3,rfl,_,_,_⟩:=ho3.shape HK.out.2.1
  refine hK.out _ _ (Held.of hk2) (fun _=>?_)
  clear hK K
  try simp only[Act.put,List.setIfInBounds_toArray,ts0,ts1]
  refine held_grow (w1:=k2w) (Held.of hk2) ?_
  clear hHeld
  have hHeld:Held k2w k2w:=Held.refl _
  refine tka (v:=?_) 6 9 rfl rfl hHeld (Or.inl ⟨by rfl,?_⟩) rfl ?_
  rotate_left
  · intro wq hSw
    go_simp
    try with_reducible rfl
  simp only[ts0,ts1]
  refine tka (v:=?_) 7 10 rfl rfl hHeld (Or.inl ⟨by rfl,?_⟩) rfl ?_
  rotate_left
  · intro wq hSw
    go_simp
    try with_reducible rfl
  simp only[ts0,ts1]
  refine tka (v:=?_) 8 2 rfl rfl hHeld (Or.inl ⟨by rfl,?_⟩) rfl ?_
  rotate_left
  · intro wq hSw
    go_simp
    try with_reducible rfl
  simp only[ts0,ts1]
  refine wpAnyH_done (by kernel_rfl) ?_ _
  go_wp2
  go_ret
  exact⟨by rw[HK.out.2.2];show Ending.returned (.int .i64 (IntKind.i64.wrap (IntKind.i64.wrap (3*(k1:Int))+(k2:Int))))=_;rw[HWR.out.1,HWR.out.2],hBs.trans ((hk1.trans (hk2.mono hk1.size)).mono hBs.size)⟩
end Go.Proofs.YtijemcfnlbapjaaGreatDoor
