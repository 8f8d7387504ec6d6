/- package tx: Bytes, Base, Weight (mktxb.py) -/
import Derived.Test.YtijemcfnlbapjaaGreatDoorJ07
import Derived.Test.YtijemcfnlbapjaaGreatDoorJ08
import Derived.Test.YtijemcfnlbapjaaGreatDoorJ09
namespace Go.Proofs.YtijemcfnlbapjaaGreatDoor
open Go Go.RowKit Go.ChangeShapes Go.WideShapes
theorem out_below {B N g:Nat} {v:Value} {l:List (BitVec 8)} {w0 w1:World} (hS:OutS B w0 g v l) (hm:Moved (outF g v) w0 w1) (hg:N≤g) (hB:N≤B) (hN:N≤w0.heap.size):Below N w0 w1:=
  hm.below (fun k hk=>hk.elim (fun e=>e▸hg) (fun e=>Nat.le_trans hB (hS.2.lt k e))) hN
theorem OutS.below {B g:Nat} {v:Value} {l:List (BitVec 8)} {w0 w1:World} (h:OutS B w0 g v l) (hb:Below w0.heap.size w0 w1):OutS B w1 g v l:=⟨h.1.under hb h.1.lt,h.2.below hb⟩
theorem OutS.not {B g k:Nat} {v:Value} {l:List (BitVec 8)} {w:World} {T:TypeId} {cs:Array Value} (h:OutS B w g v l) (hh:Has w k T cs) (ht:(5==T)=false) (hk:k≠g):¬ outF g v k:=
  fun e=>e.elim hk (fun e=>h.2.apart hh ht k e rfl)
set_option maxRecDepth 100000 in
set_option maxHeartbeats 16000000 in
theorem bytes1_any (B g:Nat) (v:Value) (l:List (BitVec 8)) (s:Tx.Sp) (hok:Tx.SpOk s) (hk:s.key.length≤5000) (hl:l.length≤800000) (w:World) (h:OutS B w g v l) (hBB:B≤w.heap.size) :
    Calls Tryz.prog 107 #[.pointer (some ⟨g,0,none⟩),.agg (spCells s).toArray] w (OutPost B g v (l++(Pk.text s.key++Pk.le s.sl 8)) w):=by
  obtain⟨W1,hW1⟩:∃ x,x=w.alloc (.cells (spCells s).toArray 61):=⟨_,rfl⟩
  have hBw:Below w.heap.size w W1:=by rw[hW1];exact(Below.refl _ w).alloc (Nat.le_refl _) _
  have hX:Has W1 w.heap.size 61 (spCells s).toArray:=by rw[hW1];exact Has.fresh w _ _
  have HW:=Lib.hid hW1
  clear hW1
  have c33:=hX.spKey hok.1
  have HS:=Lib.hid (h.below hBw)
  have HXX:=Lib.hid (And.intro hX (And.intro hok.1 (show ¬ outF g v w.heap.size from fun e=>e.elim (fun e=>by have:=h.1.lt;omega) (fun e=>by have:=(h.2.lt_size _ e).2;omega))))
  have HL:=Lib.hid (show l.length≤800000∧(l++Pk.text s.key).length≤900000 by
    refine⟨hl,?_⟩
    have:=Pk.count_le (s.key.length:Int)
    rw[List.length_append,Pk.text,List.length_append]
    omega)
  have HK:=Lib.hid (show s.key.length≤1000000 by omega)
  have hB1:B≤W1.heap.size:=Nat.le_trans hBB hBw.size
  have HM:=Lib.hid (show Moved (outF g v) w W1 from Moved.of_below hBw)
  clear h hX hl hk hok
  go_enter Tryz.func107,Tryz.ntmps107
  go_upto_region 1 with fail
  rw[← HW.out]
  go_upto_region 2 with(go_at_call 108;refine(outText_any B g v l s.key (by have:=HL.out.1;omega) HK.out W1 HS.out hB1).mono ?_;rintro e w2 ⟨⟨u2,rfl⟩,v2,ho2,hm2,hl2⟩)
  have c34:=(HXX.out.1.moved hm2 HXX.out.2.2).spSeal HXX.out.2.1
  clear c33
  go_wp2_with (go_at_call 109;refine(outNum_any B g v2 (l++Pk.text s.key) s.sl 8 (by have:=HL.out.2;omega) w2 ho2 (by have:=hm2.size;omega)).mono ?_;rintro e w3 ⟨⟨u3,rfl⟩,v3,ho3,hm3,hl3⟩)
  refine bodyPost_ret (results_none rfl _ _ _) rfl ?_
  have h4:OutS B w3 g v3 (l++(Pk.text s.key++Pk.le s.sl 8)):=by rw[← List.append_assoc];exact ho3
  exact OutPost.then HM.out (Lies.refl _ _) (OutPost.then hm2 hl2 ⟨⟨_,rfl⟩,v3,h4,hm3,hl3⟩)
set_option maxRecDepth 100000 in
set_option maxHeartbeats 16000000 in
theorem base1_any (B g:Nat) (v:Value) (l:List (BitVec 8)) (s:Tx.Sp) (w:World) (h:OutS B w g v l) :
    Calls Tryz.prog 98 #[.pointer (some ⟨g,0,none⟩),.agg (spCells s).toArray] w (OutPost B g v (l++[]) w):=by
  obtain⟨W1,hW1⟩:∃ x,x=w.alloc (.cells (spCells s).toArray 61):=⟨_,rfl⟩
  have hBw:Below w.heap.size w W1:=by rw[hW1];exact(Below.refl _ w).alloc (Nat.le_refl _) _
  have hX:Has W1 w.heap.size 61 (spCells s).toArray:=by rw[hW1];exact Has.fresh w _ _
  have HW:=Lib.hid hW1
  clear hW1
  have HS:=Lib.hid (h.below hBw)
  clear h hX
  go_enter Tryz.func98,Tryz.ntmps98
  go_wp2
  rw[← HW.out]
  refine bodyPost_ret (results_none rfl _ _ _) rfl ?_
  rw[List.append_nil]
  exact⟨⟨_,rfl⟩,v,HS.out,Moved.of_below hBw,Lies.refl _ _⟩
set_option maxRecDepth 100000 in
set_option maxHeartbeats 16000000 in
theorem enc_true (a:Option Addr) (n q:Nat) (b:Option Addr) (m r:Nat) (t:Tx.T) (f:Bool) (hf:f=t.firm) (w:World) (ht:TxAt w a n q b m r t) (hs:Tx.Small t) :
    Calls Tryz.prog 97 #[txv a n q b m r f,.func (.func 107) #[] #[]] w (BytesPost8 5 w.heap.size (Tx.enc true t) w):=by
  obtain⟨W1,hW1⟩:∃ x,x=w.alloc (.cells #[.slice a n q,.slice b m r,.bool f] 34):=⟨_,rfl⟩
  have hBw:Below w.heap.size w W1:=by rw[hW1];exact(Below.refl _ w).alloc (Nat.le_refl _) _
  have hX:Has W1 w.heap.size 34 #[.slice a n q,.slice b m r,.bool f]:=by rw[hW1];exact Has.fresh w _ _
  have HW:=Lib.hid hW1
  clear hW1
  have HT:=Lib.hid (ht.below hBw)
  have HF:=Lib.hid hf
  have HSM:=Lib.hid hs
  have hn30:n≤30:=by have e:t.sp.length=n:=ht.sp.1;rw[← e];exact hs.1
  have hm30:m≤30:=by have e:t.co.length=m:=ht.co.1;rw[← e];exact hs.2.1
  clear hf ht hs
  go_enter Tryz.func97,Tryz.ntmps97
  go_upto_region 1 with fail
  rw[← HW.out]
  obtain⟨g1,hg1⟩:∃ g,g=w.heap.size:=⟨_,rfl⟩
  rw[← hg1] at hX ⊢
  have HG:=Lib.hid hg1
  clear hg1
  go_upto_region 2 with fail
  obtain⟨W2,hW2⟩:∃ x,x=W1.alloc (.cells #[.slice none 0 0] 167):=⟨_,rfl⟩
  rw[← hW2]
  obtain⟨g,hg⟩:∃ g,g=W1.heap.size:=⟨_,rfl⟩
  rw[← hg]
  have hb:Below W1.heap.size W1 W2:=by rw[hW2];exact(Below.refl _ _).alloc (Nat.le_refl _) _
  have ho:OutS W2.heap.size W2 g (.slice none 0 0) []:=⟨by rw[hg,hW2];exact Has.fresh _ _ _,OwnB.nil _ _ _⟩
  have hNg:W1.heap.size≤g:=by omega
  have hNB:W1.heap.size≤W2.heap.size:=hb.size
  have hgB:g<W2.heap.size:=ho.1.lt
  have hBr:W2.heap.size≤W2.heap.size:=Nat.le_refl _
  clear hW2 hg
  have c10:W2.cell? ⟨g1,0,none⟩=some (.slice a n q):=(hX.under hb hX.lt).cell_at rfl
  go_upto_region 3 with(go_at_call 116;refine(outCount_any W2.heap.size g (.slice none 0 0) [] n (by simp) W2 ho hBr).mono ?_;rintro e w2 ⟨⟨u_,rfl⟩,v2,ho2,hm2,hl2⟩)
  have hb2:=hb.trans (out_below ho hm2 hNg hNB hb.size)
  have hBs:W2.heap.size≤w2.heap.size:=hm2.size
  rw[List.nil_append] at ho2
  clear c10 ho hb hm2 hl2 hBr
  have c10:w2.cell? ⟨g1,0,none⟩=some (.slice a n q):=(hX.under hb2 hX.lt).cell_at rfl
  have hcl:=Pk.count_le (n:Int)
  go_wp2
  clear c10
  go_loopw [18] (fun iv wr=>∃ (i:Nat) (v:Value),i≤n∧iv=.int .i64 i∧OutS W2.heap.size wr g v (Pk.count n++(t.sp.take i).flatMap (Tx.encSp true))∧RowKit.Hid ((Pk.count n++(t.sp.take i).flatMap (Tx.encSp true)).length≤9+5100*i)∧Below W1.heap.size W1 wr∧W2.heap.size≤wr.heap.size) (fun iv _=>n-(intOf iv).toNat)
  case atStart=>exact⟨0,v2,Nat.zero_le _,rfl,by simpa using ho2,Lib.hid (by simpa using hcl),hb2,hBs⟩
  case round=>
    clear ho2 hb2 hcl hBs
    obtain⟨i,v,hi,rfl,ho,HLN,hb,hBr⟩:=hrel
    have c11:wr.cell? ⟨g1,1,none⟩=some (.slice b m r):=(hX.under hb hX.lt).cell_at rfl
    by_cases hlt:i<n
    · have hii:(i:Int)<(n:Int):=by omega
      have hi0:(0:Int)≤(i:Int):=by omega
      obtain⟨s,hs⟩:=HT.out.sp.get hlt
      obtain⟨x,hax,_⟩:=HT.out.sp.2.2.2 i s hs
      subst hax
      have hok:=HT.out.sp.okay hs
      have hy:=spends_at (HT.out.sp.below hb) hs
      have HOK:=Lib.hid hok
      have HS:=Lib.hid hs
      have HK5:=Lib.hid (HSM.out.2.2 s (List.mem_of_getElem? hs))
      clear hok hs c11
      go_upto_region 6 with(first
        | (refine wpList_store_mid rfl 61 (.tmp 7) (.tmp 21) rfl wr.heap.size 0 (spCells s).toArray rfl rfl (spRec.there _ _ rfl HOK.out) (spRec.size_eq size_spend HOK.out) (spRec.all_one s) ?_)
        | (refine wpList_load_run rfl 61 (.tmp 20) rfl _ _ rfl hy ?_))
      obtain⟨w5,hw5⟩:∃ x,x=(wr.alloc (.cells zSp 61)).setCells wr.heap.size 0 (spCells s):=⟨_,rfl⟩
      obtain⟨hG,hb5⟩:=Rec.new (R:=spRec) rfl HOK.out hw5
      rw[← hw5]
      clear hw5 hy
      obtain⟨g7,hg7⟩:∃ g,g=wr.heap.size:=⟨_,rfl⟩
      have hgg:g7≠g:=by omega
      rw[← hg7] at hG ⊢
      clear hg7
      replace ho:=ho.below hb5
      replace hb:=hb.trans (hb5.mono hb.size)
      replace hBr:=Nat.le_trans hBr hb5.size
      clear hb5
      obtain⟨l0,hl0⟩:∃ l,l=Pk.count n++(t.sp.take i).flatMap (Tx.encSp true):=⟨_,rfl⟩
      rw[← hl0] at ho HLN
      have HL0:=Lib.hid hl0
      clear hl0
      have hLb:l0.length≤160000:=by have:=HLN.out;omega
      have HLb:=Lib.hid hLb
      clear hLb
      have lH:=Has.spHash hG HOK.out.1
      go_upto_region 7 with(first
        | (go_at_call 117;refine(outHash_any W2.heap.size g v l0 s.h (by have:=HLb.out;omega) HOK.out.1 _ ho hBr).mono ?_;rintro e w6 ⟨⟨u_,rfl⟩,v6,hon,hmn,hln⟩)
        | (refine wpList_load_run rfl 46 (.tmp 23) rfl _ _ rfl lH ?_))
      replace hG:=hG.moved hmn (ho.not hG (by decide) hgg)
      have hbn:=hb.trans (out_below ho hmn hNg hNB hb.size)
      replace hb:=hbn
      replace ho:=hon
      replace hBr:=Nat.le_trans hBr hmn.size
      clear hbn hon hmn hln
      clear lH
      have c32:=Has.spN hG HOK.out.1
      have hw32:=int_to_u64 s.n
      go_upto_region 8 with(first
        | (go_at_call 109;refine(outNum_any W2.heap.size g v6 (l0++s.h) (BitVec.ofInt 64 s.n) 4 (by have:=HLb.out;have:=HOK.out.1;rw[List.length_append];omega) _ ho hBr).mono ?_;rintro e w7 ⟨⟨u_,rfl⟩,v7,hon,hmn,hln⟩))
      replace hG:=hG.moved hmn (ho.not hG (by decide) hgg)
      have hbn:=hb.trans (out_below ho hmn hNg hNB hb.size)
      replace hb:=hbn
      replace ho:=hon
      replace hBr:=Nat.le_trans hBr hmn.size
      clear hbn hon hmn hln
      clear c32 hw32
      have lG:=hG.load_agg (P:=Tryz.prog) (t:=61) Tryz.underlying61 rfl (spRec.size_eq size_spend HOK.out)
      have HL7:=Lib.hid (show(l0++s.h++Pk.num (BitVec.ofInt 64 s.n) 4).length≤170000 by have:=HLb.out;have:=HOK.out.1;simp only[List.length_append,show(Pk.num (BitVec.ofInt 64 s.n) 4).length=4 from rfl];omega)
      go_upto_region 9 with(first
        | (go_at_call 107;refine(bytes1_any W2.heap.size g v7 (l0++s.h++Pk.num (BitVec.ofInt 64 s.n) 4) s HOK.out HK5.out (by have:=HL7.out;omega) _ ho hBr).mono ?_;rintro e w8 ⟨⟨u_,rfl⟩,v8,hon,hmn,hln⟩)
        | (refine wpList_load_run rfl 61 (.tmp 7) rfl _ _ rfl lG ?_))
      have hbn:=hb.trans (out_below ho hmn hNg hNB hb.size)
      replace hb:=hbn
      replace ho:=hon
      replace hBr:=Nat.le_trans hBr hmn.size
      clear hbn hon hmn hln
      clear lG hG
      have hE:Pk.count n++(t.sp.take (i+1)).flatMap (Tx.encSp true)=l0++s.h++Pk.num (BitVec.ofInt 64 s.n) 4++(Pk.text s.key++Pk.le s.sl 8):=by
        rw[Tx.take_snoc HS.out,List.flatMap_append,← List.append_assoc,← HL0.out,List.flatMap_singleton]
        simp[Tx.encSp,Pk.num,Pk.okSize]
      have HLN2:=Lib.hid (show(Pk.count n++(t.sp.take (i+1)).flatMap (Tx.encSp true)).length≤9+5100*(i+1) by
        rw[Tx.take_snoc HS.out,List.flatMap_append,← List.append_assoc,← HL0.out,List.flatMap_singleton,List.length_append]
        have e1:=HLN.out
        have e2:=Tx.encSp_len true s HOK.out.1 HK5.out
        omega)
      rw[← hE] at ho
      clear hE HLN
      go_wp2
      go_roundw
      case rel=>exact⟨i+1,v8,by omega,by go_num,ho,HLN2,hb,hBr⟩
      case measure=>(simp[intOf];try omega)
    · have hii:¬ (i:Int)<(n:Int):=by omega
      have hin:i=n:=by omega
      have htk:t.sp.take i=t.sp:=List.take_of_length_le (by have e:t.sp.length=n:=HT.out.sp.1;omega)
      rw[htk] at ho HLN
      clear htk hin
      obtain⟨l0,hl0⟩:∃ l,l=Pk.count n++t.sp.flatMap (Tx.encSp true):=⟨_,rfl⟩
      rw[← hl0] at ho HLN
      have HL0:=Lib.hid hl0
      clear hl0
      go_upto_region 11 with(first
        | (go_at_call 116;refine(outCount_any W2.heap.size g v l0 m (by have:=HLN.out;omega) _ ho hBr).mono ?_;rintro e w3 ⟨⟨u_,rfl⟩,v3,hon,hmn,hln⟩))
      have hbn:=hb.trans (out_below ho hmn hNg hNB hb.size)
      replace hb:=hbn
      replace ho:=hon
      replace hBr:=Nat.le_trans hBr hmn.size
      clear hbn hon hmn hln
      clear c11
      have HLC:=Lib.hid (show(l0++Pk.count m).length≤160000 by rw[List.length_append];have:=HLN.out;have:=Pk.count_le (m:Int);omega)
      obtain⟨l1,hl1⟩:∃ l,l=l0++Pk.count m:=⟨_,rfl⟩
      rw[← hl1] at ho HLC
      have HL1:=Lib.hid hl1
      clear hl1 HLN
      have c11:w3.cell? ⟨g1,1,none⟩=some (.slice b m r):=(hX.under hb hX.lt).cell_at rfl
      go_wp2
      clear c11
      go_loopw [42] (fun iv wr=>∃ (j:Nat) (v:Value),j≤m∧iv=.int .i64 j∧OutS W2.heap.size wr g v (l1++(t.co.take j).flatMap Tx.encCo)∧RowKit.Hid ((l1++(t.co.take j).flatMap Tx.encCo).length≤160000+16*j)∧Below W1.heap.size W1 wr∧W2.heap.size≤wr.heap.size) (fun iv _=>m-(intOf iv).toNat)
      case atStart=>exact⟨0,v3,Nat.zero_le _,rfl,by simpa using ho,Lib.hid (by simpa using HLC.out),hb,hBr⟩
      case round=>
        clear ho hb hBr
        obtain⟨j,v,hj,rfl,ho,HLN,hb,hBr⟩:=hrel
        by_cases hlj:j<m
        · have hji:(j:Int)<(m:Int):=by omega
          have hj0:(0:Int)≤(j:Int):=by omega
          obtain⟨c,hc⟩:=HT.out.co.get hlj
          obtain⟨x,hax,_⟩:=HT.out.co.2.2.2 j c hc
          subst hax
          have hy:=coins_at (HT.out.co.below hb) hc
          have HOK:=Lib.hid (HT.out.co.okay hc)
          have HC:=Lib.hid hc
          clear hc
          go_upto_region 14 with(first
            | (refine wpList_store_mid rfl 74 (.tmp 9) (.tmp 45) rfl wr.heap.size 0 (coCells c).toArray rfl rfl (coRec.there _ _ rfl HOK.out) (coRec.size_eq size_coin HOK.out) (coRec.all_one c) ?_)
            | (refine wpList_load_run rfl 74 (.tmp 44) rfl _ _ rfl hy ?_))
          obtain⟨w5,hw5⟩:∃ x,x=(wr.alloc (.cells zCo 74)).setCells wr.heap.size 0 (coCells c):=⟨_,rfl⟩
          obtain⟨hG,hb5⟩:=Rec.new (R:=coRec) rfl HOK.out hw5
          rw[← hw5]
          clear hw5 hy
          obtain⟨g7,hg7⟩:∃ g,g=wr.heap.size:=⟨_,rfl⟩
          have hgg:g7≠g:=by omega
          rw[← hg7] at hG ⊢
          clear hg7
          replace ho:=ho.below hb5
          replace hb:=hb.trans (hb5.mono hb.size)
          replace hBr:=Nat.le_trans hBr hb5.size
          clear hb5
          obtain⟨l2,hl2⟩:∃ l,l=l1++(t.co.take j).flatMap Tx.encCo:=⟨_,rfl⟩
          rw[← hl2] at ho HLN
          have HL2:=Lib.hid hl2
          clear hl2
          have d0:w5.cell? ⟨g7,0,none⟩=some (.int .i64 c.v):=hG.cell_at rfl
          have hwv:=int_to_u64 c.v
          go_upto_region 15 with(first
            | (go_at_call 109;refine(outNum_any W2.heap.size g v l2 (BitVec.ofInt 64 c.v) 8 (by have:=HLN.out;omega) _ ho hBr).mono ?_;rintro e w6 ⟨⟨u_,rfl⟩,v6,hon,hmn,hln⟩))
          replace hG:=hG.moved hmn (ho.not hG (by decide) hgg)
          have hbn:=hb.trans (out_below ho hmn hNg hNB hb.size)
          replace hb:=hbn
          replace ho:=hon
          replace hBr:=Nat.le_trans hBr hmn.size
          clear hbn hon hmn hln
          clear d0 hwv
          have d1:w6.cell? ⟨g7,1,none⟩=some (.int .u64 (nb64 c.lock)):=hG.cell_at rfl
          go_upto_region 16 with(first
            | (go_at_call 109;refine(outNum_any W2.heap.size g v6 (l2++Pk.num (BitVec.ofInt 64 c.v) 8) c.lock 8 (by have:=HLN.out;rw[List.length_append,show(Pk.num (BitVec.ofInt 64 c.v) 8).length=8 from rfl];omega) _ ho hBr).mono ?_;rintro e w7 ⟨⟨u_,rfl⟩,v7,hon,hmn,hln⟩))
          have hbn:=hb.trans (out_below ho hmn hNg hNB hb.size)
          replace hb:=hbn
          replace ho:=hon
          replace hBr:=Nat.le_trans hBr hmn.size
          clear hbn hon hmn hln
          clear d1 hG
          have hE:l1++(t.co.take (j+1)).flatMap Tx.encCo=l2++Pk.num (BitVec.ofInt 64 c.v) 8++Pk.num c.lock 8:=by
            rw[Tx.take_snoc HC.out,List.flatMap_append,← List.append_assoc,← HL2.out,List.flatMap_singleton]
            simp[Tx.encCo,Pk.num,Pk.okSize]
          have HLN2:=Lib.hid (show(l1++(t.co.take (j+1)).flatMap Tx.encCo).length≤160000+16*(j+1) by
            rw[hE]
            have e1:=HLN.out
            simp only[List.length_append,show(Pk.num (BitVec.ofInt 64 c.v) 8).length=8 from rfl,show(Pk.num c.lock 8).length=8 from rfl]
            omega)
          rw[← hE] at ho
          clear hE HLN
          go_wp2
          go_roundw
          case rel=>exact⟨j+1,v7,by omega,by go_num,ho,HLN2,hb,hBr⟩
          case measure=>(simp[intOf];try omega)
        · have hji:¬ (j:Int)<(m:Int):=by omega
          have htk:t.co.take j=t.co:=List.take_of_length_le (by have e:t.co.length=m:=HT.out.co.1;omega)
          rw[htk] at ho HLN
          clear htk
          have c12:wr.cell? ⟨g1,2,none⟩=some (.bool f):=(hX.under hb hX.lt).cell_at rfl
          obtain⟨l3,hl3⟩:∃ l,l=l1++t.co.flatMap Tx.encCo:=⟨_,rfl⟩
          rw[← hl3] at ho HLN
          have hL:∀ y,l3++[y]=Pk.count t.sp.length++t.sp.flatMap (Tx.encSp true)++Pk.count t.co.length++t.co.flatMap Tx.encCo++[y]:=fun y=>by
            rw[hl3,HL1.out,HL0.out,show t.sp.length=n from HT.out.sp.1,show t.co.length=m from HT.out.co.1]
          have HL:=Lib.hid hL
          clear hl3 hL
          have hlo:w.heap.size≤W1.heap.size:=hBw.size
          cases f
          · have HE:=Lib.hid (show l3++[0#8]=Tx.enc true t by rw[HL.out,Tx.enc,← HF.out];rfl)
            go_wp2_with (first
              | (go_at_call 118;refine(outBytes_any W2.heap.size g v4 (l3++[0#8]) (by rw[List.length_append];have:=HLN.out;show _+1≤_;omega) w4 ho4).mono ?_;rintro e w5 ⟨v5,rfl,ho5,hb5⟩)
              | (go_at_call 109;refine(show Calls Tryz.prog 109 #[.pointer (some ⟨g,0,none⟩),.int .u64 0,.int .i64 1] wr (OutPost W2.heap.size g v (l3++[0#8]) wr) from outNum_any W2.heap.size g v l3 0#64 1 (by have:=HLN.out;omega) wr ho hBr).mono ?_;rintro e w4 ⟨⟨u_,rfl⟩,v4,ho4,hm4,hl4⟩;have hb4:=hb.trans (out_below ho hm4 hNg hNB hb.size)))
            rw[HE.out] at ho5
            go_ret
            exact⟨v5,rfl,ho5.low (Nat.le_trans hlo hb4.size),hBw.trans ((hb4.trans (hb5.mono hb4.size)).mono hBw.size)⟩
          · have HE:=Lib.hid (show l3++[1#8]=Tx.enc true t by rw[HL.out,Tx.enc,← HF.out];rfl)
            go_wp2_with (first
              | (go_at_call 118;refine(outBytes_any W2.heap.size g v4 (l3++[1#8]) (by rw[List.length_append];have:=HLN.out;show _+1≤_;omega) w4 ho4).mono ?_;rintro e w5 ⟨v5,rfl,ho5,hb5⟩)
              | (go_at_call 109;refine(show Calls Tryz.prog 109 #[.pointer (some ⟨g,0,none⟩),.int .u64 1,.int .i64 1] wr (OutPost W2.heap.size g v (l3++[1#8]) wr) from outNum_any W2.heap.size g v l3 1#64 1 (by have:=HLN.out;omega) wr ho hBr).mono ?_;rintro e w4 ⟨⟨u_,rfl⟩,v4,ho4,hm4,hl4⟩;have hb4:=hb.trans (out_below ho hm4 hNg hNB hb.size)))
            rw[HE.out] at ho5
            go_ret
            exact⟨v5,rfl,ho5.low (Nat.le_trans hlo hb4.size),hBw.trans ((hb4.trans (hb5.mono hb4.size)).mono hBw.size)⟩
set_option maxRecDepth 100000 in
set_option maxHeartbeats 16000000 in
theorem enc_false (a:Option Addr) (n q:Nat) (b:Option Addr) (m r:Nat) (t:Tx.T) (f:Bool) (hf:f=t.firm) (w:World) (ht:TxAt w a n q b m r t) (hs:Tx.Small t) :
    Calls Tryz.prog 97 #[txv a n q b m r f,.func (.func 98) #[] #[]] w (BytesPost8 5 w.heap.size (Tx.enc false t) w):=by
  obtain⟨W1,hW1⟩:∃ x,x=w.alloc (.cells #[.slice a n q,.slice b m r,.bool f] 34):=⟨_,rfl⟩
  have hBw:Below w.heap.size w W1:=by rw[hW1];exact(Below.refl _ w).alloc (Nat.le_refl _) _
  have hX:Has W1 w.heap.size 34 #[.slice a n q,.slice b m r,.bool f]:=by rw[hW1];exact Has.fresh w _ _
  have HW:=Lib.hid hW1
  clear hW1
  have HT:=Lib.hid (ht.below hBw)
  have HF:=Lib.hid hf
  have HSM:=Lib.hid hs
  have hn30:n≤30:=by have e:t.sp.length=n:=ht.sp.1;rw[← e];exact hs.1
  have hm30:m≤30:=by have e:t.co.length=m:=ht.co.1;rw[← e];exact hs.2.1
  clear hf ht hs
  go_enter Tryz.func97,Tryz.ntmps97
  go_upto_region 1 with fail
  rw[← HW.out]
  obtain⟨g1,hg1⟩:∃ g,g=w.heap.size:=⟨_,rfl⟩
  rw[← hg1] at hX ⊢
  have HG:=Lib.hid hg1
  clear hg1
  go_upto_region 2 with fail
  obtain⟨W2,hW2⟩:∃ x,x=W1.alloc (.cells #[.slice none 0 0] 167):=⟨_,rfl⟩
  rw[← hW2]
  obtain⟨g,hg⟩:∃ g,g=W1.heap.size:=⟨_,rfl⟩
  rw[← hg]
  have hb:Below W1.heap.size W1 W2:=by rw[hW2];exact(Below.refl _ _).alloc (Nat.le_refl _) _
  have ho:OutS W2.heap.size W2 g (.slice none 0 0) []:=⟨by rw[hg,hW2];exact Has.fresh _ _ _,OwnB.nil _ _ _⟩
  have hNg:W1.heap.size≤g:=by omega
  have hNB:W1.heap.size≤W2.heap.size:=hb.size
  have hgB:g<W2.heap.size:=ho.1.lt
  have hBr:W2.heap.size≤W2.heap.size:=Nat.le_refl _
  clear hW2 hg
  have c10:W2.cell? ⟨g1,0,none⟩=some (.slice a n q):=(hX.under hb hX.lt).cell_at rfl
  go_upto_region 3 with(go_at_call 116;refine(outCount_any W2.heap.size g (.slice none 0 0) [] n (by simp) W2 ho hBr).mono ?_;rintro e w2 ⟨⟨u_,rfl⟩,v2,ho2,hm2,hl2⟩)
  have hb2:=hb.trans (out_below ho hm2 hNg hNB hb.size)
  have hBs:W2.heap.size≤w2.heap.size:=hm2.size
  rw[List.nil_append] at ho2
  clear c10 ho hb hm2 hl2 hBr
  have c10:w2.cell? ⟨g1,0,none⟩=some (.slice a n q):=(hX.under hb2 hX.lt).cell_at rfl
  have hcl:=Pk.count_le (n:Int)
  go_wp2
  clear c10
  go_loopw [18] (fun iv wr=>∃ (i:Nat) (v:Value),i≤n∧iv=.int .i64 i∧OutS W2.heap.size wr g v (Pk.count n++(t.sp.take i).flatMap (Tx.encSp false))∧RowKit.Hid ((Pk.count n++(t.sp.take i).flatMap (Tx.encSp false)).length≤9+5100*i)∧Below W1.heap.size W1 wr∧W2.heap.size≤wr.heap.size) (fun iv _=>n-(intOf iv).toNat)
  case atStart=>exact⟨0,v2,Nat.zero_le _,rfl,by simpa using ho2,Lib.hid (by simpa using hcl),hb2,hBs⟩
  case round=>
    clear ho2 hb2 hcl hBs
    obtain⟨i,v,hi,rfl,ho,HLN,hb,hBr⟩:=hrel
    have c11:wr.cell? ⟨g1,1,none⟩=some (.slice b m r):=(hX.under hb hX.lt).cell_at rfl
    by_cases hlt:i<n
    · have hii:(i:Int)<(n:Int):=by omega
      have hi0:(0:Int)≤(i:Int):=by omega
      obtain⟨s,hs⟩:=HT.out.sp.get hlt
      obtain⟨x,hax,_⟩:=HT.out.sp.2.2.2 i s hs
      subst hax
      have hok:=HT.out.sp.okay hs
      have hy:=spends_at (HT.out.sp.below hb) hs
      have HOK:=Lib.hid hok
      have HS:=Lib.hid hs
      have HK5:=Lib.hid (HSM.out.2.2 s (List.mem_of_getElem? hs))
      clear hok hs c11
      go_upto_region 6 with(first
        | (refine wpList_store_mid rfl 61 (.tmp 7) (.tmp 21) rfl wr.heap.size 0 (spCells s).toArray rfl rfl (spRec.there _ _ rfl HOK.out) (spRec.size_eq size_spend HOK.out) (spRec.all_one s) ?_)
        | (refine wpList_load_run rfl 61 (.tmp 20) rfl _ _ rfl hy ?_))
      obtain⟨w5,hw5⟩:∃ x,x=(wr.alloc (.cells zSp 61)).setCells wr.heap.size 0 (spCells s):=⟨_,rfl⟩
      obtain⟨hG,hb5⟩:=Rec.new (R:=spRec) rfl HOK.out hw5
      rw[← hw5]
      clear hw5 hy
      obtain⟨g7,hg7⟩:∃ g,g=wr.heap.size:=⟨_,rfl⟩
      have hgg:g7≠g:=by omega
      rw[← hg7] at hG ⊢
      clear hg7
      replace ho:=ho.below hb5
      replace hb:=hb.trans (hb5.mono hb.size)
      replace hBr:=Nat.le_trans hBr hb5.size
      clear hb5
      obtain⟨l0,hl0⟩:∃ l,l=Pk.count n++(t.sp.take i).flatMap (Tx.encSp false):=⟨_,rfl⟩
      rw[← hl0] at ho HLN
      have HL0:=Lib.hid hl0
      clear hl0
      have hLb:l0.length≤160000:=by have:=HLN.out;omega
      have HLb:=Lib.hid hLb
      clear hLb
      have lH:=Has.spHash hG HOK.out.1
      go_upto_region 7 with(first
        | (go_at_call 117;refine(outHash_any W2.heap.size g v l0 s.h (by have:=HLb.out;omega) HOK.out.1 _ ho hBr).mono ?_;rintro e w6 ⟨⟨u_,rfl⟩,v6,hon,hmn,hln⟩)
        | (refine wpList_load_run rfl 46 (.tmp 23) rfl _ _ rfl lH ?_))
      replace hG:=hG.moved hmn (ho.not hG (by decide) hgg)
      have hbn:=hb.trans (out_below ho hmn hNg hNB hb.size)
      replace hb:=hbn
      replace ho:=hon
      replace hBr:=Nat.le_trans hBr hmn.size
      clear hbn hon hmn hln
      clear lH
      have c32:=Has.spN hG HOK.out.1
      have hw32:=int_to_u64 s.n
      go_upto_region 8 with(first
        | (go_at_call 109;refine(outNum_any W2.heap.size g v6 (l0++s.h) (BitVec.ofInt 64 s.n) 4 (by have:=HLb.out;have:=HOK.out.1;rw[List.length_append];omega) _ ho hBr).mono ?_;rintro e w7 ⟨⟨u_,rfl⟩,v7,hon,hmn,hln⟩))
      replace hG:=hG.moved hmn (ho.not hG (by decide) hgg)
      have hbn:=hb.trans (out_below ho hmn hNg hNB hb.size)
      replace hb:=hbn
      replace ho:=hon
      replace hBr:=Nat.le_trans hBr hmn.size
      clear hbn hon hmn hln
      clear c32 hw32
      have lG:=hG.load_agg (P:=Tryz.prog) (t:=61) Tryz.underlying61 rfl (spRec.size_eq size_spend HOK.out)
      have HL7:=Lib.hid (show(l0++s.h++Pk.num (BitVec.ofInt 64 s.n) 4).length≤170000 by have:=HLb.out;have:=HOK.out.1;simp only[List.length_append,show(Pk.num (BitVec.ofInt 64 s.n) 4).length=4 from rfl];omega)
      go_upto_region 9 with(first
        | (go_at_call 98;refine(base1_any W2.heap.size g v7 (l0++s.h++Pk.num (BitVec.ofInt 64 s.n) 4) s _ ho).mono ?_;rintro e w8 ⟨⟨u_,rfl⟩,v8,hon,hmn,hln⟩)
        | (refine wpList_load_run rfl 61 (.tmp 7) rfl _ _ rfl lG ?_))
      have hbn:=hb.trans (out_below ho hmn hNg hNB hb.size)
      replace hb:=hbn
      replace ho:=hon
      replace hBr:=Nat.le_trans hBr hmn.size
      clear hbn hon hmn hln
      clear lG hG
      have hE:Pk.count n++(t.sp.take (i+1)).flatMap (Tx.encSp false)=l0++s.h++Pk.num (BitVec.ofInt 64 s.n) 4++([]):=by
        rw[Tx.take_snoc HS.out,List.flatMap_append,← List.append_assoc,← HL0.out,List.flatMap_singleton]
        simp[Tx.encSp,Pk.num,Pk.okSize]
      have HLN2:=Lib.hid (show(Pk.count n++(t.sp.take (i+1)).flatMap (Tx.encSp false)).length≤9+5100*(i+1) by
        rw[Tx.take_snoc HS.out,List.flatMap_append,← List.append_assoc,← HL0.out,List.flatMap_singleton,List.length_append]
        have e1:=HLN.out
        have e2:=Tx.encSp_len false s HOK.out.1 HK5.out
        omega)
      rw[← hE] at ho
      clear hE HLN
      go_wp2
      go_roundw
      case rel=>exact⟨i+1,v8,by omega,by go_num,ho,HLN2,hb,hBr⟩
      case measure=>(simp[intOf];try omega)
    · have hii:¬ (i:Int)<(n:Int):=by omega
      have hin:i=n:=by omega
      have htk:t.sp.take i=t.sp:=List.take_of_length_le (by have e:t.sp.length=n:=HT.out.sp.1;omega)
      rw[htk] at ho HLN
      clear htk hin
      obtain⟨l0,hl0⟩:∃ l,l=Pk.count n++t.sp.flatMap (Tx.encSp false):=⟨_,rfl⟩
      rw[← hl0] at ho HLN
      have HL0:=Lib.hid hl0
      clear hl0
      go_upto_region 11 with(first
        | (go_at_call 116;refine(outCount_any W2.heap.size g v l0 m (by have:=HLN.out;omega) _ ho hBr).mono ?_;rintro e w3 ⟨⟨u_,rfl⟩,v3,hon,hmn,hln⟩))
      have hbn:=hb.trans (out_below ho hmn hNg hNB hb.size)
      replace hb:=hbn
      replace ho:=hon
      replace hBr:=Nat.le_trans hBr hmn.size
      clear hbn hon hmn hln
      clear c11
      have HLC:=Lib.hid (show(l0++Pk.count m).length≤160000 by rw[List.length_append];have:=HLN.out;have:=Pk.count_le (m:Int);omega)
      obtain⟨l1,hl1⟩:∃ l,l=l0++Pk.count m:=⟨_,rfl⟩
      rw[← hl1] at ho HLC
      have HL1:=Lib.hid hl1
      clear hl1 HLN
      have c11:w3.cell? ⟨g1,1,none⟩=some (.slice b m r):=(hX.under hb hX.lt).cell_at rfl
      go_wp2
      clear c11
      go_loopw [42] (fun iv wr=>∃ (j:Nat) (v:Value),j≤m∧iv=.int .i64 j∧OutS W2.heap.size wr g v (l1++(t.co.take j).flatMap Tx.encCo)∧RowKit.Hid ((l1++(t.co.take j).flatMap Tx.encCo).length≤160000+16*j)∧Below W1.heap.size W1 wr∧W2.heap.size≤wr.heap.size) (fun iv _=>m-(intOf iv).toNat)
      case atStart=>exact⟨0,v3,Nat.zero_le _,rfl,by simpa using ho,Lib.hid (by simpa using HLC.out),hb,hBr⟩
      case round=>
        clear ho hb hBr
        obtain⟨j,v,hj,rfl,ho,HLN,hb,hBr⟩:=hrel
        by_cases hlj:j<m
        · have hji:(j:Int)<(m:Int):=by omega
          have hj0:(0:Int)≤(j:Int):=by omega
          obtain⟨c,hc⟩:=HT.out.co.get hlj
          obtain⟨x,hax,_⟩:=HT.out.co.2.2.2 j c hc
          subst hax
          have hy:=coins_at (HT.out.co.below hb) hc
          have HOK:=Lib.hid (HT.out.co.okay hc)
          have HC:=Lib.hid hc
          clear hc
          go_upto_region 14 with(first
            | (refine wpList_store_mid rfl 74 (.tmp 9) (.tmp 45) rfl wr.heap.size 0 (coCells c).toArray rfl rfl (coRec.there _ _ rfl HOK.out) (coRec.size_eq size_coin HOK.out) (coRec.all_one c) ?_)
            | (refine wpList_load_run rfl 74 (.tmp 44) rfl _ _ rfl hy ?_))
          obtain⟨w5,hw5⟩:∃ x,x=(wr.alloc (.cells zCo 74)).setCells wr.heap.size 0 (coCells c):=⟨_,rfl⟩
          obtain⟨hG,hb5⟩:=Rec.new (R:=coRec) rfl HOK.out hw5
          rw[← hw5]
          clear hw5 hy
          obtain⟨g7,hg7⟩:∃ g,g=wr.heap.size:=⟨_,rfl⟩
          have hgg:g7≠g:=by omega
          rw[← hg7] at hG ⊢
          clear hg7
          replace ho:=ho.below hb5
          replace hb:=hb.trans (hb5.mono hb.size)
          replace hBr:=Nat.le_trans hBr hb5.size
          clear hb5
          obtain⟨l2,hl2⟩:∃ l,l=l1++(t.co.take j).flatMap Tx.encCo:=⟨_,rfl⟩
          rw[← hl2] at ho HLN
          have HL2:=Lib.hid hl2
          clear hl2
          have d0:w5.cell? ⟨g7,0,none⟩=some (.int .i64 c.v):=hG.cell_at rfl
          have hwv:=int_to_u64 c.v
          go_upto_region 15 with(first
            | (go_at_call 109;refine(outNum_any W2.heap.size g v l2 (BitVec.ofInt 64 c.v) 8 (by have:=HLN.out;omega) _ ho hBr).mono ?_;rintro e w6 ⟨⟨u_,rfl⟩,v6,hon,hmn,hln⟩))
          replace hG:=hG.moved hmn (ho.not hG (by decide) hgg)
          have hbn:=hb.trans (out_below ho hmn hNg hNB hb.size)
          replace hb:=hbn
          replace ho:=hon
          replace hBr:=Nat.le_trans hBr hmn.size
          clear hbn hon hmn hln
          clear d0 hwv
          have d1:w6.cell? ⟨g7,1,none⟩=some (.int .u64 (nb64 c.lock)):=hG.cell_at rfl
          go_upto_region 16 with(first
            | (go_at_call 109;refine(outNum_any W2.heap.size g v6 (l2++Pk.num (BitVec.ofInt 64 c.v) 8) c.lock 8 (by have:=HLN.out;rw[List.length_append,show(Pk.num (BitVec.ofInt 64 c.v) 8).length=8 from rfl];omega) _ ho hBr).mono ?_;rintro e w7 ⟨⟨u_,rfl⟩,v7,hon,hmn,hln⟩))
          have hbn:=hb.trans (out_below ho hmn hNg hNB hb.size)
          replace hb:=hbn
          replace ho:=hon
          replace hBr:=Nat.le_trans hBr hmn.size
          clear hbn hon hmn hln
          clear d1 hG
          have hE:l1++(t.co.take (j+1)).flatMap Tx.encCo=l2++Pk.num (BitVec.ofInt 64 c.v) 8++Pk.num c.lock 8:=by
            rw[Tx.take_snoc HC.out,List.flatMap_append,← List.append_assoc,← HL2.out,List.flatMap_singleton]
            simp[Tx.encCo,Pk.num,Pk.okSize]
          have HLN2:=Lib.hid (show(l1++(t.co.take (j+1)).flatMap Tx.encCo).length≤160000+16*(j+1) by
            rw[hE]
            have e1:=HLN.out
            simp only[List.length_append,show(Pk.num (BitVec.ofInt 64 c.v) 8).length=8 from rfl,show(Pk.num c.lock 8).length=8 from rfl]
            omega)
          rw[← hE] at ho
          clear hE HLN
          go_wp2
          go_roundw
          case rel=>exact⟨j+1,v7,by omega,by go_num,ho,HLN2,hb,hBr⟩
          case measure=>(simp[intOf];try omega)
        · have hji:¬ (j:Int)<(m:Int):=by omega
          have htk:t.co.take j=t.co:=List.take_of_length_le (by have e:t.co.length=m:=HT.out.co.1;omega)
          rw[htk] at ho HLN
          clear htk
          have c12:wr.cell? ⟨g1,2,none⟩=some (.bool f):=(hX.under hb hX.lt).cell_at rfl
          obtain⟨l3,hl3⟩:∃ l,l=l1++t.co.flatMap Tx.encCo:=⟨_,rfl⟩
          rw[← hl3] at ho HLN
          have hL:∀ y,l3++[y]=Pk.count t.sp.length++t.sp.flatMap (Tx.encSp false)++Pk.count t.co.length++t.co.flatMap Tx.encCo++[y]:=fun y=>by
            rw[hl3,HL1.out,HL0.out,show t.sp.length=n from HT.out.sp.1,show t.co.length=m from HT.out.co.1]
          have HL:=Lib.hid hL
          clear hl3 hL
          have hlo:w.heap.size≤W1.heap.size:=hBw.size
          cases f
          · have HE:=Lib.hid (show l3++[0#8]=Tx.enc false t by rw[HL.out,Tx.enc,← HF.out];rfl)
            go_wp2_with (first
              | (go_at_call 118;refine(outBytes_any W2.heap.size g v4 (l3++[0#8]) (by rw[List.length_append];have:=HLN.out;show _+1≤_;omega) w4 ho4).mono ?_;rintro e w5 ⟨v5,rfl,ho5,hb5⟩)
              | (go_at_call 109;refine(show Calls Tryz.prog 109 #[.pointer (some ⟨g,0,none⟩),.int .u64 0,.int .i64 1] wr (OutPost W2.heap.size g v (l3++[0#8]) wr) from outNum_any W2.heap.size g v l3 0#64 1 (by have:=HLN.out;omega) wr ho hBr).mono ?_;rintro e w4 ⟨⟨u_,rfl⟩,v4,ho4,hm4,hl4⟩;have hb4:=hb.trans (out_below ho hm4 hNg hNB hb.size)))
            rw[HE.out] at ho5
            go_ret
            exact⟨v5,rfl,ho5.low (Nat.le_trans hlo hb4.size),hBw.trans ((hb4.trans (hb5.mono hb4.size)).mono hBw.size)⟩
          · have HE:=Lib.hid (show l3++[1#8]=Tx.enc false t by rw[HL.out,Tx.enc,← HF.out];rfl)
            go_wp2_with (first
              | (go_at_call 118;refine(outBytes_any W2.heap.size g v4 (l3++[1#8]) (by rw[List.length_append];have:=HLN.out;show _+1≤_;omega) w4 ho4).mono ?_;rintro e w5 ⟨v5,rfl,ho5,hb5⟩)
              | (go_at_call 109;refine(show Calls Tryz.prog 109 #[.pointer (some ⟨g,0,none⟩),.int .u64 1,.int .i64 1] wr (OutPost W2.heap.size g v (l3++[1#8]) wr) from outNum_any W2.heap.size g v l3 1#64 1 (by have:=HLN.out;omega) wr ho hBr).mono ?_;rintro e w4 ⟨⟨u_,rfl⟩,v4,ho4,hm4,hl4⟩;have hb4:=hb.trans (out_below ho hm4 hNg hNB hb.size)))
            rw[HE.out] at ho5
            go_ret
            exact⟨v5,rfl,ho5.low (Nat.le_trans hlo hb4.size),hBw.trans ((hb4.trans (hb5.mono hb4.size)).mono hBw.size)⟩
set_option maxRecDepth 100000 in
set_option maxHeartbeats 16000000 in
theorem pbytes_any (a:Option Addr) (n q:Nat) (b:Option Addr) (m r:Nat) (t:Tx.T) (f:Bool) (hf:f=t.firm) (w:World) (ht:TxAt w a n q b m r t) (hs:Tx.Small t) :
    Calls Tryz.prog 92 #[txv a n q b m r f] w (BytesPost8 5 w.heap.size (Tx.enc true t) w):=by
  obtain⟨W1,hW1⟩:∃ x,x=w.alloc (.cells #[.slice a n q,.slice b m r,.bool f] 34):=⟨_,rfl⟩
  have hBw:Below w.heap.size w W1:=by rw[hW1];exact(Below.refl _ w).alloc (Nat.le_refl _) _
  have hX:Has W1 w.heap.size 34 #[.slice a n q,.slice b m r,.bool f]:=by rw[hW1];exact Has.fresh w _ _
  have HW:=Lib.hid hW1
  clear hW1
  have lX:=hX.load_agg (P:=Tryz.prog) (t:=34) Tryz.underlying34 rfl (by kernel_rfl)
  have HT:=Lib.hid (ht.below hBw)
  have HS:=Lib.hid hs
  have HF:=Lib.hid hf
  clear ht hs hX hf
  go_enter Tryz.func92,Tryz.ntmps92
  go_upto_region 1 with fail
  rw[← HW.out]
  go_wp2_with (first
    | (go_at_call 97;refine(enc_true a n q b m r t f HF.out W1 HT.out HS.out).mono ?_;rintro e w2 ⟨v,rfl,ho,hb2⟩)
    | (refine wpList_load_run rfl 34 (.tmp 1) rfl _ _ rfl lX ?_))
  go_ret
  exact⟨v,rfl,ho.low hBw.size,hBw.trans (hb2.mono hBw.size)⟩
set_option maxRecDepth 100000 in
set_option maxHeartbeats 16000000 in
theorem pbase_any (a:Option Addr) (n q:Nat) (b:Option Addr) (m r:Nat) (t:Tx.T) (f:Bool) (hf:f=t.firm) (w:World) (ht:TxAt w a n q b m r t) (hs:Tx.Small t) :
    Calls Tryz.prog 80 #[txv a n q b m r f] w (BytesPost8 5 w.heap.size (Tx.enc false t) w):=by
  obtain⟨W1,hW1⟩:∃ x,x=w.alloc (.cells #[.slice a n q,.slice b m r,.bool f] 34):=⟨_,rfl⟩
  have hBw:Below w.heap.size w W1:=by rw[hW1];exact(Below.refl _ w).alloc (Nat.le_refl _) _
  have hX:Has W1 w.heap.size 34 #[.slice a n q,.slice b m r,.bool f]:=by rw[hW1];exact Has.fresh w _ _
  have HW:=Lib.hid hW1
  clear hW1
  have lX:=hX.load_agg (P:=Tryz.prog) (t:=34) Tryz.underlying34 rfl (by kernel_rfl)
  have HT:=Lib.hid (ht.below hBw)
  have HS:=Lib.hid hs
  have HF:=Lib.hid hf
  clear ht hs hX hf
  go_enter Tryz.func80,Tryz.ntmps80
  go_upto_region 1 with fail
  rw[← HW.out]
  go_wp2_with (first
    | (go_at_call 97;refine(enc_false a n q b m r t f HF.out W1 HT.out HS.out).mono ?_;rintro e w2 ⟨v,rfl,ho,hb2⟩)
    | (refine wpList_load_run rfl 34 (.tmp 1) rfl _ _ rfl lX ?_))
  go_ret
  exact⟨v,rfl,ho.low hBw.size,hBw.trans (hb2.mono hBw.size)⟩
set_option maxRecDepth 100000 in
set_option maxHeartbeats 16000000 in
theorem pweight_any (a:Option Addr) (n q:Nat) (b:Option Addr) (m r:Nat) (t:Tx.T) (f:Bool) (hf:f=t.firm) (w:World) (ht:TxAt w a n q b m r t) (hs:Tx.Small t) :
    Calls Tryz.prog 76 #[txv a n q b m r f] w fun e w'=>e=.returned (.int .i64 (Tx.weight t))∧Below w.heap.size w w':=by
  obtain⟨W1,hW1⟩:∃ x,x=w.alloc (.cells #[.slice a n q,.slice b m r,.bool f] 34):=⟨_,rfl⟩
  have hBw:Below w.heap.size w W1:=by rw[hW1];exact(Below.refl _ w).alloc (Nat.le_refl _) _
  have hX:Has W1 w.heap.size 34 #[.slice a n q,.slice b m r,.bool f]:=by rw[hW1];exact Has.fresh w _ _
  have HW:=Lib.hid hW1
  clear hW1
  have hh:∀ s,s∈t.sp→s.h.length=32:=fun s hx=>(ht.sp.2.2.1 s hx).1
  obtain⟨k1,hk1⟩:∃ k,k=(Tx.enc false t).length:=⟨_,rfl⟩
  obtain⟨k2,hk2⟩:∃ k,k=(Tx.enc true t).length:=⟨_,rfl⟩
  have e1:k1≤200000:=by rw[hk1];exact Tx.enc_len _ t hs hh
  have e2:k2≤200000:=by rw[hk2];exact Tx.enc_len _ t hs hh
  have HWR:=Lib.hid (show IntKind.i64.wrap (3*(k1:Int))=3*(k1:Int)∧IntKind.i64.wrap (3*(k1:Int)+(k2:Int))=3*(k1:Int)+(k2:Int) from⟨IntWalk.i64_in _ (by omega),IntWalk.i64_in _ (by omega)⟩)
  have HK:=Lib.hid (show(Tx.enc false t).length=k1∧(Tx.enc true t).length=k2∧Tx.weight t=3*(k1:Int)+(k2:Int) from⟨hk1.symm,hk2.symm,by rw[Tx.weight,← hk1,← hk2]⟩)
  have HX:=Lib.hid hX
  have HT:=Lib.hid (ht.below hBw)
  have HS:=Lib.hid hs
  have HF:=Lib.hid hf
  clear ht hs hX hk1 hk2 hh hf
  go_enter Tryz.func76,Tryz.ntmps76
  go_upto_region 1 with fail
  rw[← HW.out]
  obtain⟨ws,hws⟩:∃ x,x=W1.drew:=⟨_,rfl⟩
  have hbs:Below W1.heap.size W1 ws:=by rw[hws];exact(Below.refl _ _).drew
  have HXs:=Lib.hid (HX.out.under hbs HX.out.lt)
  have HTs:=Lib.hid (HT.out.below hbs)
  have hBs:=hBw.trans (hbs.mono hBw.size)
  refine wp_region_held_drew (S:=Held ws) (by kernel_rfl) (by rw[hws];exact Held.refl _) (fun hHeld=>?_)
  rw[← hws] at hHeld ⊢
  clear hws hbs
  refine tka 0 3 rfl rfl hHeld (yieldsIf_load_agg (by rfl) 34 (.tmp 1) rfl _ _ (by rfl) (fun wq hSw=>(HXs.out.under hSw HXs.out.lt).load_agg (P:=Tryz.prog) (t:=34) Tryz.underlying34 rfl (by kernel_rfl))) rfl ?_
  simp only[ts0,ts1]
  refine tka 4 7 rfl rfl hHeld (yieldsIf_load_agg (by rfl) 34 (.tmp 1) rfl _ _ (by rfl) (fun wq hSw=>(HXs.out.under hSw HXs.out.lt).load_agg (P:=Tryz.prog) (t:=34) Tryz.underlying34 rfl (by kernel_rfl))) rfl ?_
  simp only[ts0,ts1]
  refine wpAnyH_ready (rs:=[1]) (by kernel_rfl) (by simp) ?_
  refine AllReadyH.cons rfl (fun K hK=>?_) AllReadyH.nil
  go_simp
  go_at_call 80;refine(pbase_any a n q b m r t f HF.out ws HTs.out HS.out).mono ?_;rintro e k1w ⟨v2,rfl,ho2,hk1⟩;obtain⟨x2,c2,rfl,_,_,_⟩:=ho2.shape HK.out.1
  refine hK.out _ _ (Held.of hk1) (fun _=>?_)
  clear hK K
  try simp only[Act.put,List.setIfInBounds_toArray,ts0,ts1]
  refine held_grow (w1:=k1w) (Held.of hk1) ?_
  clear hHeld
  have hHeld:Held k1w k1w:=Held.refl _
  refine tka (v:=?_) 2 5 rfl rfl hHeld (Or.inl ⟨by rfl,?_⟩) rfl ?_
  rotate_left
  · intro wq hSw
    go_simp
    try with_reducible rfl
  simp only[ts0,ts1]
  refine tka (v:=?_) 3 6 rfl rfl hHeld (Or.inl ⟨by rfl,?_⟩) rfl ?_
  rotate_left
  · intro wq hSw
    go_simp
    try with_reducible rfl
  simp only[ts0,ts1]
  refine wpAnyH_ready (rs:=[5]) (by kernel_rfl) (by simp) ?_
  refine AllReadyH.cons rfl (fun K hK=>?_) AllReadyH.nil
  go_simp
  go_at_call 92;refine(pbytes_any a n q b m r t f HF.out k1w (HTs.out.below hk1) HS.out).mono ?_;rintro e k2w ⟨v3,rfl,ho3,hk2⟩;obtain⟨x3,c3,rfl,_,_,_⟩:=ho3.shape HK.out.2.1
  refine hK.out _ _ (Held.of hk2) (fun _=>?_)
  clear hK K
  try simp only[Act.put,List.setIfInBounds_toArray,ts0,ts1]
  refine held_grow (w1:=k2w) (Held.of hk2) ?_
  clear hHeld
  have hHeld:Held k2w k2w:=Held.refl _
  refine tka (v:=?_) 6 9 rfl rfl hHeld (Or.inl ⟨by rfl,?_⟩) rfl ?_
  rotate_left
  · intro wq hSw
    go_simp
    try with_reducible rfl
  simp only[ts0,ts1]
  refine tka (v:=?_) 7 10 rfl rfl hHeld (Or.inl ⟨by rfl,?_⟩) rfl ?_
  rotate_left
  · intro wq hSw
    go_simp
    try with_reducible rfl
  simp only[ts0,ts1]
  refine tka (v:=?_) 8 2 rfl rfl hHeld (Or.inl ⟨by rfl,?_⟩) rfl ?_
  rotate_left
  · intro wq hSw
    go_simp
    try with_reducible rfl
  simp only[ts0,ts1]
  refine wpAnyH_done (by kernel_rfl) ?_ _
  go_wp2
  go_ret
  exact⟨by rw[HK.out.2.2];show Ending.returned (.int .i64 (IntKind.i64.wrap (IntKind.i64.wrap (3*(k1:Int))+(k2:Int))))=_;rw[HWR.out.1,HWR.out.2],hBs.trans ((hk1.trans (hk2.mono hk1.size)).mono hBs.size)⟩
end Go.Proofs.YtijemcfnlbapjaaGreatDoor
