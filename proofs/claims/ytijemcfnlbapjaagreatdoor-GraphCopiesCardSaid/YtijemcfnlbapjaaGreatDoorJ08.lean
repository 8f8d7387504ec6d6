/- what package tx answers, as a premise; the chapter's example · append(own, make([]byte, m)...): zeros behind a slice of bytes that the call has made. Nothing of the program. · the reference's Num, Count, Text, Hash · the reference's Count, Text, Hash · the reference's Text, Hash; strings · package pack: isSize, Out.Num · package pack: Out.Count, Text, Hash, Bytes; slices.Clone · reading integers, counts, texts, digests off bytes: as the reference does it. Nothing of the program. · counts as the package reads them; what was put is read, what was read is put again. Nothing of the program. · the reference's ReadNum · the reference's ReadNum: a number that is there · package pack: a reader; Read, fail, take · the reference's ReadNum: whatever is read · package pack: In.Num, above, Count, Text, Hash, Left, End; Read · package pack: In.Count, Text, Hash, Left, End; Read · package pack: In.Hash -/
import Derived.Test.YtijemcfnlbapjaaGreatDoorJ06
import Derived.Test.YtijemcfnlbapjaaGreatDoorJ07
import Derived.Test.YtijemcfnlbapjaaGreatDoorJ01
import Derived.Laws.AppendOwn
import Derived.Lib.AppendZeros
import Derived.Test.YtijemcfnlbapjaaGreatDoorRows
import Derived.Test.YtijemcfnlbapjaaGreatDoorJ02
import Derived.Lib.Hide
import Derived.Lib.AppendStr
import Derived.IntWalk
import Derived.Deep.Cut
import Derived.BigQuiet
import Derived.OwnWalk
import Derived.StillTailTactics
import Derived.Test.YtijemcfnlbapjaaGreatDoorJ03
import Derived.Deep.RegionLaw
import Derived.Deep.RegionHeld3
import Derived.Lib.SliceRun
namespace Go.Proofs.YtijemcfnlbapjaaGreatDoor
open Go Go.RowKit Go.ChangeShapes Go.WideShapes
namespace Tx
def encSp (all:Bool) (s:Sp):List (BitVec 8):=s.h++Pk.le (BitVec.ofInt 64 s.n) 4++(if all=true then Pk.text s.key++Pk.le s.sl 8 else[])
def encCo (c:Co):List (BitVec 8):=Pk.le (BitVec.ofInt 64 c.v) 8++Pk.le c.lock 8
def enc (all:Bool) (t:T):List (BitVec 8):=Pk.count t.sp.length++t.sp.flatMap (encSp all)++Pk.count t.co.length++t.co.flatMap encCo++[if t.firm=true then 1#8 else 0#8]
def weight (t:T):Int:=3*((enc false t).length:Int)+((enc true t).length:Int)
end Tx
def BytesOut (l:List (BitVec 8)) (w0:World) (e:Ending) (w':World):Prop:=
  ∃ (x:Option Addr) (k c:Nat),e=.returned (.slice x k c)∧Bytes8 w' x k l∧k≤c∧(x=none→c=0)∧Below w0.heap.size w0 w'
structure TxA:Prop where
  check:∀ (a:Option Addr) (n q:Nat) (b:Option Addr) (m r:Nat) (t:Tx.T) (w:World),TxAt w a n q b m r t→Tx.Small t→Calls Tryz.prog 73 #[txv a n q b m r t.firm] w fun e w'=>e=.returned (errn (Tx.check t))∧Below w.heap.size w w'
  base:∀ (a:Option Addr) (n q:Nat) (b:Option Addr) (m r:Nat) (t:Tx.T) (w:World),TxAt w a n q b m r t→Tx.Small t→Calls Tryz.prog 80 #[txv a n q b m r t.firm] w (BytesOut (Tx.enc false t) w)
  bytes:∀ (a:Option Addr) (n q:Nat) (b:Option Addr) (m r:Nat) (t:Tx.T) (w:World),TxAt w a n q b m r t→Tx.Small t→Calls Tryz.prog 92 #[txv a n q b m r t.firm] w (BytesOut (Tx.enc true t) w)
  weight:∀ (a:Option Addr) (n q:Nat) (b:Option Addr) (m r:Nat) (t:Tx.T) (w:World),TxAt w a n q b m r t→Tx.Small t→Calls Tryz.prog 76 #[txv a n q b m r t.firm] w fun e w'=>e=.returned (.int .i64 (Tx.weight t))∧Below w.heap.size w w'
end Go.Proofs.YtijemcfnlbapjaaGreatDoor
namespace Go.Proofs.YtijemcfnlbapjaaGreatDoor
open Go Go.RowKit Go.ChangeShapes Go.WideShapes
end Go.Proofs.YtijemcfnlbapjaaGreatDoor
namespace Go.Proofs.YtijemcfnlbapjaaGreatDoor
open Go Go.RowKit Go.ChangeShapes Go.WideShapes
def BytesPost8 (T:TypeId) (B:Nat) (l:List (BitVec 8)) (w0:World) (e:Ending) (w':World):Prop:=∃ v,e=.returned v∧OwnB T B w' v l∧Below w0.heap.size w0 w'
theorem below_lit8 {w0 w w':World} {T:TypeId} {cs:Array Value} {v:Value} {l:List (BitVec 8)} (hb:Below w0.heap.size w0 w) (ho:OwnB T w0.heap.size w v l) (hg:(w.alloc (.cells cs T)).grownBy w' v.ownBlock):Below w0.heap.size w0 w':=
  below_own_rowb (hb.alloc hb.size _) hg ho.lt
theorem ownB_of_has {T:TypeId} {B:Nat} {w1:World} {g n:Nat} {l:List (BitVec 8)} (hB:B≤g) (hh:Has w1 g T (blist l).toArray) (hl:l.length=n) (hn:n≤1000000):OwnB T B w1 (.slice (some ⟨g,0,none⟩) n n) l:=by
  subst hl
  exact⟨by rw[blist_length,Nat.mul_one],.inr ⟨g,l.length,(blist l).toArray,rfl,hB,hh,Nat.le_refl _,by unfold maxLen;omega,by rw[List.size_toArray,blist_length,Nat.mul_one],List.take_of_length_le (by rw[blist_length,Nat.mul_one];exact Nat.le_refl _)⟩⟩
set_option maxRecDepth 100000 in
set_option maxHeartbeats 4000000 in
theorem rnum_1 (x:BitVec 64) (w:World) :
    Calls Tryz.prog 122 #[.int .u64 (nb64 x),.int .i64 1] w (BytesPost8 5 w.heap.size (Pk.le x 1) w):=by
  go_enter Tryz.func122,Tryz.ntmps122
  go_wp2
  go_loopw [0,5,6] (fun xv bv iv wr=>∃ i:Nat,i≤1∧iv=.int .i64 i∧xv=.int .u64 (nb64 (x>>>(8*i)))∧OwnB 5 w.heap.size wr bv (Pk.le x i)∧Below w.heap.size w wr) (fun _ _ iv _=>1-(intOf iv).toNat)
  case atStart=>exact⟨0,Nat.zero_le _,rfl,by simp,OwnB.nil _ _ _,Below.refl _ _⟩
  case round=>
    obtain⟨i,hi,rfl,rfl,ho,hb⟩:=hrel
    by_cases hlt:i<1
    · have hii:(i:Int)<1:=by omega
      obtain⟨y,hy⟩:∃ y,y=x>>>(8*i):=⟨_,rfl⟩
      have HX:=Lib.hid (show Pk.le x (i+1)=Pk.le x i++[(y%256#64).setWidth 8] by rw[Pk.rem_low,hy];exact Pk.le_snoc x i)
      have HY:=Lib.hid (show y / 256#64=x>>>(8*(i+1)) by rw[hy];exact Pk.quo_shr x i)
      rw[← hy]
      have hle:(Pk.le x i).length+1≤1099511627776:=by rw[Pk.le_len];omega
      clear hy
      go_wp2_with (first
        | (at_builtin;refine wpList_append_lit rfl (.tmp 27) (.tmp 31) 130 rfl 5 Tryz.underlying130 info_byte w.heap.size _ (Pk.le x i) rfl ho 1 [(y%256#64).setWidth 8] rfl #[.int .u8 (nb8 ((y%256#64).setWidth 8))] rfl rfl hle hb.size ?_;intro v2 w2 h2 h3))
      go_roundw
      case rel=>exact⟨i+1,by omega,by go_num,by rw[HY.out],by rw[HX.out];exact h2,below_lit8 hb ho h3⟩
      case measure=>(simp[intOf];try omega)
    · have hin:i=1:=by omega
      subst hin
      have hii:¬ (1:Int)<1:=by omega
      go_wp2
      go_ret
      exact⟨_,rfl,ho,hb⟩
set_option maxRecDepth 100000 in
set_option maxHeartbeats 4000000 in
theorem rnum_2 (x:BitVec 64) (w:World) :
    Calls Tryz.prog 122 #[.int .u64 (nb64 x),.int .i64 2] w (BytesPost8 5 w.heap.size (Pk.le x 2) w):=by
  go_enter Tryz.func122,Tryz.ntmps122
  go_wp2
  go_loopw [0,5,6] (fun xv bv iv wr=>∃ i:Nat,i≤2∧iv=.int .i64 i∧xv=.int .u64 (nb64 (x>>>(8*i)))∧OwnB 5 w.heap.size wr bv (Pk.le x i)∧Below w.heap.size w wr) (fun _ _ iv _=>2-(intOf iv).toNat)
  case atStart=>exact⟨0,Nat.zero_le _,rfl,by simp,OwnB.nil _ _ _,Below.refl _ _⟩
  case round=>
    obtain⟨i,hi,rfl,rfl,ho,hb⟩:=hrel
    by_cases hlt:i<2
    · have hii:(i:Int)<2:=by omega
      obtain⟨y,hy⟩:∃ y,y=x>>>(8*i):=⟨_,rfl⟩
      have HX:=Lib.hid (show Pk.le x (i+1)=Pk.le x i++[(y%256#64).setWidth 8] by rw[Pk.rem_low,hy];exact Pk.le_snoc x i)
      have HY:=Lib.hid (show y / 256#64=x>>>(8*(i+1)) by rw[hy];exact Pk.quo_shr x i)
      rw[← hy]
      have hle:(Pk.le x i).length+1≤1099511627776:=by rw[Pk.le_len];omega
      clear hy
      go_wp2_with (first
        | (at_builtin;refine wpList_append_lit rfl (.tmp 27) (.tmp 31) 130 rfl 5 Tryz.underlying130 info_byte w.heap.size _ (Pk.le x i) rfl ho 1 [(y%256#64).setWidth 8] rfl #[.int .u8 (nb8 ((y%256#64).setWidth 8))] rfl rfl hle hb.size ?_;intro v2 w2 h2 h3))
      go_roundw
      case rel=>exact⟨i+1,by omega,by go_num,by rw[HY.out],by rw[HX.out];exact h2,below_lit8 hb ho h3⟩
      case measure=>(simp[intOf];try omega)
    · have hin:i=2:=by omega
      subst hin
      have hii:¬ (2:Int)<2:=by omega
      go_wp2
      go_ret
      exact⟨_,rfl,ho,hb⟩
set_option maxRecDepth 100000 in
set_option maxHeartbeats 4000000 in
theorem rnum_4 (x:BitVec 64) (w:World) :
    Calls Tryz.prog 122 #[.int .u64 (nb64 x),.int .i64 4] w (BytesPost8 5 w.heap.size (Pk.le x 4) w):=by
  go_enter Tryz.func122,Tryz.ntmps122
  go_wp2
  go_loopw [0,5,6] (fun xv bv iv wr=>∃ i:Nat,i≤4∧iv=.int .i64 i∧xv=.int .u64 (nb64 (x>>>(8*i)))∧OwnB 5 w.heap.size wr bv (Pk.le x i)∧Below w.heap.size w wr) (fun _ _ iv _=>4-(intOf iv).toNat)
  case atStart=>exact⟨0,Nat.zero_le _,rfl,by simp,OwnB.nil _ _ _,Below.refl _ _⟩
  case round=>
    obtain⟨i,hi,rfl,rfl,ho,hb⟩:=hrel
    by_cases hlt:i<4
    · have hii:(i:Int)<4:=by omega
      obtain⟨y,hy⟩:∃ y,y=x>>>(8*i):=⟨_,rfl⟩
      have HX:=Lib.hid (show Pk.le x (i+1)=Pk.le x i++[(y%256#64).setWidth 8] by rw[Pk.rem_low,hy];exact Pk.le_snoc x i)
      have HY:=Lib.hid (show y / 256#64=x>>>(8*(i+1)) by rw[hy];exact Pk.quo_shr x i)
      rw[← hy]
      have hle:(Pk.le x i).length+1≤1099511627776:=by rw[Pk.le_len];omega
      clear hy
      go_wp2_with (first
        | (at_builtin;refine wpList_append_lit rfl (.tmp 27) (.tmp 31) 130 rfl 5 Tryz.underlying130 info_byte w.heap.size _ (Pk.le x i) rfl ho 1 [(y%256#64).setWidth 8] rfl #[.int .u8 (nb8 ((y%256#64).setWidth 8))] rfl rfl hle hb.size ?_;intro v2 w2 h2 h3))
      go_roundw
      case rel=>exact⟨i+1,by omega,by go_num,by rw[HY.out],by rw[HX.out];exact h2,below_lit8 hb ho h3⟩
      case measure=>(simp[intOf];try omega)
    · have hin:i=4:=by omega
      subst hin
      have hii:¬ (4:Int)<4:=by omega
      go_wp2
      go_ret
      exact⟨_,rfl,ho,hb⟩
set_option maxRecDepth 100000 in
set_option maxHeartbeats 4000000 in
theorem rnum_8 (x:BitVec 64) (w:World) :
    Calls Tryz.prog 122 #[.int .u64 (nb64 x),.int .i64 8] w (BytesPost8 5 w.heap.size (Pk.le x 8) w):=by
  go_enter Tryz.func122,Tryz.ntmps122
  go_wp2
  go_loopw [0,5,6] (fun xv bv iv wr=>∃ i:Nat,i≤8∧iv=.int .i64 i∧xv=.int .u64 (nb64 (x>>>(8*i)))∧OwnB 5 w.heap.size wr bv (Pk.le x i)∧Below w.heap.size w wr) (fun _ _ iv _=>8-(intOf iv).toNat)
  case atStart=>exact⟨0,Nat.zero_le _,rfl,by simp,OwnB.nil _ _ _,Below.refl _ _⟩
  case round=>
    obtain⟨i,hi,rfl,rfl,ho,hb⟩:=hrel
    by_cases hlt:i<8
    · have hii:(i:Int)<8:=by omega
      obtain⟨y,hy⟩:∃ y,y=x>>>(8*i):=⟨_,rfl⟩
      have HX:=Lib.hid (show Pk.le x (i+1)=Pk.le x i++[(y%256#64).setWidth 8] by rw[Pk.rem_low,hy];exact Pk.le_snoc x i)
      have HY:=Lib.hid (show y / 256#64=x>>>(8*(i+1)) by rw[hy];exact Pk.quo_shr x i)
      rw[← hy]
      have hle:(Pk.le x i).length+1≤1099511627776:=by rw[Pk.le_len];omega
      clear hy
      go_wp2_with (first
        | (at_builtin;refine wpList_append_lit rfl (.tmp 27) (.tmp 31) 130 rfl 5 Tryz.underlying130 info_byte w.heap.size _ (Pk.le x i) rfl ho 1 [(y%256#64).setWidth 8] rfl #[.int .u8 (nb8 ((y%256#64).setWidth 8))] rfl rfl hle hb.size ?_;intro v2 w2 h2 h3))
      go_roundw
      case rel=>exact⟨i+1,by omega,by go_num,by rw[HY.out],by rw[HX.out];exact h2,below_lit8 hb ho h3⟩
      case measure=>(simp[intOf];try omega)
    · have hin:i=8:=by omega
      subst hin
      have hii:¬ (8:Int)<8:=by omega
      go_wp2
      go_ret
      exact⟨_,rfl,ho,hb⟩
theorem rnum_no (x:BitVec 64) (z:Int) (hz:¬ Pk.okSize z) (w:World) :
    Calls Tryz.prog 122 #[.int .u64 (nb64 x),.int .i64 z] w (BytesPost8 5 w.heap.size [] w):=by
  unfold Pk.okSize at hz
  have h1:(z != 1)=true:=by simp;omega
  have h2:(z != 2)=true:=by simp;omega
  have h4:(z != 4)=true:=by simp;omega
  have h8:(z != 8)=true:=by simp;omega
  clear hz
  go_enter Tryz.func122,Tryz.ntmps122
  go_wp2
  go_ret
  exact⟨_,rfl,OwnB.nil _ _ _,Below.refl _ _⟩
theorem rnum8_any (x:BitVec 64) (z:Int) (w:World):Calls Tryz.prog 122 #[.int .u64 (nb64 x),.int .i64 z] w (BytesPost8 5 w.heap.size (Pk.num x z) w):=by
  unfold Pk.num
  by_cases h:Pk.okSize z
  · rw[if_pos h]
    rcases h with rfl | rfl | rfl | rfl
    · exact rnum_1 x w
    · exact rnum_2 x w
    · exact rnum_4 x w
    · exact rnum_8 x w
  · rw[if_neg h]
    exact rnum_no x z h w
end Go.Proofs.YtijemcfnlbapjaaGreatDoor
namespace Go.Proofs.YtijemcfnlbapjaaGreatDoor
open Go Go.RowKit Go.ChangeShapes Go.WideShapes
theorem int_to_u64 (z:Int):IntKind.u64.wrap z=nb64 (BitVec.ofInt 64 z):=by
  rw[IntKind.wrap_u64]
  simp only[nb64,BitVec.toNat_ofInt]
  omega
set_option maxRecDepth 100000 in
set_option maxHeartbeats 4000000 in
theorem rcount_big (z:Int) (t:BitVec 8) (K:Nat) (hK:t=253#8∧K=2∧252<z∧z≤65535∨t=254#8∧K=4∧65535<z∧z≤4294967295∨t=255#8∧K=8∧4294967295<z) (w:World) :
    Calls Tryz.prog 120 #[.int .i64 z] w (BytesPost8 5 w.heap.size ([t]++Pk.le (BitVec.ofInt 64 z) K) w):=by
  have hcv:=int_to_u64 z
  obtain⟨x,hx⟩:∃ x,x=BitVec.ofInt 64 z:=⟨_,rfl⟩
  rw[← hx] at hcv ⊢
  have hL:=Has.fresh w 5 (blist [t]).toArray
  have hB1:Below w.heap.size w (w.alloc (.cells (blist [t]).toArray 5)):=(Below.refl _ _).alloc (Nat.le_refl _) _
  have HO:=Lib.hid (ownB_of_has (B:=w.heap.size) (n:=1) (Nat.le_refl _) hL rfl (by omega))
  have HB:=Lib.hid hB1
  clear hL hB1 hx
  rcases hK with⟨rfl,rfl,h1,h2⟩ | ⟨rfl,rfl,h1,h2⟩ | ⟨rfl,rfl,h1⟩
  case' inl=>have hN:=fun w=>rnum_2 x w
  case' inr.inl=>have hN:=fun w=>rnum_4 x w
  case' inr.inr=>have hN:=fun w=>rnum_8 x w
  case' inl=>have hz3:z≤65535:=h2
  case' inr.inl=>have hz3:¬ (z≤65535):=by omega
  case' inr.inr=>have hz3:¬ (z≤65535):=by omega
  case' inl=>have hz4:z≤4294967295:=by omega
  case' inr.inl=>have hz4:z≤4294967295:=by omega
  case' inr.inr=>have hz4:¬ (z≤4294967295):=by omega
  all_goals
    have hz1:¬ (z<0):=by omega
    have hz2:¬ (z≤252):=by omega
    have HN:=Lib.hid hN
    clear hN h1
    try clear h2
    go_enter Tryz.func120,Tryz.ntmps120
  case inl=>
    go_wp2_with (first
      | (at_builtin;have ho2:=HO.out.below hb2;refine wpList_append_bytes rfl (.tmp 15) (.tmp 18) 130 rfl 5 Tryz.underlying130 info_byte w.heap.size _ _ rfl ho2 a2 2 c2 _ rfl hr2 hc2 (by simp) (Nat.le_trans HB.out.size hb2.size) ?_;intro v3 w3 ho3 hg3)
      | (go_at_call 122;refine(HN.out _).mono ?_;rintro e w2 ⟨v2,rfl,hv2,hb2⟩;obtain⟨a2,c2,rfl,_,hc2,hr2⟩:=hv2.shape (Pk.le_len _ 2)))
    go_ret
    exact⟨_,rfl,ho3,below_own_rowb (HB.out.trans (hb2.mono HB.out.size)) hg3 ho2.lt⟩
  case inr.inl=>
    go_wp2_with (first
      | (at_builtin;have ho2:=HO.out.below hb2;refine wpList_append_bytes rfl (.tmp 23) (.tmp 26) 130 rfl 5 Tryz.underlying130 info_byte w.heap.size _ _ rfl ho2 a2 4 c2 _ rfl hr2 hc2 (by simp) (Nat.le_trans HB.out.size hb2.size) ?_;intro v3 w3 ho3 hg3)
      | (go_at_call 122;refine(HN.out _).mono ?_;rintro e w2 ⟨v2,rfl,hv2,hb2⟩;obtain⟨a2,c2,rfl,_,hc2,hr2⟩:=hv2.shape (Pk.le_len _ 4)))
    go_ret
    exact⟨_,rfl,ho3,below_own_rowb (HB.out.trans (hb2.mono HB.out.size)) hg3 ho2.lt⟩
  case inr.inr=>
    go_wp2_with (first
      | (at_builtin;have ho2:=HO.out.below hb2;refine wpList_append_bytes rfl (.tmp 28) (.tmp 31) 130 rfl 5 Tryz.underlying130 info_byte w.heap.size _ _ rfl ho2 a2 8 c2 _ rfl hr2 hc2 (by simp) (Nat.le_trans HB.out.size hb2.size) ?_;intro v3 w3 ho3 hg3)
      | (go_at_call 122;refine(HN.out _).mono ?_;rintro e w2 ⟨v2,rfl,hv2,hb2⟩;obtain⟨a2,c2,rfl,_,hc2,hr2⟩:=hv2.shape (Pk.le_len _ 8)))
    go_ret
    exact⟨_,rfl,ho3,below_own_rowb (HB.out.trans (hb2.mono HB.out.size)) hg3 ho2.lt⟩
theorem rcount_any (z:Int) (w:World):Calls Tryz.prog 120 #[.int .i64 z] w (BytesPost8 5 w.heap.size (Pk.count z) w):=by
  unfold Pk.count
  by_cases h0:z<0
  · rw[if_pos h0]
    go_enter Tryz.func120,Tryz.ntmps120
    go_wp2
    go_ret
    exact⟨_,rfl,OwnB.nil _ _ _,Below.refl _ _⟩
  · rw[if_neg h0]
    by_cases h1:z≤252
    · rw[if_pos h1]
      have hcv:=int_to_u64 z
      obtain⟨x,hx⟩:∃ x,x=BitVec.ofInt 64 z:=⟨_,rfl⟩
      rw[← hx] at hcv ⊢
      clear hx
      have HN:=Lib.hid (rnum_1 x w)
      go_enter Tryz.func120,Tryz.ntmps120
      go_wp2_with (go_at_call 122;refine HN.out.mono ?_;rintro e w2 ⟨v2,rfl,hv2,hb2⟩)
      go_ret
      exact⟨_,rfl,hv2,hb2⟩
    · rw[if_neg h1]
      by_cases h2:z≤65535
      · rw[if_pos h2]
        exact rcount_big z _ 2 (.inl ⟨rfl,rfl,by omega,h2⟩) w
      · rw[if_neg h2]
        by_cases h3:z≤4294967295
        · rw[if_pos h3]
          exact rcount_big z _ 4 (.inr (.inl ⟨rfl,rfl,by omega,h3⟩)) w
        · rw[if_neg h3]
          exact rcount_big z _ 8 (.inr (.inr ⟨rfl,rfl,by omega⟩)) w
end Go.Proofs.YtijemcfnlbapjaaGreatDoor
namespace Go.Proofs.YtijemcfnlbapjaaGreatDoor
open Go Go.RowKit Go.ChangeShapes Go.WideShapes
theorem strCells_strB (l:List (BitVec 8)):Lib.strCells (strB l)=blist l:=by
  unfold Lib.strCells strB strOfNums blist
  apply List.ext_getElem?
  intro i
  simp only[List.map_map,List.getElem?_map]
  cases l[i]? with
  | none=>rfl
  | some x=>
    have hx:=x.isLt
    show some (Value.int .u8 ((UInt8.ofNat (nb8 x).toNat).toNat:Int))=some (Value.int .u8 (nb8 x))
    rw[show(nb8 x).toNat=x.toNat from rfl,UInt8.toNat_ofNat_of_lt' hx]
    rfl
set_option maxRecDepth 100000 in
set_option maxHeartbeats 4000000 in
theorem rtext_any (l:List (BitVec 8)) (hl:l.length≤1000000) (w:World):Calls Tryz.prog 123 #[.string (strB l)] w (BytesPost8 5 w.heap.size (Pk.text l) w):=by
  have hsz:=strB_size l
  have HC:=Lib.hid (rcount_any (l.length:Int) w)
  have HL:=Lib.hid hl
  obtain⟨n,hn⟩:∃ n,n=l.length:=⟨_,rfl⟩
  rw[← hn] at hsz HC
  have HN:=Lib.hid hn
  clear hl hn
  go_enter Tryz.func123,Tryz.ntmps123
  go_wp2_with (first
    | (at_builtin;have hw2:=hv2;obtain⟨i0,hi,hz0,hz1,hz2⟩:=info_parts info_byte;refine Lib.wpList_append_own_string _ rfl (.tmp 5) (.tmp 6) 130 9 rfl w.heap.size 5 i0 Tryz.underlying130 Tryz.underlying9 hi hz0 hz1 hz2 v2 _ _ rfl hw2 (strB l) rfl (by rw[strB_size];have:=Pk.count_le n;have:=HL.out;unfold maxLen;omega) (by rw[strB_size];have:=Pk.count_le n;have:=HL.out;omega) hb2.size ?_;intro v3 w3 ho3 hg3 _)
    | (go_at_call 120;refine HC.out.mono ?_;rintro e w2 ⟨v2,rfl,hv2,hb2⟩))
  go_ret
  refine⟨_,rfl,?_,below_own_rowb hb2 hg3 hw2.lt⟩
  rw[strCells_strB,strB_size] at ho3
  unfold Pk.text
  rw[← HN.out]
  exact OwnB.all rfl ho3
set_option maxRecDepth 100000 in
set_option maxHeartbeats 4000000 in
theorem rhash_any (l:List (BitVec 8)) (hl:l.length=32) (w:World) :
    Calls Tryz.prog 121 #[.agg (blist l).toArray] w (BytesPost8 5 w.heap.size l w):=by
  have HL:=Lib.hid hl
  clear hl
  go_enter Tryz.func121,Tryz.ntmps121
  go_wp2
  have hG:Has (w.alloc (.cells (blist l).toArray 46)) w.heap.size 46 (blist l).toArray:=Has.fresh _ _ _
  have hB:Below w.heap.size w (w.alloc (.cells (blist l).toArray 46)):=(Below.refl _ _).alloc (Nat.le_refl _) _
  generalize (w.alloc (.cells (blist l).toArray 46))=w0 at hG hB ⊢
  have hsz:=Lib.hid hB.size
  go_loopw [3,4] (fun bv iv wr=>∃ i:Nat,i≤32∧iv=.int .i64 i∧OwnB 5 w0.heap.size wr bv (l.take i)∧Below w0.heap.size w0 wr) (fun _ iv _=>32-(intOf iv).toNat)
  case atStart=>exact⟨0,Nat.zero_le _,rfl,OwnB.nil _ _ _,Below.refl _ _⟩
  case round=>
    obtain⟨i,hi,rfl,ho,hb⟩:=hrel
    by_cases hlt:i<32
    · have hG1:=hG.under hb hG.lt
      have hc:wr.cell? ⟨w.heap.size,i,none⟩=some (.int .u8 (nb8 (cb l i))):=hG1.cell_at (by rw[List.getElem?_toArray];exact blist_at l i (by rw[HL.out];exact hlt))
      obtain⟨b,hbb⟩:∃ b,b=cb l i:=⟨_,rfl⟩
      rw[← hbb] at hc
      have HX:=Lib.hid (show l.take (i+1)=l.take i++[b] by
        rw[hbb,List.take_succ_eq_append_getElem (by rw[HL.out];exact hlt),cb,List.getD_eq_getElem?_getD,List.getElem?_eq_getElem (by rw[HL.out];exact hlt)]
        rfl)
      have hle:(l.take i).length+1≤1099511627776:=by rw[List.length_take];omega
      have hi0:(0:Int)≤(i:Int):=by omega
      have hi1:(i:Int)<32:=by omega
      clear hbb
      go_wp2_with (first
        | (at_builtin;refine wpList_append_lit rfl (.tmp 9) (.tmp 13) 130 rfl 5 Tryz.underlying130 info_byte w0.heap.size _ (l.take i) rfl ho 1 [b] rfl #[.int .u8 (nb8 b)] rfl rfl hle hb.size ?_;intro v2 w2 h2 h3))
      go_roundw
      case rel=>exact⟨i+1,by omega,by go_num,by rw[HX.out];exact h2,below_lit8 hb ho h3⟩
      case measure=>(simp[intOf];try omega)
    · have hin:i=32:=by omega
      subst hin
      have hii:¬ (32:Int)<32:=by omega
      have hti:l.take 32=l:=List.take_of_length_le (by rw[HL.out];exact Nat.le_refl _)
      rw[hti] at ho
      have HO:=Lib.hid ho
      clear hti hi hlt ho
      go_wp2
      go_ret
      exact⟨_,rfl,HO.out.low hsz.out,hB.trans (hb.mono hB.size)⟩
end Go.Proofs.YtijemcfnlbapjaaGreatDoor
namespace Go.Proofs.YtijemcfnlbapjaaGreatDoor
open Go Go.RowKit Go.ChangeShapes Go.WideShapes
def OutS (B:Nat) (w:World) (g:Nat) (v:Value) (l:List (BitVec 8)):Prop:=Has w g 167 #[v]∧OwnB 5 B w v l
def outF (g:Nat) (v:Value):Nat→Prop:=fun k=>k=g∨v.ownBlock=some k
def OutPost (B g:Nat) (v:Value) (l:List (BitVec 8)) (w0:World) (e:Ending) (w':World):Prop:=
  (∃ u,e=.returned u)∧∃ v',OutS B w' g v' l∧Moved (outF g v) w0 w'∧Lies w0 v v'
theorem OutS.apart {B:Nat} {w:World} {g:Nat} {v:Value} {l:List (BitVec 8)} (h:OutS B w g v l):∀ k,v.ownBlock=some k→k≠g:=h.2.apart h.1 (by rfl)
theorem outF_lies {w:World} {g:Nat} {v v':Value} (h:Lies w v v'):∀ k,outF g v' k→outF g v k∨w.heap.size≤k:=fun k hk=>hk.elim (fun e=>.inl (.inl e)) (fun e=>(h k e).elim (fun e=>.inl (.inr e)) .inr)
theorem OutPost.then {B g:Nat} {v v1:Value} {l:List (BitVec 8)} {w0 w1:World} (hm:Moved (outF g v) w0 w1) (hl:Lies w0 v v1) {e:Ending} {w':World} (h:OutPost B g v1 l w1 e w'):OutPost B g v l w0 e w':=by
  obtain⟨hu,v',h1,h2,h3⟩:=h
  exact⟨hu,v',h1,hm.trans h2 (outF_lies hl),hl.trans h3 hm.size⟩
theorem OutS.grow {B:Nat} {w0 w w1 w2:World} {g:Nat} {v0 v a:Value} {l m:List (BitVec 8)} (h:OutS B w g v l) (hm:Moved (outF g v0) w0 w) (hli:Lies w0 v0 v) (hb:Below w.heap.size w w1) (hg:w1.grownBy w2 v.ownBlock) (ho:OwnB 5 B w2 a m) (hl:Lies w1 v a) :
    Has w2 g 167 #[v]∧OutS B (w2.setCell ⟨g,0,none⟩ a) g a m∧Moved (outF g v0) w0 (w2.setCell ⟨g,0,none⟩ a)∧Lies w0 v0 a:=by
  have h1:Has w1 g 167 #[v]:=h.1.under hb h.1.lt
  have h2:Has w2 g 167 #[v]:=h1.moved (F:=fun k=>v.ownBlock=some k) (Moved.of_grown hg (fun _ e=>e)) (fun e=>h.apart g e rfl)
  have hap:=ho.apart h2 (by rfl)
  have hm1:Moved (outF g v0) w0 w1:=hm.then hb
  have hm2:Moved (outF g v0) w0 w2:=hm1.trans (G:=fun k=>v.ownBlock=some k) (Moved.of_grown hg (fun _ e=>e)) (fun k e=>(hli k e).elim (fun e=>.inl (.inr e)) .inr)
  exact⟨h2,⟨h2.put 0 a,ho.moved (F:=fun k=>k=g) ⟨rfl,rfl,rfl,by simp,fun k hk hf=>Below.heap_setCell w2 _ a k hf⟩ hap⟩,hm2.put (.inl (.inl rfl)) 0 a,hli.trans hl hm1.size⟩
theorem isSize_no (z:Int) (hz:¬ Pk.okSize z) (w:World):Calls Tryz.prog 126 #[.int .i64 z] w fun e w'=>e=.returned (.bool false)∧w=w':=by
  unfold Pk.okSize at hz
  have h1:(z==1)=false:=by simp;omega
  have h2:(z==2)=false:=by simp;omega
  have h4:(z==4)=false:=by simp;omega
  have h8:(z==8)=false:=by simp;omega
  clear hz
  go_enter Tryz.func126,Tryz.ntmps126
  go_wp2
  go_ret
  exact⟨rfl,rfl⟩
theorem isSize_ok (z:Int) (hz:Pk.okSize z) (w:World):Calls Tryz.prog 126 #[.int .i64 z] w fun e w'=>e=.returned (.bool true)∧w=w':=by
  unfold Pk.okSize at hz
  rcases hz with rfl | rfl | rfl | rfl<;>
  · go_enter Tryz.func126,Tryz.ntmps126
    go_wp2
    go_ret
    exact⟨rfl,rfl⟩
theorem outNum_no (g:Nat) (x:BitVec 64) (z:Int) (hz:¬ Pk.okSize z) (w:World):Calls Tryz.prog 109 #[.pointer (some ⟨g,0,none⟩),.int .u64 (nb64 x),.int .i64 z] w fun e w'=>(∃ u,e=.returned u)∧w=w':=by
  have HI:=Lib.hid (isSize_no z hz w)
  clear hz
  go_enter Tryz.func109,Tryz.ntmps109
  go_wp2_with (go_at_call 126;refine HI.out.mono ?_;rintro e w' ⟨rfl,rfl⟩)
  exact bodyPost_ret (results_none rfl _ _ _) rfl ⟨⟨_,rfl⟩,rfl⟩
set_option maxRecDepth 100000 in
set_option maxHeartbeats 4000000 in
theorem outNum_ok (B g:Nat) (v:Value) (l:List (BitVec 8)) (x:BitVec 64) (K:Nat) (hK:Pk.okSize K) (hl:l.length≤1000000) (w:World) (h:OutS B w g v l) (hBw:B≤w.heap.size) :
    Calls Tryz.prog 109 #[.pointer (some ⟨g,0,none⟩),.int .u64 (nb64 x),.int .i64 K] w (OutPost B g v (l++Pk.le x K) w):=by
  have HI:=Lib.hid (isSize_ok K hK w)
  have hK8:K≤8:=by unfold Pk.okSize at hK;omega
  have HL:=Lib.hid hl
  have HS:=Lib.hid h
  have HBW:=Lib.hid hBw
  clear hK hl h hBw
  go_enter Tryz.func109,Tryz.ntmps109
  go_wp2_with (go_at_call 126;refine HI.out.mono ?_;rintro e w' ⟨rfl,rfl⟩)
  go_loopw [15] (fun iv wr=>∃ i:Nat,i≤K∧iv=.int .i64 i∧∃ v',OutS B wr g v' (l++Pk.le x i)∧Moved (outF g v) w wr∧Lies w v v') (fun iv _=>K-(intOf iv).toNat)
  case atStart=>exact⟨0,Nat.zero_le _,rfl,v,by simpa [Pk.le] using HS.out,Moved.refl _ _,Lies.refl _ _⟩
  case round=>
    obtain⟨i,hi,rfl,v',ho,hm,hli⟩:=hrel
    by_cases hlt:i<K
    · have hii:(i:Int)<(K:Int):=by omega
      have HX:=Lib.hid (show(l++Pk.le x i)++[(x>>>(8*i)).setWidth 8]=l++Pk.le x (i+1) by rw[Pk.le_snoc,List.append_assoc])
      obtain⟨M,hM⟩:∃ M,(l++Pk.le x i++[(x>>>(8*i)).setWidth 8]).length=M:=⟨_,rfl⟩
      have HM:=Lib.hid hM
      clear hM
      have HLE:=Lib.hid (show(l++Pk.le x i).length+1≤1099511627776 by rw[List.length_append,Pk.le_len];have:=HL.out;omega)
      have c0:wr.cell? ⟨g,0,none⟩=some v':=ho.1.cell_at rfl
      have f0:wr.frozen? ⟨g,0,none⟩=false:=ho.1.loose 0
      have cA:(wr.alloc (.cells #[.int .u8 (nb8 ((x>>>(8*i)).setWidth 8))] 5)).cell? ⟨g,0,none⟩=some v':=(ho.1.past _).cell_at rfl
      have hwi:IntKind.i64.wrap ((i:Int))=(i:Int):=IntWalk.i64_in _ (by omega)
      have hw8:IntKind.i64.wrap (8*(i:Int))=((8*i:Nat):Int):=by rw[IntWalk.i64_in _ (by omega)];omega
      have HO:=Lib.hid ho
      have HN:=Lib.hid (show ∀ w2,w2=wr.drew.alloc (.cells #[.int .u8 (nb8 ((x>>>(8*i)).setWidth 8))] 5)→Bytes8 w2 (some ⟨wr.heap.size,0,none⟩) 1 [(x>>>(8*i)).setWidth 8] from fun w2 e=>by
        subst e
        refine⟨rfl,by unfold maxLen;omega,fun j hj=>⟨_,rfl,?_⟩⟩
        obtain rfl:j=0:=by omega
        exact(Has.fresh wr.drew 5 _).cell_at rfl)
      have HBR:=Lib.hid (show B≤(wr.drew.alloc (.cells #[.int .u8 (nb8 ((x>>>(8*i)).setWidth 8))] 5)).heap.size by have:=hm.size;have:=HBW.out;simp;omega)
      clear ho
      have hshr:∀ t,binOp .shr t (.int .u64 (nb64 x)) (.int .i64 (8*(i:Int)))=pure (.int .u64 (nb64 (x>>>(8*i)))):=fun t=>by
        have:=u64_shr_n t .i64 x (8*i)
        rwa [show((8*i:Nat):Int)=8*(i:Int) by omega] at this
      go_upto_region 4 with fail
      go_region_law (refine step_append_bytes_at (by rfl) (.tmp 22) (.tmp 28) 130 rfl 5 Tryz.underlying130 info_byte B v' (l++Pk.le x i) (by simp[Act.eval]) (HO.out.2.below (((Below.refl _ _).drew).alloc (Nat.le_refl _) _)) (some ⟨wr.heap.size,0,none⟩) 1 1 [(x>>>(8*i)).setWidth 8] (by simp[Act.eval]) (HN.out _ rfl) (fun e=>by cases e) HLE.out HBR.out ?_;intro v2 w2 h1 h2 h3;obtain⟨a2,c2,rfl,_,_,_⟩:=h1.shape HM.out;obtain⟨hg2,hs2,hm2,hl2⟩:=HO.out.grow hm hli (((Below.refl _ _).drew).alloc (Nat.le_refl _) _) h2 h1 h3;have hc2:=hg2.cell_at (i:=0) rfl;have hf2:=hg2.loose 0)
      all_goals
        go_wp2
        go_roundw
        case rel=>exact⟨i+1,by omega,by go_num,_,by rw[← HX.out];exact hs2,hm2,hl2⟩
        case measure=>(simp[intOf];try omega)
    · have hik:i=K:=by omega
      subst hik
      have hii:¬ (i:Int)<(i:Int):=by omega
      go_wp2
      exact bodyPost_ret (results_none rfl _ _ _) rfl ⟨⟨_,rfl⟩,v',ho,hm,hli⟩
end Go.Proofs.YtijemcfnlbapjaaGreatDoor
namespace Go.Proofs.YtijemcfnlbapjaaGreatDoor
open Go Go.RowKit Go.ChangeShapes Go.WideShapes
theorem OutPost.same {B g:Nat} {v:Value} {l l':List (BitVec 8)} {w:World} (h:OutS B w g v l) (hl:l=l') {e:Ending} (hu:∃ u,e=.returned u):OutPost B g v l' w e w:=by
  subst hl
  exact⟨hu,v,h,Moved.refl _ _,Lies.refl _ _⟩
theorem outNum_any (B g:Nat) (v:Value) (l:List (BitVec 8)) (x:BitVec 64) (z:Int) (hl:l.length≤1000000) (w:World) (h:OutS B w g v l) (hBw:B≤w.heap.size) :
    Calls Tryz.prog 109 #[.pointer (some ⟨g,0,none⟩),.int .u64 (nb64 x),.int .i64 z] w (OutPost B g v (l++Pk.num x z) w):=by
  unfold Pk.num
  by_cases hz:Pk.okSize z
  · rw[if_pos hz]
    have hK:∃ K:Nat,z=K:=⟨z.toNat,by unfold Pk.okSize at hz;omega⟩
    obtain⟨K,rfl⟩:=hK
    exact outNum_ok B g v l x K hz hl w h hBw
  · rw[if_neg hz]
    refine(outNum_no g x z hz w).mono ?_
    rintro e w' ⟨hu,rfl⟩
    exact OutPost.same h (by simp) hu
set_option maxRecDepth 100000 in
set_option maxHeartbeats 4000000 in
theorem outCount_big (B g:Nat) (v:Value) (l:List (BitVec 8)) (z:Int) (t:BitVec 8) (K:Nat) (hK:t=253#8∧K=2∧252<z∧z≤65535∨t=254#8∧K=4∧65535<z∧z≤4294967295∨t=255#8∧K=8∧4294967295<z) (hl:l.length≤999999) (w:World) (h:OutS B w g v l) (hBw:B≤w.heap.size) :
    Calls Tryz.prog 116 #[.pointer (some ⟨g,0,none⟩),.int .i64 z] w (OutPost B g v (l++([t]++Pk.le (BitVec.ofInt 64 z) K)) w):=by
  have hcv:=int_to_u64 z
  obtain⟨x,hx⟩:∃ x,x=BitVec.ofInt 64 z:=⟨_,rfl⟩
  rw[← hx] at hcv ⊢
  have H1:∀ n:BitVec 64,OutS B w g v l→Calls Tryz.prog 109 #[.pointer (some ⟨g,0,none⟩),.int .u64 (nb64 n),.int .i64 1] w (OutPost B g v (l++[n.setWidth 8]) w):=fun n h=>by
    have:=outNum_ok B g v l n 1 (.inl rfl) (by omega) w h hBw
    rwa [show Pk.le n 1=[n.setWidth 8] by simp[Pk.le]] at this
  have H2:∀ (v1:Value) (w1:World),OutS B w1 g v1 (l++[t])→Moved (outF g v) w w1→Calls Tryz.prog 109 #[.pointer (some ⟨g,0,none⟩),.int .u64 (nb64 x),.int .i64 K] w1 (OutPost B g v1 ((l++[t])++Pk.le x K) w1):=fun v1 w1 h hm=>
    outNum_ok B g v1 (l++[t]) x K (by unfold Pk.okSize;omega) (by simp;omega) w1 h (Nat.le_trans hBw hm.size)
  have HA:=Lib.hid (show l++[t]++Pk.le x K=l++([t]++Pk.le x K) by rw[List.append_assoc])
  have HS:=Lib.hid h
  clear hx h hBw
  rcases hK with⟨rfl,rfl,h1,h2⟩ | ⟨rfl,rfl,h1,h2⟩ | ⟨rfl,rfl,h1⟩
  case' inl=>have G1:=Lib.hid (show Calls Tryz.prog 109 #[.pointer (some ⟨g,0,none⟩),.int .u64 253,.int .i64 1] w (OutPost B g v (l++[253#8]) w) from H1 253#64 HS.out)
  case' inr.inl=>have G1:=Lib.hid (show Calls Tryz.prog 109 #[.pointer (some ⟨g,0,none⟩),.int .u64 254,.int .i64 1] w (OutPost B g v (l++[254#8]) w) from H1 254#64 HS.out)
  case' inr.inr=>have G1:=Lib.hid (show Calls Tryz.prog 109 #[.pointer (some ⟨g,0,none⟩),.int .u64 255,.int .i64 1] w (OutPost B g v (l++[255#8]) w) from H1 255#64 HS.out)
  case' inl=>have hz3:z≤65535:=h2
  case' inr.inl=>have hz3:¬ (z≤65535):=by omega
  case' inr.inr=>have hz3:¬ (z≤65535):=by omega
  case' inl=>have hz4:z≤4294967295:=by omega
  case' inr.inl=>have hz4:z≤4294967295:=by omega
  case' inr.inr=>have hz4:¬ (z≤4294967295):=by omega
  all_goals
    have hz1:¬ (z<0):=by omega
    have hz2:¬ (z≤252):=by omega
    have G2:=Lib.hid H2
    clear H1 H2 h1
    try clear h2
    go_enter Tryz.func116,Tryz.ntmps116
    go_wp2_with (first
      | (go_at_call 109;refine(G2.out _ _ hs1 hm1).mono ?_;intro e w2 hp2;obtain⟨⟨u2,rfl⟩,v2,hs2,hm2,hl2⟩:=hp2.then hm1 hl1)
      | (go_at_call 109;(with_reducible refine G1.out.mono ?_);rintro e w1 ⟨⟨u1,rfl⟩,v1,hs1,hm1,hl1⟩))
    exact bodyPost_ret (results_none rfl _ _ _) rfl ⟨⟨_,rfl⟩,v2,HA.out▸hs2,hm2,hl2⟩
set_option maxHeartbeats 4000000 in
theorem outCount_any (B g:Nat) (v:Value) (l:List (BitVec 8)) (z:Int) (hl:l.length≤999999) (w:World) (h:OutS B w g v l) (hBw:B≤w.heap.size) :
    Calls Tryz.prog 116 #[.pointer (some ⟨g,0,none⟩),.int .i64 z] w (OutPost B g v (l++Pk.count z) w):=by
  unfold Pk.count
  by_cases h0:z<0
  · rw[if_pos h0]
    have HS:=Lib.hid h
    clear h
    go_enter Tryz.func116,Tryz.ntmps116
    go_wp2
    exact bodyPost_ret (results_none rfl _ _ _) rfl (OutPost.same HS.out (by simp) ⟨_,rfl⟩)
  · rw[if_neg h0]
    by_cases h1:z≤252
    · rw[if_pos h1]
      have hcv:=int_to_u64 z
      obtain⟨x,hx⟩:∃ x,x=BitVec.ofInt 64 z:=⟨_,rfl⟩
      rw[← hx] at hcv ⊢
      have G:=Lib.hid (outNum_ok B g v l x 1 (.inl rfl) (by omega) w h hBw)
      clear hx h
      go_enter Tryz.func116,Tryz.ntmps116
      go_wp2_with (go_at_call 109;refine G.out.mono ?_;rintro e w1 ⟨⟨u1,rfl⟩,v1,hs1,hm1,hl1⟩)
      exact bodyPost_ret (results_none rfl _ _ _) rfl ⟨⟨_,rfl⟩,v1,hs1,hm1,hl1⟩
    · rw[if_neg h1]
      by_cases h2:z≤65535
      · rw[if_pos h2]
        exact outCount_big B g v l z _ 2 (.inl ⟨rfl,rfl,by omega,h2⟩) hl w h hBw
      · rw[if_neg h2]
        by_cases h3:z≤4294967295
        · rw[if_pos h3]
          exact outCount_big B g v l z _ 4 (.inr (.inl ⟨rfl,rfl,by omega,h3⟩)) hl w h hBw
        · rw[if_neg h3]
          exact outCount_big B g v l z _ 8 (.inr (.inr ⟨rfl,rfl,by omega⟩)) hl w h hBw
set_option maxHeartbeats 4000000 in
theorem outText_any (B g:Nat) (v:Value) (l s:List (BitVec 8)) (hl:l.length≤900000) (hs:s.length≤1000000) (w:World) (h:OutS B w g v l) (hBw:B≤w.heap.size) :
    Calls Tryz.prog 108 #[.pointer (some ⟨g,0,none⟩),.string (strB s)] w (OutPost B g v (l++Pk.text s) w):=by
  have hsz:=strB_size s
  obtain⟨n,hn⟩:∃ n,n=s.length:=⟨_,rfl⟩
  have HX:=Lib.hid (show(l++Pk.count n)++s=l++Pk.text s by unfold Pk.text;rw[List.append_assoc,hn])
  have HL:=Lib.hid (show(l++Pk.count n).length+s.length≤1099511627776 by rw[List.length_append];have:=Pk.count_le n;omega)
  obtain⟨M,hM⟩:∃ M,(l++Pk.count n++s).length=M:=⟨_,rfl⟩
  have HM:=Lib.hid hM
  have HB:=Lib.hid hBw
  have HC:=Lib.hid (outCount_any B g v l (n:Int) (by omega) w h hBw)
  rw[← hn] at hsz
  clear hl hs hM hBw h hn
  go_enter Tryz.func108,Tryz.ntmps108
  go_upto_region 2 with(go_at_call 116;refine HC.out.mono ?_;rintro e w1 ⟨⟨u1,rfl⟩,v1,hs1,hm1,hl1⟩)
  have c0:w1.cell? ⟨g,0,none⟩=some v1:=hs1.1.cell_at rfl
  have f0:w1.frozen? ⟨g,0,none⟩=false:=hs1.1.loose 0
  have HS1:=Lib.hid hs1
  clear hs1
  go_wp2_with (at_builtin;refine wpList_append_str_at rfl (.tmp 14) (.tmp 15) 130 9 rfl 5 Tryz.underlying130 Tryz.underlying9 info_byte B v1 _ rfl HS1.out.2 s rfl HL.out (Nat.le_trans HB.out hm1.size) ?_;intro v2 w2 h1 h2 h3;obtain⟨a2,c2,rfl,_,_,_⟩:=h1.shape HM.out;obtain⟨hg2,hs2,hm2,hl2⟩:=HS1.out.grow hm1 hl1 (Below.refl _ _) h2 h1 h3;have hc2:=hg2.cell_at (i:=0) rfl;have hf2:=hg2.loose 0)
  exact bodyPost_ret (results_none rfl _ _ _) rfl ⟨⟨_,rfl⟩,_,by rw[← HX.out];exact hs2,hm2,hl2⟩
set_option maxRecDepth 100000 in
set_option maxHeartbeats 4000000 in
theorem outHash_any (B g:Nat) (v:Value) (l s:List (BitVec 8)) (hl:l.length≤1000000) (hs:s.length=32) (w:World) (h:OutS B w g v l) (hBw:B≤w.heap.size) :
    Calls Tryz.prog 117 #[.pointer (some ⟨g,0,none⟩),.agg (blist s).toArray] w (OutPost B g v (l++s) w):=by
  have HL:=Lib.hid (show l.length+32≤1099511627776 by omega)
  obtain⟨w0,hw0⟩:∃ x,x=w.alloc (.cells (blist s).toArray 46):=⟨_,rfl⟩
  have hb0:Below w.heap.size w w0:=by rw[hw0];exact(Below.refl _ _).alloc (Nat.le_refl _) _
  have HA:=Lib.hid (show Bytes8 w0 (some ⟨w.heap.size,0,none⟩) 32 s from⟨hs,by unfold maxLen;omega,fun i hi=>⟨_,rfl,by
    rw[Addr.add_mid,Nat.zero_add,hw0]
    exact(Has.fresh w 46 _).cell_at (by rw[List.getElem?_toArray];exact blist_at s i (by omega))⟩⟩)
  have HS:=Lib.hid (show OutS B w0 g v l from⟨h.1.under hb0 h.1.lt,h.2.below hb0⟩)
  have HB:=Lib.hid (Nat.le_trans hBw hb0.size)
  have HM:=Lib.hid (show(l++s).length=l.length+32 by simp[hs])
  obtain⟨M,hM⟩:∃ M,M=l.length+32:=⟨_,rfl⟩
  rw[← hM] at HM
  have c0:w0.cell? ⟨g,0,none⟩=some v:=HS.out.1.cell_at rfl
  have f0:w0.frozen? ⟨g,0,none⟩=false:=HS.out.1.loose 0
  have HW0:=Lib.hid hw0
  clear hl hs h hBw hM hw0
  go_enter Tryz.func117,Tryz.ntmps117
  go_upto_region 2 with fail
  rw[← HW0.out]
  go_region_law (refine step_append_bytes_at (by rfl) (.tmp 10) (.tmp 11) 130 rfl 5 Tryz.underlying130 info_byte B v l (by simp[Act.eval]) (HS.out.2.below (Below.refl _ _).drew) (some ⟨w.heap.size,0,none⟩) 32 32 s (by simp[Act.eval]) HA.out.draw (fun e=>by cases e) HL.out HB.out ?_;intro v2 w2 h1 h2 h3;obtain⟨a2,c2,rfl,_,_,_⟩:=h1.shape HM.out;obtain⟨hg2,hs2,hm2,hl2⟩:=HS.out.grow (Moved.of_below hb0) ((Lies.refl w v).up (Nat.le_refl _)) (Below.refl _ _).drew h2 h1 h3;have hc2:=hg2.cell_at (i:=0) rfl;have hf2:=hg2.loose 0)
  all_goals
    go_wp2
    exact bodyPost_ret (results_none rfl _ _ _) rfl ⟨⟨_,rfl⟩,_,hs2,hm2,hl2⟩
set_option maxHeartbeats 4000000 in
theorem clone8_any (a:Option Addr) (n c:Nat) (l:List (BitVec 8)) (w:World) (h:Bytes8 w a n l) (hc:a=none→c=0) (hn:n≤1000000000) :
    Calls Tryz.prog 141 #[.slice a n c] w (BytesPost8 5 w.heap.size l w):=by
  cases a with
  | none=>
    obtain rfl:=hc rfl
    have h0:n=0:=by
      rcases Nat.eq_zero_or_pos n with h0 | h0
      · exact h0
      · obtain⟨_,e,_⟩:=h.2.2 0 h0
        cases e
    subst h0
    obtain rfl:=List.length_eq_zero_iff.1 h.1
    have hq:=Lib.run_eql_slice_nil (P:=Tryz.prog) w 130 5 none 0 0 0 0 Tryz.underlying130
    go_enter Tryz.func141,Tryz.ntmps141
    go_wp2
    go_ret
    exact⟨_,rfl,OwnB.nil _ _ _,Below.refl _ _⟩
  | some x=>
    have HB:=Lib.hid ((Below.refl w.heap.size w).alloc (Nat.le_refl _) (.cells #[] 5))
    have HO:=Lib.hid (show OwnB 5 w.heap.size (w.alloc (.cells #[] 5)) (.slice (some ⟨w.heap.size,0,none⟩) 0 0) [] from OwnB.empty (Nat.le_refl _) (Has.fresh _ _ _))
    have HA:=Lib.hid (h.past (.cells #[] 5))
    have HN:=Lib.hid hn
    have hq:=Lib.run_eql_slice_nil (P:=Tryz.prog) w 130 5 (some x) n c 0 0 Tryz.underlying130
    clear h hn hc
    go_enter Tryz.func141,Tryz.ntmps141
    go_wp2_with (at_builtin;refine wpList_append_bytes rfl (.tmp 5) (.tmp 6) 130 rfl 5 Tryz.underlying130 info_byte w.heap.size _ _ rfl HO.out (some x) n c _ rfl HA.out (fun e=>by cases e) (by have:=HN.out;simp;omega) (by simp) ?_;intro v3 w3 ho3 hg3)
    go_ret
    exact⟨_,rfl,ho3,below_own_rowb HB.out hg3 HO.out.lt⟩
set_option maxHeartbeats 4000000 in
theorem outBytes_any (B g:Nat) (v:Value) (l:List (BitVec 8)) (hl:l.length≤1000000) (w:World) (h:OutS B w g v l) :
    Calls Tryz.prog 118 #[.pointer (some ⟨g,0,none⟩)] w (BytesPost8 5 w.heap.size l w):=by
  have c0:w.cell? ⟨g,0,none⟩=some v:=h.1.cell_at rfl
  obtain⟨M,hM⟩:∃ M,l.length=M:=⟨_,rfl⟩
  obtain⟨a,c,rfl,hc,h0,hB⟩:=h.2.shape hM
  have HC:=Lib.hid (clone8_any a M c l w hB h0 (by omega))
  clear h hM hB h0 hl
  go_enter Tryz.func118,Tryz.ntmps118
  go_wp2_with (go_at_call 141;refine HC.out.mono ?_;rintro e w1 ⟨v1,rfl,hv1,hb1⟩)
  go_ret
  exact⟨_,rfl,hv1,hb1⟩
end Go.Proofs.YtijemcfnlbapjaaGreatDoor
namespace Go.Proofs.YtijemcfnlbapjaaGreatDoor.Pk
open Go.Proofs.YtijemcfnlbapjaaGreatDoor
end Go.Proofs.YtijemcfnlbapjaaGreatDoor.Pk
namespace Go.Proofs.YtijemcfnlbapjaaGreatDoor.Pk
open Go.Proofs.YtijemcfnlbapjaaGreatDoor
end Go.Proofs.YtijemcfnlbapjaaGreatDoor.Pk
namespace Go.Proofs.YtijemcfnlbapjaaGreatDoor
open Go Go.RowKit Go.ChangeShapes Go.WideShapes
end Go.Proofs.YtijemcfnlbapjaaGreatDoor
namespace Go.Proofs.YtijemcfnlbapjaaGreatDoor
open Go Go.RowKit Go.ChangeShapes Go.WideShapes
end Go.Proofs.YtijemcfnlbapjaaGreatDoor
namespace Go.Proofs.YtijemcfnlbapjaaGreatDoor
open Go Go.RowKit Go.ChangeShapes Go.WideShapes
end Go.Proofs.YtijemcfnlbapjaaGreatDoor
namespace Go.Proofs.YtijemcfnlbapjaaGreatDoor
open Go Go.RowKit Go.ChangeShapes Go.WideShapes
end Go.Proofs.YtijemcfnlbapjaaGreatDoor
namespace Go.Proofs.YtijemcfnlbapjaaGreatDoor
open Go Go.RowKit Go.ChangeShapes Go.WideShapes
end Go.Proofs.YtijemcfnlbapjaaGreatDoor
namespace Go.Proofs.YtijemcfnlbapjaaGreatDoor
open Go Go.RowKit Go.ChangeShapes Go.WideShapes
end Go.Proofs.YtijemcfnlbapjaaGreatDoor
namespace Go.Proofs.YtijemcfnlbapjaaGreatDoor
open Go Go.RowKit Go.ChangeShapes Go.WideShapes
end Go.Proofs.YtijemcfnlbapjaaGreatDoor
