/- package digest: the blocks, one after the other · SHA-256 of abc, word by word, step by step · what package digest answers, as a premise; the example -/
import Derived.Test.YtijemcfnlbapjaaGreatDoorJ13
import Derived.Test.YtijemcfnlbapjaaGreatDoorJ11
namespace Go.Proofs.YtijemcfnlbapjaaGreatDoor
open Go Go.RowKit Go.Shelf Go.ChangeShapes Go.WideShapes
attribute [local go_sem] Oper.semAt_some
theorem putAll_mid:∀ (vs:List Value) (cs:Array Value) (o:Nat),o+vs.length≤cs.size→putAll cs o vs=(cs.toList.take o++vs++cs.toList.drop (o+vs.length)).toArray
  | [],cs,o,_=>by rw[putAll];simp
  | v :: vs,cs,o,h=>by
    have hs:(cs.setIfInBounds o v).size=cs.size:=Array.size_setIfInBounds
    simp only[List.length_cons] at h
    rw[putAll,putAll_mid vs _ (o+1) (by rw[hs];omega)]
    have ho:o<cs.toList.length:=by rw[Array.length_toList];omega
    rw[Array.toList_setIfInBounds]
    congr 1
    rw[List.take_succ_eq_append_getElem (by rw[List.length_set];exact ho),List.getElem_set_self,List.take_set_of_le (Nat.le_refl _),List.drop_set_of_lt (by omega),List.length_cons,show o+1+vs.length=o+(vs.length+1) by omega]
    simp
def Dg.ow (b r:List (BitVec 8)) (u q:Nat):List (BitVec 8):=b.take u++r.take q++b.drop (u+q)
theorem Dg.ow_put (b r:List (BitVec 8)) (u q:Nat) (hq:q≤r.length) (h:u+q≤b.length):putAll (blist b).toArray u (blist (r.take q))=(blist (Dg.ow b r u q)).toArray:=by
  have hl:(blist (r.take q)).length=q:=by rw[blist_length,List.length_take];omega
  rw[putAll_mid _ _ _ (by rw[hl,List.size_toArray,blist_length];exact h),hl]
  unfold Dg.ow
  rw[blist_app,blist_app]
  unfold blist
  simp
theorem Dg.ow_len (b r:List (BitVec 8)) (u q:Nat) (hq:q≤r.length) (h:u+q≤b.length):(Dg.ow b r u q).length=b.length:=by
  unfold Dg.ow;simp;omega
theorem Dg.ow_at (b r:List (BitVec 8)) (u q:Nat) (hq:q≤r.length) (h:u+q≤b.length) (j:Nat) (hj:j<u+q):cb (Dg.ow b r u q) j=if j<u then cb b j else cb r (j-u):=by
  unfold Dg.ow cb
  rw[List.getD_eq_getElem?_getD,List.getD_eq_getElem?_getD,List.getD_eq_getElem?_getD,List.getElem?_append_left (by simp;omega)]
  by_cases h1:j<u
  · rw[if_pos h1,List.getElem?_append_left (by simp;omega),List.getElem?_take,if_pos h1]
  · rw[if_neg h1,List.getElem?_append_right (by simp;omega),List.getElem?_take,List.length_take,show min u b.length=u by omega,if_pos (by omega)]
def Dg.blkB (L:List (BitVec 8)) (s:Nat):List (BitVec 8):=(L.drop (64*s)).take 64
theorem Dg.blkB_len (L:List (BitVec 8)) (s:Nat) (h:64*(s+1)≤L.length):(Dg.blkB L s).length=64:=by unfold Dg.blkB;simp;omega
theorem Dg.blkB_at (L:List (BitVec 8)) (s j:Nat) (hj:j<64):cb (Dg.blkB L s) j=cb L (64*s+j):=by
  unfold Dg.blkB cb
  rw[List.getD_eq_getElem?_getD,List.getD_eq_getElem?_getD,List.getElem?_take,if_pos hj,List.getElem?_drop]
theorem cb_ext {a b:List (BitVec 8)} (hl:a.length=b.length) (h:∀ j,j<a.length→cb a j=cb b j):a=b:=by
  apply List.ext_getElem hl
  intro j h1 h2
  have:=h j h1
  unfold cb at this
  rw[List.getD_eq_getElem?_getD,List.getD_eq_getElem?_getD,List.getElem?_eq_getElem h1,List.getElem?_eq_getElem h2] at this
  exact this
theorem Dg.part_at (LL:List (List (BitVec 8))) (k j:Nat) (hk:k≤LL.length) (hj:j<((Dg.parts LL).getD k []).length):cb ((Dg.parts LL).getD k []) j=cb (Dg.pad LL.flatten) (Dg.off LL k+j):=by
  rw[← Dg.parts_flat]
  have hkl:k<(Dg.parts LL).length:=by simp[Dg.parts];omega
  have:(Dg.parts LL).flatten=((Dg.parts LL).take (k+1)).flatten++((Dg.parts LL).drop (k+1)).flatten:=by
    rw[← List.flatten_append,List.take_append_drop]
  rw[this,take_snoc _ hkl]
  unfold cb Dg.off
  rw[List.getD_eq_getElem?_getD,List.getD_eq_getElem?_getD (l:=_++_++_),List.append_assoc,List.getElem?_append_right (by omega),Nat.add_sub_cancel_left,List.getElem?_append_left hj]
theorem Dg.off_max (LL:List (List (BitVec 8))) (k:Nat):Dg.off LL k≤(Dg.pad LL.flatten).length:=by
  rw[← Dg.parts_flat]
  unfold Dg.off
  conv=>rhs;rw[← List.take_append_drop k (Dg.parts LL),List.flatten_append,List.length_append]
  omega
def Blk (W:World) (gB:Nat) (L:List (BitVec 8)) (p:Nat):Prop:=∃ b:List (BitVec 8),b.length=64∧(∀ j,j<p%64→cb b j=cb L (64*(p / 64)+j))∧Has W gB 163 (blist b).toArray
theorem Src.drop {C n q:Nat} {w0 W:World} {y:Addr} {l:List (BitVec 8)} (h:Src C w0 W (some y) n l) (hq:q≤n):Src C w0 W (some (y.add q)) (n-q) (l.drop q):=by
  have key:∀ X:World,Bytes8 X (some y) n l→Bytes8 X (some (y.add q)) (n-q) (l.drop q):=fun X hb=>by
    refine⟨by rw[List.length_drop,hb.1],by have:=hb.2.1;omega,fun i hi=>⟨_,rfl,?_⟩⟩
    obtain⟨x,e,hx⟩:=hb.2.2 (q+i) (by omega)
    injection e with e
    subst e
    rw[Addr.add_add,hx]
    congr 3
    unfold cb
    rw[List.getD_eq_getElem?_getD,List.getD_eq_getElem?_getD,List.getElem?_drop]
  rcases h with h | ⟨g,o,h1,h2,h3,h4⟩
  · exact Or.inl (key _ h)
  · injection h3 with h3
    subst h3
    refine Or.inr ⟨g,o+q,h1,h2,?_,key _ h4⟩
    rw[Addr.add_mid]
def RdB (L:List (BitVec 8)) (N:Nat) (_ s:Nat) (_:World) (x:List (BitVec 8)) (s':Nat):Prop:=s'=s+1∧s<N∧x=Dg.blkB L s
def encB (x:List (BitVec 8)):Array Value:=#[.agg (blist x).toArray]
theorem blocks_any (a:Option Addr) (n c:Nat) (w:World) :
    Calls Tryz.prog 113 #[.slice a n c] w fun e w'=>
      e=.returned (.func (.func 137) #[] #[.pointer (some ⟨w.heap.size,0,none⟩)])∧w'=w.alloc (.cells #[.slice a n c] 143):=by
  go_enter Tryz.func113,Tryz.ntmps113
  go_wp2
  go_ret
  exact⟨rfl,rfl⟩
abbrev zb64:Array Value:=#[.int .u8 0,.int .u8 0,.int .u8 0,.int .u8 0,.int .u8 0,.int .u8 0,.int .u8 0,.int .u8 0,.int .u8 0,.int .u8 0,.int .u8 0,.int .u8 0,.int .u8 0,.int .u8 0,.int .u8 0,.int .u8 0,.int .u8 0,.int .u8 0,.int .u8 0,.int .u8 0,.int .u8 0,.int .u8 0,.int .u8 0,.int .u8 0,.int .u8 0,.int .u8 0,.int .u8 0,.int .u8 0,.int .u8 0,.int .u8 0,.int .u8 0,.int .u8 0,.int .u8 0,.int .u8 0,.int .u8 0,.int .u8 0,.int .u8 0,.int .u8 0,.int .u8 0,.int .u8 0,.int .u8 0,.int .u8 0,.int .u8 0,.int .u8 0,.int .u8 0,.int .u8 0,.int .u8 0,.int .u8 0,.int .u8 0,.int .u8 0,.int .u8 0,.int .u8 0,.int .u8 0,.int .u8 0,.int .u8 0,.int .u8 0,.int .u8 0,.int .u8 0,.int .u8 0,.int .u8 0,.int .u8 0,.int .u8 0,.int .u8 0,.int .u8 0]
theorem Blk.under {W W':World} {B gB p:Nat} {L:List (BitVec 8)} (h:Blk W gB L p) (hb:Below B W W') (hg:gB<B):Blk W' gB L p:=by
  obtain⟨b,h1,h2,h3⟩:=h
  exact⟨b,h1,h2,h3.under hb hg⟩
def MidB (J:Nat→World→Prop) (lp gY gB gU gP:Nat) (a:Option Addr) (n c:Nat) (L:List (BitVec 8)) (p:Nat) (W:World):Prop:=
  J (p / 64) W∧Has W gY 188 #[.func (.yield lp) #[] #[]]∧Has W gP 143 #[.slice a n c]∧Blk W gB L p∧Has W gU 3 #[.int .i64 ((p%64:Nat):Int)]
set_option maxRecDepth 100000 in
set_option maxHeartbeats 8000000 in
theorem blocks_iter (m:Nat) (hm:3≤m) (Bx:Nat) (a:Option Addr) (n c:Nat) (LL:List (List (BitVec 8))) (w0 w:World) (hP:Parts w0 a n LL) (hfl:LL.flatten.length≤1000000) (hnn:n≤1000000) :
    IterK Fence.wide m Tryz.prog 137 #[.pointer (some ⟨Bx,0,none⟩)] encB (GdP w0 Bx a n c) 0 (RdB (Dg.pad LL.flatten) ((Dg.pad LL.flatten).length / 64)) (fun s=>s=(Dg.pad LL.flatten).length / 64) w:=by
  intro lp J W hW hJ hG hY h0
  have hb:W.cell? ⟨Bx,0,none⟩=some (.slice a n c):=(hG 0 W h0).2.cell_at (i:=0) rfl
  have hm1:1≤m:=by omega
  have hm2:1≤m-1 - 1:=by omega
  have hmix:Tryz.prog.follows .mixedOrders=true:=rfl
  have hmodL:=Lib.hid (Dg.pad_mod LL.flatten)
  have hnL:=Lib.hid hP.1
  obtain⟨L,hL⟩:∃ L,L=Dg.pad LL.flatten:=⟨_,rfl⟩
  have HLd:=Lib.hid hL
  rw[← hL] at hY hmodL
  rw[← hL]
  clear hL
  obtain⟨wB,hwB⟩:∃ x,x=((W.alloc (.cells #[.func (.yield lp) #[] #[]] 188)).alloc (.cells zb64 163)).alloc (.cells #[.int .i64 0] 3):=⟨_,rfl⟩
  have hYB:Has wB W.heap.size 188 #[.func (.yield lp) #[] #[]]:=by rw[hwB];exact((Has.fresh _ _ _).past _).past _
  have hBB:Has wB (W.heap.size+1) 163 zb64:=by rw[hwB];exact(Has.fresh_at _ _ _ (by simp)).past _
  have hUB:Has wB (W.heap.size+1+1) 3 #[.int .i64 0]:=by rw[hwB];exact Has.fresh_at _ _ _ (by simp)
  have hbwB:Below W.heap.size W wB:=by rw[hwB];exact(((Below.refl _ W).alloc (Nat.le_refl _) _).alloc (by simp) _).alloc (by simp;omega) _
  have cbB:wB.cell? ⟨Bx,0,none⟩=some (.slice a n c):=(hbwB.cell (isSome_lt (p:=⟨Bx,0,none⟩) (by rw[hb];rfl))).trans hb
  have cbN:=cbB
  rw[hwB] at cbN
  refine callsIn_of_wp_marks Tryz.func137 rfl trivial ?_ rfl
  simp only[Tryz.ntmps137,List.size_toArray,List.length_cons,List.length_nil,Nat.reduceAdd,Nat.reduceSub,Array.replicate_succ,Array.replicate_zero,List.push_toArray,List.append_toArray,List.nil_append,List.cons_append]
  gi_wp2_with (first
    | rw[← hwB]
    | (refine⟨trivial,?_⟩;(gi_at_call 138;refine(callsIn_wide.2 (padded_any a n c _)).mono ?_;rintro e wQ ⟨rfl,rfl⟩)))
  obtain⟨wD,hwD⟩:∃ x,x=wB.alloc (.cells #[.slice a n c] 143):=⟨_,rfl⟩
  rw[← hwD]
  have hsB:wB.heap.size=W.heap.size+1+1+1:=by rw[hwB];simp
  have hYD:Has wD W.heap.size 188 #[.func (.yield lp) #[] #[]]:=by rw[hwD];exact hYB.past _
  have hBD:Has wD (W.heap.size+1) 163 zb64:=by rw[hwD];exact hBB.past _
  have hUD:Has wD (W.heap.size+1+1) 3 #[.int .i64 0]:=by rw[hwD];exact hUB.past _
  have hPD:Has wD (W.heap.size+1+1+1) 143 #[.slice a n c]:=by rw[hwD];exact Has.fresh_at _ _ _ hsB.symm
  have hbD:Below W.heap.size W wD:=by rw[hwD];exact hbwB.alloc hbwB.size _
  have hsD:wD.heap.size=W.heap.size+4:=by rw[hwD,World.size_alloc,hsB]
  clear hwD hsB hUB hBB hYB hbwB cbB cbN hwB hb
  obtain⟨gP,hgP⟩:∃ g,g=W.heap.size+1+1+1:=⟨_,rfl⟩
  rw[← hgP] at hPD ⊢
  obtain⟨gU,hgU⟩:∃ g,g=W.heap.size+1+1:=⟨_,rfl⟩
  rw[← hgU] at hUD ⊢
  obtain⟨gB,hgB⟩:∃ g,g=W.heap.size+1:=⟨_,rfl⟩
  rw[← hgB] at hBD ⊢
  obtain⟨gY,hgY⟩:∃ g,g=W.heap.size:=⟨_,rfl⟩
  rw[← hgY] at hYD ⊢
  have H4:=Lib.hid (And.intro hgP (And.intro hgU (And.intro hgB (And.intro hgY hsD))))
  clear hgP hgU hgB hgY hsD
  have h0Q:MidB J lp gY gB gU gP a n c L (Dg.off LL 0) wD:=by
    rw[show Dg.off LL 0=0 from rfl]
    exact⟨hJ 0 _ _ h0 hbD,hYD,hPD,⟨List.replicate 64 0#8,rfl,(fun j hj=>absurd hj (Nat.not_lt_zero _)),hBD⟩,hUD⟩
  clear hYD hPD hBD hUD h0
  refine wpIn_range_keep (F:=Fence.wide) rfl (by omega) (gf:=147) (lb:=#[.pointer (some ⟨gP,0,none⟩)]) rfl trivial (enters_of Tryz.func147 (by kernel_rfl) rfl)
    (padded_iter (m-1) (by omega) gP a n c LL w0 wD hP hfl hnn) (Below.refl _ _) (fun _=>rfl)
    (fun k W'=>MidB J lp gY gB gU gP a n c L (Dg.off LL k) W') ?hI ?hG h0Q
    (fun k x k' a' W'=>a'={ tmps:=#[.func (.yield lp) #[] #[],.pointer (some ⟨Bx,0,none⟩),.pointer (some ⟨gY,0,none⟩),.pointer (some ⟨gB,0,none⟩),.pointer (some ⟨gU,0,none⟩),.slice x.1 x.2.1 x.2.2,undef,.slice a n c,.func (.func 147) #[] #[.pointer (some ⟨gP,0,none⟩)],.slice x.1 x.2.1 x.2.2,undef,undef,undef,undef,undef,undef,undef,undef,undef,undef,undef,undef,undef,undef,undef,undef,undef,undef,undef,undef,undef,undef,undef],defers:=[] }∧RdP w0 LL (wD.heap.size+2) k W' x k')
    ?hAx ?assign ?body ?done
  case hI=>
    intro k W1 W2 h hb
    have h4:=H4.out
    exact⟨hJ _ _ _ h.1 (hb.mono (by omega)),h.2.1.under hb (by omega),h.2.2.1.under hb (by omega),h.2.2.2.1.under hb (by omega),h.2.2.2.2.under hb (by omega)⟩
  case hG=>exact fun k W1 h=>⟨(hG _ _ h.1).1,h.2.2.1⟩
  case hAx=>exact fun x k' a' k W1 W2 row h hg hr=>⟨h.1,h.2.1,h.2.2.1,h.2.2.2.1,h.2.2.2.2.own hg hr⟩
  case assign=>
    intro l k x k' W' K hi hsz hrd hK
    dsimp only[encS]
    gi_wp2
    exact hK _ _ (Keeps.refl _ _) hi ⟨rfl,hrd⟩
  case done=>
    rintro D k W' hD rfl hi hK
    have h4:=H4.out
    have hsz:D<W'.heap.size:=(Array.getElem?_eq_some_iff.1 hK).1
    have hend:Dg.off LL (n+1) / 64=L.length / 64:=by rw[← hnL.out,Dg.off_all,HLd.out]
    have hJe:=hi.1
    rw[hend] at hJe
    have HJ:=Lib.hid (hJ _ _ _ hJe (below_put_one W' (l:=D) (by omega) (.deferred none)))
    clear hi hJe hend
    gi_wp2
    exact leaves_none rfl (Or.inr rfl) hK (fun v=>⟨⟨_,rfl⟩,_,rfl,HJ.out,by rw[World.putObj_size];omega⟩)
  case body=>
    rintro l k ⟨ya0,xm,xc⟩ k' a' W' hi hsz ⟨rfl,rfl,hk,hxc,hsrc⟩
    replace hxc:xm≤xc:=hxc
    obtain⟨pt,hpt⟩:∃ pt,pt=(Dg.parts LL).getD k []:=⟨_,rfl⟩
    replace hsrc:Src (wD.heap.size+2) w0 W' ya0 xm ((Dg.parts LL).getD k []):=hsrc
    rw[← hpt] at hsrc
    obtain⟨P0,hP0⟩:∃ p,p=Dg.off LL k:=⟨_,rfl⟩
    have hlen:pt.length=xm:=(hsrc.bytes (hG _ _ hi.1).1).1
    have hat:∀ j,j<xm→cb pt j=cb L (P0+j):=fun j hj=>by
      rw[hpt,HLd.out,hP0]
      exact Dg.part_at LL k j hk (by rw[← hpt,hlen];exact hj)
    have hoff:Dg.off LL (k+1)=P0+xm:=by rw[Dg.off_step LL hk,← hpt,hlen,hP0]
    have hmax:P0+xm≤L.length:=by rw[← hoff,HLd.out];exact Dg.off_max LL (k+1)
    replace hi:MidB J lp gY gB gU gP a n c L (Dg.off LL k) W':=hi
    rw[← hP0] at hi
    have HO:=Lib.hid hoff
    have HA:=Lib.hid (And.intro hat (And.intro hmax (And.intro hlen hxc)))
    dsimp only
    clear hpt hP0 hoff hat hmax hlen
    gi_wp2
    gi_loopw [5] (fun v wr=>∃ (d:Nat) (ya:Option Addr) (yc:Nat),d≤xm∧v=.slice ya (xm-d) yc∧xm-d≤yc∧Src (wD.heap.size+2) w0 wr ya (xm-d) (pt.drop d)∧MidB J lp gY gB gU gP a n c L (P0+d) wr∧Keeps wD.heap.size W' wr) (fun v _=>sliceLen v)
    case atStart=>exact⟨0,ya0,xc,Nat.zero_le _,rfl,hxc,hsrc,hi,Keeps.refl _ _⟩
    case round=>
      clear hi hsrc hxc
      obtain⟨d,ya,yc,hd,rfl,hyc,hsrc,⟨hJs,hYs,hPs,⟨b,hbl,hbj,hBs⟩,hUs⟩,hkp⟩:=hrel
      by_cases hend:d=xm
      · have e0:xm-d=0:=by omega
        have HE:=Lib.hid hend
        rw[e0]
        clear hend e0 hsrc hyc hd
        gi_wp2
        refine⟨hkp,?_⟩
        show MidB J lp gY gB gU gP a n c L (Dg.off LL (k+1)) wr
        rw[HO.out,← HE.out]
        exact⟨hJs,hYs,hPs,⟨b,hbl,hbj,hBs⟩,hUs⟩
      · obtain⟨rl,hrl⟩:∃ r,r=xm-d:=⟨_,rfl⟩
        rw[← hrl] at hsrc hyc ⊢
        obtain⟨p,hp⟩:∃ p,p=P0+d:=⟨_,rfl⟩
        rw[← hp] at hJs hbj hUs
        obtain⟨u,hu⟩:∃ u,u=p%64:=⟨_,rfl⟩
        rw[← hu] at hbj hUs
        obtain⟨s,hs⟩:∃ s,s=p / 64:=⟨_,rfl⟩
        rw[← hs] at hbj hJs
        obtain⟨r,hr⟩:∃ r,r=pt.drop d:=⟨_,rfl⟩
        rw[← hr] at hsrc
        have hu64:u<64:=by rw[hu];exact Nat.mod_lt _ (by omega)
        have hrl0:0<rl:=by omega
        have hby:=hsrc.bytes (hG _ _ hJs).1
        obtain⟨y0,rfl,_⟩:=hby.2.2 0 hrl0
        have hrlm:=hby.2.1
        unfold maxLen at hrlm
        obtain⟨q,hq⟩:∃ q,q=Nat.min rl (64-u):=⟨_,rfl⟩
        have hq1:q≤rl:=by rw[hq];exact Nat.min_le_left _ _
        have hq2:u+q≤64:=by have:q≤64-u:=by rw[hq];exact Nat.min_le_right _ _
                            omega
        have hq3:q=rl∨u+q=64:=by rw[hq];rcases Nat.le_total rl (64-u) with h | h
                                 · left;exact Nat.min_eq_left h
                                 · right;have e:Nat.min rl (64-u)=64-u:=Nat.min_eq_right h
                                   rw[e];omega
        have hq0:0<q:=by omega
        have hcp:=copy_bytes_at wr gB u (64-u) rl yc q (some y0) r _ hBs hby hq (by rw[List.size_toArray,blist_length,hbl];omega)
        have hrlen:r.length=rl:=hby.1
        have hrat:∀ j,j<rl→cb r j=cb L (p+j):=fun j hj=>by
          have:=HA.out.1 (d+j) (by omega)
          rw[hp,Nat.add_assoc,← this,hr]
          unfold cb
          rw[List.getD_eq_getElem?_getD,List.getD_eq_getElem?_getD,List.getElem?_drop]
        have hps:p=64*s+u:=by omega
        have hpL:p+rl≤L.length:=by have:=HA.out.2.1;omega
        have hob:∀ j,j<u+q→cb (Dg.ow b r u q) j=cb L (64*s+j):=fun j hj=>by
          rw[Dg.ow_at b r u q (by omega) (by omega) j hj]
          by_cases h:j<u
          · rw[if_pos h,hbj j h]
          · rw[if_neg h,hrat _ (by omega),show p+(j-u)=64*s+j by omega]
        have hol:(Dg.ow b r u q).length=64:=by rw[Dg.ow_len b r u q (by omega) (by omega),hbl]
        have HPUT:=Lib.hid (Dg.ow_put b r u q (by omega) (by omega))
        obtain⟨b',hb'⟩:∃ b',b'=Dg.ow b r u q:=⟨_,rfl⟩
        rw[← hb'] at hob hol HPUT
        have cU:wr.cell? ⟨gU,0,none⟩=some (.int .i64 (u:Int)):=hUs.cell_at rfl
        have hui:(u:Int)<64:=by omega
        have hui2:(u:Int)≤64:=by omega
        have hui0:(0:Int)≤(u:Int):=by omega
        have hune:¬ (64=u):=by omega
        have hrli:(0:Int)<(rl:Int):=by omega
        have hqi0:(0:Int)≤(q:Int):=by omega
        have hqi1:(q:Int)≤(rl:Int):=by omega
        have hqi2:(q:Int)≤(yc:Int):=by omega
        have hB6:Has (wr.setCells gB u (blist (r.take q))) gB 163 (blist b').toArray:=by rw[← HPUT.out];exact hBs.putAll (blist (r.take q)) u
        have HN:=Lib.hid (And.intro hp (And.intro hu (And.intro hs (And.intro hr (And.intro hrl (And.intro hend (And.intro hd hps)))))))
        have HQ:=Lib.hid (And.intro hq (And.intro hq3 (And.intro hrlen (And.intro hrat (And.intro hpL (And.intro hob hol))))))
        have h4:=H4.out
        have hY6:Has (wr.setCells gB u (blist (r.take q))) gY 188 #[.func (.yield lp) #[] #[]]:=hYs.asideAll (by omega) _ u
        have hP6:Has (wr.setCells gB u (blist (r.take q))) gP 143 #[.slice a n c]:=hPs.asideAll (by omega) _ u
        have hU6:Has (wr.setCells gB u (blist (r.take q))) gU 3 #[.int .i64 (u:Int)]:=hUs.asideAll (by omega) _ u
        have hg6:wr.grownBy (wr.setCells gB u (blist (r.take q))) (some gB):=grown_puts7 _ u (grown_refl7 _ _)
        clear h4 hp hu hs hr hrl hend hd hps hq hq3 hrlen hrat hpL hob hol hb' hby hbj hBs hUs hYs hPs
        gi_wp2
        clear hcp cU
        generalize wr.setCells gB u (blist (r.take q))=w6 at hB6 hY6 hP6 hU6 hg6 ⊢
        have hk6:Keeps wD.heap.size wr w6:=Keeps.grown hg6 (by have:=H4.out;omega)
        have hJ6:J s w6:=hJ _ _ _ hJs ((Below.refl _ _).grown hg6 (by have:=hkp.1;have:=H4.out;omega) (fun k e=>by injection e with e;have:=H4.out;omega))
        have hsrc6:=hsrc.keeps (hk6.up (B':=wD.heap.size+2) (by omega))
        have hkp6:=hkp.trans hk6
        clear hsrc hJs hkp hg6 hk6
        have cU6:w6.cell? ⟨gU,0,none⟩=some (.int .i64 (u:Int)):=hU6.cell_at rfl
        have fU6:=hU6.loose 0
        by_cases hv:u+q=64
        · have huq:(u:Int)+(q:Int)=64:=by omega
          have HV:=Lib.hid hv
          have h64w:IntKind.i64.wrap 64=64:=by decide+kernel
          clear hv
          by_cases hcq:yc=q
          · have HCQ:=Lib.hid hcq
            have hcqi:(yc:Int)=(q:Int):=by omega
            refine wpIn_round_still_tail 7 hmix (by kernel_rfl) (by simp) (fun⟨_,_,h⟩=>(h:False)) ?_
            simp only[List.take_succ_cons,List.take_zero,List.drop_succ_cons,List.drop_zero]
            repeat still_step
            refine wpStill_nil ?_
            obtain⟨w7,hw7⟩:∃ x,x=(w6.setCell ⟨gU,0,none⟩ (.int .i64 64)).drew:=⟨_,rfl⟩
            have h4:=H4.out
            have hU7:Has w7 gU 3 #[.int .i64 64]:=by rw[hw7];exact(hU6.put 0 (.int .i64 64)).draw
            have hB7:Has w7 gB 163 (blist b').toArray:=by rw[hw7];exact(hB6.aside (p:=⟨gU,0,none⟩) (by simp;omega) _).draw
            have hY7:Has w7 gY 188 #[.func (.yield lp) #[] #[]]:=by rw[hw7];exact(hY6.aside (p:=⟨gU,0,none⟩) (by simp;omega) _).draw
            have hP7:Has w7 gP 143 #[.slice a n c]:=by rw[hw7];exact(hP6.aside (p:=⟨gU,0,none⟩) (by simp;omega) _).draw
            have hg7:w6.grownBy w7 (some gU):=by rw[hw7];exact grown_drew7 (grown_put7 (grown_refl7 _ _) 0 _)
            have hk7:Keeps wD.heap.size w6 w7:=Keeps.grown hg7 (by omega)
            have hsz6:W.heap.size≤w6.heap.size:=by have:=hkp6.1;omega
            have hJ7:J s w7:=hJ _ _ _ hJ6 ((Below.refl _ _).grown hg7 hsz6 (fun k e=>by injection e with e;omega))
            have hsN:s<L.length / 64:=by have:=HN.out.2.2.2.2.2.2.2;have:=HQ.out.2.2.2.2.1;have:=HV.out;omega
            have hbb:b'=Dg.blkB L s:=cb_ext (by rw[HQ.out.2.2.2.2.2.2,Dg.blkB_len L s (by omega)]) (fun j hj=>by
              rw[HQ.out.2.2.2.2.2.2] at hj
              rw[Dg.blkB_at L s j hj]
              exact HQ.out.2.2.2.2.2.1 j (by have:=HV.out;omega))
            obtain⟨fn,tmps,assign,body,hy2,hR⟩:=hY s b' (s+1) w7 hJ7 (Nat.le_trans hsz6 hk7.1) ⟨rfl,hsN,hbb⟩
            dsimp only[encB] at hy2
            have hx:=hB7.load_agg (P:=Tryz.prog) Tryz.underlying163 rfl (by rw[List.size_toArray,blist_length,HQ.out.2.2.2.2.2.2];kernel_rfl)
            have cU7:w7.cell? ⟨gU,0,none⟩=some (.int .i64 64):=hU7.cell_at rfl
            have cY7:w7.cell? ⟨gY,0,none⟩=some (.func (.yield lp) #[] #[]):=hY7.cell_at rfl
            clear h4 hU6 hB6 hY6 hP6 hJ6 hg7 hbb hsN
            go_wp2
            rw[← hw7]
            clear hw7 cU6 fU6
            gi_wp2_with (first
              | (refine wpListInR_load (by rfl) 163 (.tmp 3) rfl _ _ rfl hx ?_))
            clear hx cU7 cY7 hy2
            refine(RoundIn.atWide hR).mono ?_
            rintro e W3 ⟨rfl,hJ3,hk3⟩
            have h4:=H4.out
            have hU3:=hk3.has (by omega) hU7
            have hB3:=hk3.has (by omega) hB7
            have hY3:=hk3.has (by omega) hY7
            have hP3:=hk3.has (by omega) hP7
            have hk8:Keeps wD.heap.size w6 W3:=hk7.trans (hk3.up (by omega))
            have cU3:W3.cell? ⟨gU,0,none⟩=some (.int .i64 64):=hU3.cell_at rfl
            have fU3:=hU3.loose 0
            clear h4 hR hk3
            gi_wp2
            clear cU3 fU3
            have h4:=H4.out
            have hg9:=grown_put7 (grown_refl7 W3 (some gU)) 0 (.int .i64 0)
            have hU9:Has (W3.setCell ⟨gU,0,none⟩ (.int .i64 0)) gU 3 #[.int .i64 0]:=hU3.put 0 (.int .i64 0)
            have hB9:=hB3.aside (p:=⟨gU,0,none⟩) (by simp;omega) (.int .i64 0)
            have hY9:=hY3.aside (p:=⟨gU,0,none⟩) (by simp;omega) (.int .i64 0)
            have hP9:=hP3.aside (p:=⟨gU,0,none⟩) (by simp;omega) (.int .i64 0)
            have hk9:=hk8.trans (Keeps.grown (B:=wD.heap.size) hg9 (by omega))
            have hJ9:=hJ _ _ _ hJ3 ((Below.refl W.heap.size W3).grown hg9 (by have:=hkp6.1;have:=hk8.1;omega) (fun k e=>by injection e with e;omega))
            have hn:=HN.out
            have hqL:=Lib.hid hq1
            have e1:(P0+(d+q)) / 64=s+1:=by have:=HV.out;omega
            have e2:(P0+(d+q))%64=0:=by have:=HV.out;omega
            have e3:xm-(d+q)=rl-q:=by omega
            have hdq:d+q≤xm:=by omega
            have HE:=Lib.hid (And.intro e1 (And.intro e2 (And.intro e3 hdq)))
            clear e1 e2 e3 hdq hn h4
            go_roundw
            case rel=>
              refine⟨d+q,some y0,0,HE.out.2.2.2,by rw[HE.out.2.2.1],(by rw[HE.out.2.2.1];have:=HCQ.out;omega),?_,⟨by rw[HE.out.1];exact hJ9,hY9,hP9,⟨b',HQ.out.2.2.2.2.2.2,?_,hB9⟩,by rw[HE.out.2.1];exact hU9⟩,hkp6.trans hk9⟩
              · rw[HE.out.2.2.1]
                rw[show rl-q=0 by have:=HCQ.out;omega]
                exact Or.inl ⟨by rw[List.length_drop,HA.out.2.2.1];have:=HCQ.out;have:=HE.out;omega,by unfold maxLen;omega,fun i hi=>absurd hi (Nat.not_lt_zero _)⟩
              · intro j hj
                rw[HE.out.2.1] at hj
                exact absurd hj (Nat.not_lt_zero _)
            case measure=>
              simp only[sliceLen]
              omega
          · have hcqi:¬ ((yc:Int)=(q:Int)):=by omega
            refine wpIn_round_still_tail 7 hmix (by kernel_rfl) (by simp) (fun⟨_,_,h⟩=>(h:False)) ?_
            simp only[List.take_succ_cons,List.take_zero,List.drop_succ_cons,List.drop_zero]
            repeat still_step
            refine wpStill_nil ?_
            obtain⟨w7,hw7⟩:∃ x,x=(w6.setCell ⟨gU,0,none⟩ (.int .i64 64)).drew:=⟨_,rfl⟩
            have h4:=H4.out
            have hU7:Has w7 gU 3 #[.int .i64 64]:=by rw[hw7];exact(hU6.put 0 (.int .i64 64)).draw
            have hB7:Has w7 gB 163 (blist b').toArray:=by rw[hw7];exact(hB6.aside (p:=⟨gU,0,none⟩) (by simp;omega) _).draw
            have hY7:Has w7 gY 188 #[.func (.yield lp) #[] #[]]:=by rw[hw7];exact(hY6.aside (p:=⟨gU,0,none⟩) (by simp;omega) _).draw
            have hP7:Has w7 gP 143 #[.slice a n c]:=by rw[hw7];exact(hP6.aside (p:=⟨gU,0,none⟩) (by simp;omega) _).draw
            have hg7:w6.grownBy w7 (some gU):=by rw[hw7];exact grown_drew7 (grown_put7 (grown_refl7 _ _) 0 _)
            have hk7:Keeps wD.heap.size w6 w7:=Keeps.grown hg7 (by omega)
            have hsz6:W.heap.size≤w6.heap.size:=by have:=hkp6.1;omega
            have hJ7:J s w7:=hJ _ _ _ hJ6 ((Below.refl _ _).grown hg7 hsz6 (fun k e=>by injection e with e;omega))
            have hsN:s<L.length / 64:=by have:=HN.out.2.2.2.2.2.2.2;have:=HQ.out.2.2.2.2.1;have:=HV.out;omega
            have hbb:b'=Dg.blkB L s:=cb_ext (by rw[HQ.out.2.2.2.2.2.2,Dg.blkB_len L s (by omega)]) (fun j hj=>by
              rw[HQ.out.2.2.2.2.2.2] at hj
              rw[Dg.blkB_at L s j hj]
              exact HQ.out.2.2.2.2.2.1 j (by have:=HV.out;omega))
            obtain⟨fn,tmps,assign,body,hy2,hR⟩:=hY s b' (s+1) w7 hJ7 (Nat.le_trans hsz6 hk7.1) ⟨rfl,hsN,hbb⟩
            dsimp only[encB] at hy2
            have hx:=hB7.load_agg (P:=Tryz.prog) Tryz.underlying163 rfl (by rw[List.size_toArray,blist_length,HQ.out.2.2.2.2.2.2];kernel_rfl)
            have cU7:w7.cell? ⟨gU,0,none⟩=some (.int .i64 64):=hU7.cell_at rfl
            have cY7:w7.cell? ⟨gY,0,none⟩=some (.func (.yield lp) #[] #[]):=hY7.cell_at rfl
            clear h4 hU6 hB6 hY6 hP6 hJ6 hg7 hbb hsN
            go_wp2
            rw[← hw7]
            clear hw7 cU6 fU6
            gi_wp2_with (first
              | (refine wpListInR_load (by rfl) 163 (.tmp 3) rfl _ _ rfl hx ?_))
            clear hx cU7 cY7 hy2
            refine(RoundIn.atWide hR).mono ?_
            rintro e W3 ⟨rfl,hJ3,hk3⟩
            have h4:=H4.out
            have hU3:=hk3.has (by omega) hU7
            have hB3:=hk3.has (by omega) hB7
            have hY3:=hk3.has (by omega) hY7
            have hP3:=hk3.has (by omega) hP7
            have hk8:Keeps wD.heap.size w6 W3:=hk7.trans (hk3.up (by omega))
            have cU3:W3.cell? ⟨gU,0,none⟩=some (.int .i64 64):=hU3.cell_at rfl
            have fU3:=hU3.loose 0
            clear h4 hR hk3
            gi_wp2
            clear cU3 fU3
            have h4:=H4.out
            have hg9:=grown_put7 (grown_refl7 W3 (some gU)) 0 (.int .i64 0)
            have hU9:Has (W3.setCell ⟨gU,0,none⟩ (.int .i64 0)) gU 3 #[.int .i64 0]:=hU3.put 0 (.int .i64 0)
            have hB9:=hB3.aside (p:=⟨gU,0,none⟩) (by simp;omega) (.int .i64 0)
            have hY9:=hY3.aside (p:=⟨gU,0,none⟩) (by simp;omega) (.int .i64 0)
            have hP9:=hP3.aside (p:=⟨gU,0,none⟩) (by simp;omega) (.int .i64 0)
            have hk9:=hk8.trans (Keeps.grown (B:=wD.heap.size) hg9 (by omega))
            have hJ9:=hJ _ _ _ hJ3 ((Below.refl W.heap.size W3).grown hg9 (by have:=hkp6.1;have:=hk8.1;omega) (fun k e=>by injection e with e;omega))
            have hn:=HN.out
            have hqL:=Lib.hid hq1
            have e1:(P0+(d+q)) / 64=s+1:=by have:=HV.out;omega
            have e2:(P0+(d+q))%64=0:=by have:=HV.out;omega
            have e3:xm-(d+q)=rl-q:=by omega
            have hdq:d+q≤xm:=by omega
            have HE:=Lib.hid (And.intro e1 (And.intro e2 (And.intro e3 hdq)))
            clear e1 e2 e3 hdq hn h4
            go_roundw
            case rel=>
              refine⟨d+q,some (y0.add q),yc-q,HE.out.2.2.2,by rw[HE.out.2.2.1],(by rw[HE.out.2.2.1];omega),?_,⟨by rw[HE.out.1];exact hJ9,hY9,hP9,⟨b',HQ.out.2.2.2.2.2.2,?_,hB9⟩,by rw[HE.out.2.1];exact hU9⟩,hkp6.trans hk9⟩
              · rw[HE.out.2.2.1]
                rw[show pt.drop (d+q)=r.drop q by rw[HN.out.2.2.2.1,List.drop_drop]]
                exact(hsrc6.drop hqL.out).keeps (hk9.up (by omega))
              · intro j hj
                rw[HE.out.2.1] at hj
                exact absurd hj (Nat.not_lt_zero _)
            case measure=>
              simp only[sliceLen]
              omega
        · obtain⟨v,hvv⟩:∃ v,v=u+q:=⟨_,rfl⟩
          have huq:(u:Int)+(q:Int)=(v:Int):=by omega
          have hvw:IntKind.i64.wrap (v:Int)=(v:Int):=IntWalk.i64_in _ (by omega)
          have hv64:((v:Int)==64)=false:=by simpa using(show ¬ ((v:Int)=64) by omega)
          have hv64':¬ ((v:Int)=64):=by omega
          have hvr:(v:Int).tmod 64=(v:Int):=by rw[show(v:Int).tmod 64=((v%64:Nat):Int) from rfl,Nat.mod_eq_of_lt (by omega)]
          have hvr2:(v:Int)%64=(v:Int):=by omega
          have HVV:=Lib.hid (And.intro hvv hv)
          clear hvv hv
          by_cases hcq:yc=q
          · have HCQ:=Lib.hid hcq
            have hcqi:(yc:Int)=(q:Int):=by omega
            refine wpIn_round_still_tail 7 hmix (by kernel_rfl) (by simp) (fun⟨_,_,h⟩=>(h:False)) ?_
            simp only[List.take_succ_cons,List.take_zero,List.drop_succ_cons,List.drop_zero]
            repeat still_step
            refine wpStill_nil ?_
            obtain⟨w7,hw7⟩:∃ x,x=(w6.setCell ⟨gU,0,none⟩ (.int .i64 (v:Int))).drew:=⟨_,rfl⟩
            have h4:=H4.out
            have hU7:Has w7 gU 3 #[.int .i64 (v:Int)]:=by rw[hw7];exact(hU6.put 0 (.int .i64 (v:Int))).draw
            have hB7:Has w7 gB 163 (blist b').toArray:=by rw[hw7];exact(hB6.aside (p:=⟨gU,0,none⟩) (by simp;omega) _).draw
            have hY7:Has w7 gY 188 #[.func (.yield lp) #[] #[]]:=by rw[hw7];exact(hY6.aside (p:=⟨gU,0,none⟩) (by simp;omega) _).draw
            have hP7:Has w7 gP 143 #[.slice a n c]:=by rw[hw7];exact(hP6.aside (p:=⟨gU,0,none⟩) (by simp;omega) _).draw
            have hg7:w6.grownBy w7 (some gU):=by rw[hw7];exact grown_drew7 (grown_put7 (grown_refl7 _ _) 0 _)
            have hk7:Keeps wD.heap.size w6 w7:=Keeps.grown hg7 (by omega)
            have hsz6:W.heap.size≤w6.heap.size:=by have:=hkp6.1;omega
            have hJ7:J s w7:=hJ _ _ _ hJ6 ((Below.refl _ _).grown hg7 hsz6 (fun k e=>by injection e with e;omega))
            have cU7:w7.cell? ⟨gU,0,none⟩=some (.int .i64 (v:Int)):=hU7.cell_at rfl
            have fU7:=hU7.loose 0
            clear h4 hU6 hB6 hY6 hP6 hJ6 hg7
            go_wp2
            rw[← hw7]
            clear hw7 cU6 fU6
            gi_wp2_with (with_reducible refine And.intro (fun f (hf:(none:Option FuncId)=some f)=>(by cases hf)) ?_)
            clear cU7 fU7
            have h4:=H4.out
            have hg9:=grown_put7 (grown_refl7 w7 (some gU)) 0 (.int .i64 (v:Int))
            have hU9:Has (w7.setCell ⟨gU,0,none⟩ (.int .i64 (v:Int))) gU 3 #[.int .i64 (v:Int)]:=hU7.put 0 (.int .i64 (v:Int))
            have hB9:=hB7.aside (p:=⟨gU,0,none⟩) (by simp;omega) (.int .i64 (v:Int))
            have hY9:=hY7.aside (p:=⟨gU,0,none⟩) (by simp;omega) (.int .i64 (v:Int))
            have hP9:=hP7.aside (p:=⟨gU,0,none⟩) (by simp;omega) (.int .i64 (v:Int))
            have hk9:=hk7.trans (Keeps.grown (B:=wD.heap.size) hg9 (by omega))
            have hJ9:=hJ _ _ _ hJ7 ((Below.refl W.heap.size w7).grown hg9 (by have:=hkp6.1;have:=hk7.1;omega) (fun k e=>by injection e with e;omega))
            have hn:=HN.out
            have hqL:=Lib.hid hq1
            have e1:(P0+(d+q)) / 64=s:=by have:=HVV.out;omega
            have e2:(P0+(d+q))%64=v:=by have:=HVV.out;omega
            have e3:xm-(d+q)=rl-q:=by omega
            have hdq:d+q≤xm:=by omega
            have HE:=Lib.hid (And.intro e1 (And.intro e2 (And.intro e3 hdq)))
            clear e1 e2 e3 hdq hn h4
            go_roundw
            case rel=>
              refine⟨d+q,some y0,0,HE.out.2.2.2,by rw[HE.out.2.2.1],(by rw[HE.out.2.2.1];have:=HCQ.out;omega),?_,⟨by rw[HE.out.1];exact hJ9,hY9,hP9,⟨b',HQ.out.2.2.2.2.2.2,?_,hB9⟩,by rw[HE.out.2.1];exact hU9⟩,hkp6.trans hk9⟩
              · rw[HE.out.2.2.1]
                rw[show rl-q=0 by have:=HCQ.out;omega]
                exact Or.inl ⟨by rw[List.length_drop,HA.out.2.2.1];have:=HCQ.out;have:=HE.out;omega,by unfold maxLen;omega,fun i hi=>absurd hi (Nat.not_lt_zero _)⟩
              · intro j hj
                rw[HE.out.2.1] at hj
                rw[HE.out.1]
                exact HQ.out.2.2.2.2.2.1 j (by have:=HVV.out;omega)
            case measure=>
              simp only[sliceLen]
              omega
          · have hcqi:¬ ((yc:Int)=(q:Int)):=by omega
            refine wpIn_round_still_tail 7 hmix (by kernel_rfl) (by simp) (fun⟨_,_,h⟩=>(h:False)) ?_
            simp only[List.take_succ_cons,List.take_zero,List.drop_succ_cons,List.drop_zero]
            repeat still_step
            refine wpStill_nil ?_
            obtain⟨w7,hw7⟩:∃ x,x=(w6.setCell ⟨gU,0,none⟩ (.int .i64 (v:Int))).drew:=⟨_,rfl⟩
            have h4:=H4.out
            have hU7:Has w7 gU 3 #[.int .i64 (v:Int)]:=by rw[hw7];exact(hU6.put 0 (.int .i64 (v:Int))).draw
            have hB7:Has w7 gB 163 (blist b').toArray:=by rw[hw7];exact(hB6.aside (p:=⟨gU,0,none⟩) (by simp;omega) _).draw
            have hY7:Has w7 gY 188 #[.func (.yield lp) #[] #[]]:=by rw[hw7];exact(hY6.aside (p:=⟨gU,0,none⟩) (by simp;omega) _).draw
            have hP7:Has w7 gP 143 #[.slice a n c]:=by rw[hw7];exact(hP6.aside (p:=⟨gU,0,none⟩) (by simp;omega) _).draw
            have hg7:w6.grownBy w7 (some gU):=by rw[hw7];exact grown_drew7 (grown_put7 (grown_refl7 _ _) 0 _)
            have hk7:Keeps wD.heap.size w6 w7:=Keeps.grown hg7 (by omega)
            have hsz6:W.heap.size≤w6.heap.size:=by have:=hkp6.1;omega
            have hJ7:J s w7:=hJ _ _ _ hJ6 ((Below.refl _ _).grown hg7 hsz6 (fun k e=>by injection e with e;omega))
            have cU7:w7.cell? ⟨gU,0,none⟩=some (.int .i64 (v:Int)):=hU7.cell_at rfl
            have fU7:=hU7.loose 0
            clear h4 hU6 hB6 hY6 hP6 hJ6 hg7
            go_wp2
            rw[← hw7]
            clear hw7 cU6 fU6
            gi_wp2_with (with_reducible refine And.intro (fun f (hf:(none:Option FuncId)=some f)=>(by cases hf)) ?_)
            clear cU7 fU7
            have h4:=H4.out
            have hg9:=grown_put7 (grown_refl7 w7 (some gU)) 0 (.int .i64 (v:Int))
            have hU9:Has (w7.setCell ⟨gU,0,none⟩ (.int .i64 (v:Int))) gU 3 #[.int .i64 (v:Int)]:=hU7.put 0 (.int .i64 (v:Int))
            have hB9:=hB7.aside (p:=⟨gU,0,none⟩) (by simp;omega) (.int .i64 (v:Int))
            have hY9:=hY7.aside (p:=⟨gU,0,none⟩) (by simp;omega) (.int .i64 (v:Int))
            have hP9:=hP7.aside (p:=⟨gU,0,none⟩) (by simp;omega) (.int .i64 (v:Int))
            have hk9:=hk7.trans (Keeps.grown (B:=wD.heap.size) hg9 (by omega))
            have hJ9:=hJ _ _ _ hJ7 ((Below.refl W.heap.size w7).grown hg9 (by have:=hkp6.1;have:=hk7.1;omega) (fun k e=>by injection e with e;omega))
            have hn:=HN.out
            have hqL:=Lib.hid hq1
            have e1:(P0+(d+q)) / 64=s:=by have:=HVV.out;omega
            have e2:(P0+(d+q))%64=v:=by have:=HVV.out;omega
            have e3:xm-(d+q)=rl-q:=by omega
            have hdq:d+q≤xm:=by omega
            have HE:=Lib.hid (And.intro e1 (And.intro e2 (And.intro e3 hdq)))
            clear e1 e2 e3 hdq hn h4
            go_roundw
            case rel=>
              refine⟨d+q,some (y0.add q),yc-q,HE.out.2.2.2,by rw[HE.out.2.2.1],(by rw[HE.out.2.2.1];omega),?_,⟨by rw[HE.out.1];exact hJ9,hY9,hP9,⟨b',HQ.out.2.2.2.2.2.2,?_,hB9⟩,by rw[HE.out.2.1];exact hU9⟩,hkp6.trans hk9⟩
              · rw[HE.out.2.2.1]
                rw[show pt.drop (d+q)=r.drop q by rw[HN.out.2.2.2.1,List.drop_drop]]
                exact(hsrc6.drop hqL.out).keeps (hk9.up (by omega))
              · intro j hj
                rw[HE.out.2.1] at hj
                rw[HE.out.1]
                exact HQ.out.2.2.2.2.2.1 j (by have:=HVV.out;omega)
            case measure=>
              simp only[sliceLen]
              omega
end Go.Proofs.YtijemcfnlbapjaaGreatDoor
namespace Go.Proofs.YtijemcfnlbapjaaGreatDoor.Dg
end Go.Proofs.YtijemcfnlbapjaaGreatDoor.Dg
namespace Go.Proofs.YtijemcfnlbapjaaGreatDoor
open Go Go.RowKit Go.ChangeShapes Go.WideShapes
end Go.Proofs.YtijemcfnlbapjaaGreatDoor
