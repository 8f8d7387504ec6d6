/- package digest: schedule · package digest: mixed, joined · package digest: joined, padding, Word, Compare -/
import Derived.Test.YtijemcfnlbapjaaGreatDoorJ11
import Derived.Test.YtijemcfnlbapjaaGreatDoorJ03
import Derived.Test.YtijemcfnlbapjaaGreatDoorJ01
import Derived.Laws.Externs
namespace Go.Proofs.YtijemcfnlbapjaaGreatDoor
open Go Go.RowKit Go.ChangeShapes Go.WideShapes
def CellsBut (g t:Nat) (w0 w:World):Prop:=∀ j,j≠t→w.cell? ⟨g,j,none⟩=w0.cell? ⟨g,j,none⟩
theorem z64_p (b:List (BitVec 8)):z64=wcells 64 (Dg.pF b 0):=by
  rw[show wcells 64 (Dg.pF b 0)=wcells 64 (fun _=>0) from wcells_congr fun i _=>Dg.pF_zero b i]
  rfl
theorem pF_put (b:List (BitVec 8)) (i d:Nat) (hd:d=i / 4) (x:BitVec 32) (hx:x=Dg.pF b (i+1) d):(wcells 64 (Dg.pF b i)).setIfInBounds d (.int .u32 (nb32 x))=wcells 64 (Dg.pF b (i+1)):=
  wcells_put _ _ d x hx.symm (fun j _ hj=>Dg.pF_other b i d j hd hj)
theorem pF_wF (b:List (BitVec 8)):wcells 64 (Dg.pF b 64)=wcells 64 (Dg.wF (Dg.m b) 16):=wcells_congr fun j _=>Dg.pF_end b j
theorem wF_all (m:Nat→BitVec 32):wcells 64 (Dg.wF m 64)=wcells 64 (Dg.sch m):=wcells_congr fun _ hj=>wF_lo m hj
set_option maxRecDepth 100000 in
set_option maxHeartbeats 8000000 in
theorem sched_any (b:List (BitVec 8)) (hb:b.length=64) (w:World) :
    Calls Tryz.prog 139 #[.agg (blist b).toArray] w fun e w'=>e=.returned (.agg (wcells 64 (Dg.sch (Dg.m b))))∧Below w.heap.size w w':=by
  have HL:=Lib.hid hb
  clear hb
  go_enter Tryz.func139,Tryz.ntmps139
  go_upto_region 2 with fail
  obtain⟨gW,hgW⟩:∃ g,g=w.heap.size+1+1:=⟨_,rfl⟩
  obtain⟨wB,hwB⟩:∃ x,x=((w.alloc (.cells (blist b).toArray 163)).alloc (.cells z64 175)).alloc (.cells z64 175):=⟨_,rfl⟩
  rw[← hwB]
  have hA:Has wB w.heap.size 163 (blist b).toArray:=by rw[hwB];exact((Has.fresh _ _ _).past _).past _
  have hR:Has wB (w.heap.size+1) 175 z64:=by rw[hwB];exact(Has.fresh_at _ _ _ (by simp)).past _
  have hW0:Has wB gW 175 (wcells 64 (Dg.pF b 0)):=by rw[hwB,hgW,← z64_p b];exact Has.fresh_at _ _ _ (by simp)
  have hB:Below w.heap.size w wB:=by rw[hwB];exact(((Below.refl _ _).alloc (Nat.le_refl _) _).alloc (by simp) _).alloc (by simp;omega) _
  rw[← hgW]
  have HG:=Lib.hid hgW
  clear hwB hgW
  have hx:=hA.load_agg (P:=Tryz.prog) Tryz.underlying163 rfl (by rw[List.size_toArray,blist_length,HL.out];kernel_rfl)
  go_wp2_with (first
    | (refine wpList_load_run rfl 163 (.tmp 1) rfl _ _ rfl hx ?_))
  clear hx
  go_loopw [8] (fun iv wr=>∃ i:Nat,i≤64∧iv=.int .i64 i∧Has wr gW 175 (wcells 64 (Dg.pF b i))∧wB.grownBy wr (some gW)) (fun iv _=>64-(intOf iv).toNat)
  case atStart=>exact⟨0,Nat.zero_le _,rfl,hW0,grown_refl7 _ _⟩
  case round=>
    clear hW0
    obtain⟨i,hi,rfl,hW,hgr⟩:=hrel
    by_cases h64:i<64
    · have hi64:(i:Int)<64:=by omega
      have hi0:(0:Int)≤(i:Int):=by omega
      obtain⟨y,hy⟩:∃ y,y=cb b i:=⟨_,rfl⟩
      have hix:=run_index_arr (P:=Tryz.prog) (t:=163) (e:=5) Tryz.underlying163 Tryz.underlying5 size_byte h64 (show(blist b).toArray[i]? = some (.int .u8 (nb8 y)) by rw[List.getElem?_toArray,hy];exact blist_at b i (by rw[HL.out];exact h64))
      obtain⟨d,hd⟩:∃ d,d=i / 4:=⟨_,rfl⟩
      have hdi:(i:Int).tdiv 4=(d:Int):=by rw[hd];rfl
      have hdi2:(i:Int) / 4=(d:Int):=by omega
      have hd64:(d:Int)<64:=by omega
      have hd0:(0:Int)≤(d:Int):=by omega
      have h64d:d<64:=by omega
      obtain⟨z,hz⟩:∃ z,z=Dg.pF b i d:=⟨_,rfl⟩
      have HX:=Lib.hid (show z<<<8|||y.setWidth 32=Dg.pF b (i+1) d by rw[hz];exact Dg.pF_step b i d y hd hy)
      have HD:=Lib.hid hd
      have cw:wr.cell? ⟨gW,d,none⟩=some (.int .u32 (nb32 z)):=by rw[hz];exact hW.cell_at (wcells_at (Dg.pF b i) h64d)
      have fw:=hW.loose d
      clear hd hy hz
      go_wp2_with fail
      have hW2:=hW.put d (.int .u32 (nb32 (z<<<8|||y.setWidth 32)))
      rw[pF_put b i d HD.out _ HX.out] at hW2
      go_roundw
      case rel=>exact⟨i+1,by omega,by go_num,hW2,grown_put7 hgr _ _⟩
      case measure=>(simp[intOf];try omega)
    · have HE:=Lib.hid (show i=64 by omega)
      have hi64:¬ (i:Int)<64:=by omega
      rw[HE.out,pF_wF] at hW
      have hRB:=grown_has hgr hR (by have:=HG.out;omega)
      have hBB:=grown_low hB hgr (by have:=HG.out;omega) hB.size
      clear hgr hR hB hA
      rename World=>wC
      go_wp2_with fail
      go_loopw [6] (fun iv wr=>∃ t:Nat,16≤t∧t≤64∧iv=.int .i64 t∧Has wr gW 175 (wcells 64 (Dg.wF (Dg.m b) t))∧wC.grownBy wr (some gW)) (fun iv _=>64-(intOf iv).toNat)
      case atStart=>exact⟨16,by omega,by omega,rfl,hW,grown_refl7 _ _⟩
      case round=>
        clear hW
        obtain⟨t,ht16,ht,rfl,hW,hgr⟩:=hrel
        by_cases h64:t<64
        · have ht64:(t:Int)<64:=by omega
          have ht0:(0:Int)≤(t:Int):=by omega
          obtain⟨t2,ht2v⟩:∃ x,x=t-2:=⟨_,rfl⟩
          have ht2i:(t:Int)-2=(t2:Int):=by omega
          have ht2w:IntKind.i64.wrap (t2:Int)=(t2:Int):=IntWalk.i64_in _ (by omega)
          have ht20:(0:Int)≤(t2:Int):=by omega
          have ht2u:(t2:Int)<64:=by omega
          obtain⟨y2,hy2⟩:∃ x,x=Dg.sch (Dg.m b) t2:=⟨_,rfl⟩
          have j2:(wcells 64 (Dg.wF (Dg.m b) t))[t2]? = some (.int .u32 (nb32 y2)):=by rw[wcells_at _ (by omega),wF_lo (Dg.m b) (by omega),hy2]
          have hn2:t2≠t:=by omega
          obtain⟨t7,ht7v⟩:∃ x,x=t-7:=⟨_,rfl⟩
          have ht7i:(t:Int)-7=(t7:Int):=by omega
          have ht7w:IntKind.i64.wrap (t7:Int)=(t7:Int):=IntWalk.i64_in _ (by omega)
          have ht70:(0:Int)≤(t7:Int):=by omega
          have ht7u:(t7:Int)<64:=by omega
          obtain⟨y7,hy7⟩:∃ x,x=Dg.sch (Dg.m b) t7:=⟨_,rfl⟩
          have j7:(wcells 64 (Dg.wF (Dg.m b) t))[t7]? = some (.int .u32 (nb32 y7)):=by rw[wcells_at _ (by omega),wF_lo (Dg.m b) (by omega),hy7]
          have hn7:t7≠t:=by omega
          obtain⟨t15,ht15v⟩:∃ x,x=t-15:=⟨_,rfl⟩
          have ht15i:(t:Int)-15=(t15:Int):=by omega
          have ht15w:IntKind.i64.wrap (t15:Int)=(t15:Int):=IntWalk.i64_in _ (by omega)
          have ht150:(0:Int)≤(t15:Int):=by omega
          have ht15u:(t15:Int)<64:=by omega
          obtain⟨y15,hy15⟩:∃ x,x=Dg.sch (Dg.m b) t15:=⟨_,rfl⟩
          have j15:(wcells 64 (Dg.wF (Dg.m b) t))[t15]? = some (.int .u32 (nb32 y15)):=by rw[wcells_at _ (by omega),wF_lo (Dg.m b) (by omega),hy15]
          have hn15:t15≠t:=by omega
          obtain⟨t16,ht16v⟩:∃ x,x=t-16:=⟨_,rfl⟩
          have ht16i:(t:Int)-16=(t16:Int):=by omega
          have ht16w:IntKind.i64.wrap (t16:Int)=(t16:Int):=IntWalk.i64_in _ (by omega)
          have ht160:(0:Int)≤(t16:Int):=by omega
          have ht16u:(t16:Int)<64:=by omega
          obtain⟨y16,hy16⟩:∃ x,x=Dg.sch (Dg.m b) t16:=⟨_,rfl⟩
          have j16:(wcells 64 (Dg.wF (Dg.m b) t))[t16]? = some (.int .u32 (nb32 y16)):=by rw[wcells_at _ (by omega),wF_lo (Dg.m b) (by omega),hy16]
          have hn16:t16≠t:=by omega
          have HX:=Lib.hid (show(Dg.ror y2 17^^^Dg.ror y2 19^^^y2>>>10)+y7+(Dg.ror y15 7^^^Dg.ror y15 18^^^y15>>>3)+y16=Dg.sch (Dg.m b) t by
            rw[Dg.sch_hi (Dg.m b) ht16,hy2,hy7,hy15,hy16,ht2v,ht7v,ht15v,ht16v]
            rfl)
          clear hy2 hy7 hy15 hy16 ht2v ht7v ht15v ht16v
          go_upto_region 10 with fail
          refine wp_region_held_drew (S:=CellsBut gW t wr.drew) (by kernel_rfl) (fun _ _=>rfl) (fun hHeld=>?_)
          obtain⟨wn,hwn⟩:∃ x,x=wr.drew:=⟨_,rfl⟩
          rw[← hwn] at hHeld ⊢
          have hWn:Has wn gW 175 (wcells 64 (Dg.wF (Dg.m b) t)):=by rw[hwn];exact hW.draw
          have hgn:wC.grownBy wn (some gW):=by rw[hwn];exact grown_drew7 hgr
          clear hwn hW hgr
          have c2:wn.cell? ⟨gW,t2,none⟩=some (.int .u32 (nb32 y2)):=hWn.cell_at j2
          have c7:wn.cell? ⟨gW,t7,none⟩=some (.int .u32 (nb32 y7)):=hWn.cell_at j7
          have c15:wn.cell? ⟨gW,t15,none⟩=some (.int .u32 (nb32 y15)):=hWn.cell_at j15
          have c16:wn.cell? ⟨gW,t16,none⟩=some (.int .u32 (nb32 y16)):=hWn.cell_at j16
          refine tka (v:=?_) 0 28 rfl rfl hHeld (Or.inl ⟨by rfl,?_⟩) rfl ?_
          rotate_left
          · intro wq hSw
            go_simp
            try with_reducible rfl
          simp only[ts0,ts1]
          refine tka (v:=?_) 1 29 rfl rfl hHeld (Or.inl ⟨by rfl,?_⟩) rfl ?_
          rotate_left
          · intro wq hSw
            go_simp
            try with_reducible rfl
          simp only[ts0,ts1]
          refine tka (v:=?_) 2 30 rfl rfl hHeld (Or.inl ⟨by rfl,?_⟩) rfl ?_
          rotate_left
          · intro wq hSw
            go_simp
            try with_reducible rfl
          simp only[ts0,ts1]
          refine tka (v:=?_) 3 31 rfl rfl hHeld (Or.inl ⟨by rfl,?_⟩) rfl ?_
          rotate_left
          · intro wq hSw
            go_simp
            try with_reducible rfl
          simp only[ts0,ts1]
          refine tka (v:=?_) 4 32 rfl rfl hHeld (Or.inl ⟨by rfl,?_⟩) rfl ?_
          rotate_left
          · intro wq hSw
            have hst:=(hSw t2 hn2).trans c2
            go_simp
            try with_reducible rfl
          simp only[ts0,ts1]
          refine tka (v:=?_) 6 34 rfl rfl hHeld (Or.inl ⟨by rfl,?_⟩) rfl ?_
          rotate_left
          · intro wq hSw
            go_simp
            try with_reducible rfl
          simp only[ts0,ts1]
          refine tka (v:=?_) 7 35 rfl rfl hHeld (Or.inl ⟨by rfl,?_⟩) rfl ?_
          rotate_left
          · intro wq hSw
            go_simp
            try with_reducible rfl
          simp only[ts0,ts1]
          refine tka (v:=?_) 8 36 rfl rfl hHeld (Or.inl ⟨by rfl,?_⟩) rfl ?_
          rotate_left
          · intro wq hSw
            go_simp
            try with_reducible rfl
          simp only[ts0,ts1]
          refine tka (v:=?_) 9 37 rfl rfl hHeld (Or.inl ⟨by rfl,?_⟩) rfl ?_
          rotate_left
          · intro wq hSw
            have hst:=(hSw t7 hn7).trans c7
            go_simp
            try with_reducible rfl
          simp only[ts0,ts1]
          refine tka (v:=?_) 11 39 rfl rfl hHeld (Or.inl ⟨by rfl,?_⟩) rfl ?_
          rotate_left
          · intro wq hSw
            go_simp
            try with_reducible rfl
          simp only[ts0,ts1]
          refine tka (v:=?_) 12 40 rfl rfl hHeld (Or.inl ⟨by rfl,?_⟩) rfl ?_
          rotate_left
          · intro wq hSw
            go_simp
            try with_reducible rfl
          simp only[ts0,ts1]
          refine tka (v:=?_) 13 41 rfl rfl hHeld (Or.inl ⟨by rfl,?_⟩) rfl ?_
          rotate_left
          · intro wq hSw
            go_simp
            try with_reducible rfl
          simp only[ts0,ts1]
          refine tka (v:=?_) 14 42 rfl rfl hHeld (Or.inl ⟨by rfl,?_⟩) rfl ?_
          rotate_left
          · intro wq hSw
            have hst:=(hSw t15 hn15).trans c15
            go_simp
            try with_reducible rfl
          simp only[ts0,ts1]
          refine tka (v:=?_) 17 45 rfl rfl hHeld (Or.inl ⟨by rfl,?_⟩) rfl ?_
          rotate_left
          · intro wq hSw
            go_simp
            try with_reducible rfl
          simp only[ts0,ts1]
          refine tka (v:=?_) 18 46 rfl rfl hHeld (Or.inl ⟨by rfl,?_⟩) rfl ?_
          rotate_left
          · intro wq hSw
            go_simp
            try with_reducible rfl
          simp only[ts0,ts1]
          refine tka (v:=?_) 19 47 rfl rfl hHeld (Or.inl ⟨by rfl,?_⟩) rfl ?_
          rotate_left
          · intro wq hSw
            go_simp
            try with_reducible rfl
          simp only[ts0,ts1]
          refine tka (v:=?_) 20 48 rfl rfl hHeld (Or.inl ⟨by rfl,?_⟩) rfl ?_
          rotate_left
          · intro wq hSw
            have hst:=(hSw t16 hn16).trans c16
            go_simp
            try with_reducible rfl
          simp only[ts0,ts1]
          refine wpAnyH_ready (rs:=[5]) (by kernel_rfl) (by simp) ?_
          refine AllReadyH.cons rfl (fun K hK=>?_) AllReadyH.nil
          go_simp
          go_at_call 149;refine(slid_any y2 17 19 10 17 19 10 rfl rfl rfl (Or.inl ⟨rfl,rfl,rfl⟩) _).mono ?_;rintro e wx ⟨rfl,rfl⟩
          refine hK.out _ _ (fun _ _=>rfl) (fun _=>?_)
          clear hK K
          try simp only[Act.put,List.setIfInBounds_toArray,ts0,ts1]
          replace hHeld:CellsBut gW t wn _:=fun _ _=>rfl
          refine tka (v:=?_) 10 38 rfl rfl hHeld (Or.inl ⟨by rfl,?_⟩) rfl ?_
          rotate_left
          · intro wq hSw
            go_simp
            try with_reducible rfl
          simp only[ts0,ts1]
          refine wpAnyH_ready (rs:=[15]) (by kernel_rfl) (by simp) ?_
          refine AllReadyH.cons rfl (fun K hK=>?_) AllReadyH.nil
          go_simp
          go_at_call 149;refine(slid_any y15 7 18 3 7 18 3 rfl rfl rfl (Or.inr ⟨rfl,rfl,rfl⟩) _).mono ?_;rintro e wx ⟨rfl,rfl⟩
          refine hK.out _ _ (fun _ _=>rfl) (fun _=>?_)
          clear hK K
          try simp only[Act.put,List.setIfInBounds_toArray,ts0,ts1]
          replace hHeld:CellsBut gW t wn _:=fun _ _=>rfl
          refine tka (v:=?_) 16 44 rfl rfl hHeld (Or.inl ⟨by rfl,?_⟩) rfl ?_
          rotate_left
          · intro wq hSw
            go_simp
            try with_reducible rfl
          simp only[ts0,ts1]
          refine tka (v:=?_) 21 49 rfl rfl hHeld (Or.inl ⟨by rfl,?_⟩) rfl ?_
          rotate_left
          · intro wq hSw
            go_simp
            try with_reducible rfl
          simp only[ts0,ts1]
          refine tka (v:=?_) 22 50 rfl rfl hHeld (Or.inl ⟨by rfl,?_⟩) rfl ?_
          rotate_left
          · intro wq hSw
            go_simp
            try with_reducible rfl
          simp only[ts0,ts1]
          refine wpAnyH_ready (rs:=[23]) (by kernel_rfl) (by simp) ?_
          refine AllReadyH.cons rfl (fun K hK=>?_) AllReadyH.nil
          have cw:=hWn.draw.draw.cell_at (wcells_at (Dg.wF (Dg.m b) t) h64)
          have fw:=hWn.draw.draw.loose t
          go_simp
          refine hK.out _ _ (fun j hj=>?_) (fun _=>?_)
          · exact World.cell?_setCell_other (w:=_) (a:=_) (b:=_) (v:=_) (fun e=>hj (by injection e with _ e;exact e.symm))
          clear hK K
          try simp only[Act.put,List.setIfInBounds_toArray,ts0,ts1]
          refine wpAnyH_done (by kernel_rfl) ?_ _
          have hW2:=hWn.draw.draw.put t (.int .u32 (nb32 ((Dg.ror y2 17^^^Dg.ror y2 19^^^y2>>>10)+y7+(Dg.ror y15 7^^^Dg.ror y15 18^^^y15>>>3)+y16)))
          rw[wF_step (Dg.m b) t _ HX.out] at hW2
          go_wp2_with fail
          go_roundw
          case rel=>exact⟨t+1,by omega,by omega,by go_num,hW2,grown_put7 (grown_drew7 (grown_drew7 hgn)) _ _⟩
          case measure=>(simp[intOf];try omega)
        · have HE2:=Lib.hid (show t=64 by omega)
          have ht64:¬ (t:Int)<64:=by omega
          rw[HE2.out,wF_all] at hW
          have hR2:=grown_has hgr hRB (by have:=HG.out;omega)
          have hB2:=grown_low hBB hgr (by have:=HG.out;omega) hBB.size
          have hx:=hW.load_agg (P:=Tryz.prog) Tryz.underlying175 rfl (by rw[wcells_size];kernel_rfl)
          have hth:=hR2.there 0 (wcells 64 (Dg.sch (Dg.m b))).size (by rw[wcells_size];decide)
          have hsz:(Tryz.prog.info? 175).map (·.size)=some (wcells 64 (Dg.sch (Dg.m b))).size:=by rw[wcells_size];kernel_rfl
          have hone:=wcells_one 64 (Dg.sch (Dg.m b))
          have HT:=Lib.hid (And.intro hth (And.intro hsz hone))
          clear hth hsz hone hgr hRB hBB
          go_wp2_with (first
            | (refine wpList_store_mid rfl 175 (.tmp 2) (.tmp 51) rfl (w.heap.size+1) 0 (wcells 64 (Dg.sch (Dg.m b))) rfl rfl HT.out.1 HT.out.2.1 HT.out.2.2 ?_)
            | (refine wpList_load_run rfl 175 (.tmp 3) rfl _ _ rfl hx ?_))
          have hE:=hR2.whole_cs (cs2:=wcells 64 (Dg.sch (Dg.m b))) (by rw[wcells_size];rfl)
          exact bodyPost_ret (results_one_cell rfl _ _ (w.heap.size+1) rfl _ (hE.load_var Tryz.underlying175 rfl HT.out.2.1)) rfl ⟨rfl,below_setAll (by omega) _ 0 hB2⟩
end Go.Proofs.YtijemcfnlbapjaaGreatDoor
namespace Go.Proofs.YtijemcfnlbapjaaGreatDoor
open Go Go.RowKit Go.ChangeShapes Go.WideShapes
theorem size_w32:(Tryz.prog.info? 158).map (·.size)=some 1:=by kernel_rfl
theorem size_w8 (f:Nat→BitVec 32):(Tryz.prog.info? 159).map (·.size)=some (wcells 8 f).size:=by rw[wcells_size];kernel_rfl
@[go_sem high] theorem u32_not (x:BitVec 32):Op.unary .xor (.int .u32 (nb32 x))=pure (.int .u32 (nb32 (~~~x))):=by
  show Op.intBits .xor .u32 4294967295 (nb32 x)=_
  rw[intBits_xor]
  show pure (Value.int .u32 (IntKind.u32.wrap (((BitVec.ofInt 32 4294967295^^^BitVec.ofInt 32 (nb32 x)).toNat:Nat):Int)))=_
  rw[ofInt_u32v,wrap_u32v,show BitVec.ofInt 32 4294967295=BitVec.allOnes 32 by decide,BitVec.allOnes_xor]
theorem not_sub (x:BitVec 32):4294967295#32-x= ~~~x:=by
  apply BitVec.eq_of_toNat_eq
  rw[BitVec.toNat_sub,BitVec.toNat_not]
  have:=x.isLt
  simp
  omega
theorem grown_puts7 {w:World} {g:Nat} : ∀ (vs:List Value) {w':World} (o:Nat),w.grownBy w' (some g)→w.grownBy (w'.setCells g o vs) (some g)
  | [],_,_,h=>h
  | v :: r,_,o,h=>grown_puts7 r (o+1) (grown_put7 h o v)
def wl7 (a b c d e f g:BitVec 32):List Value:=[.int .u32 (nb32 a),.int .u32 (nb32 b),.int .u32 (nb32 c),.int .u32 (nb32 d),.int .u32 (nb32 e),.int .u32 (nb32 f),.int .u32 (nb32 g)]
theorem copy_letters {T:TypeId} (w0:World) (gL:Nat) (a b c d e f g h:BitVec 32) (hX:Has w0 gL T #[.int .u32 (nb32 a),.int .u32 (nb32 b),.int .u32 (nb32 c),.int .u32 (nb32 d),.int .u32 (nb32 e),.int .u32 (nb32 f),.int .u32 (nb32 g),.int .u32 (nb32 h)]) :
    (Builtin.copy_ #[194,194] 3 #[.slice (some ⟨gL,1,none⟩) 7 7,.slice (some ⟨gL,0,none⟩) 8 8]).run Tryz.prog w0=.ok (goInt 7) (w0.setCells gL 1 (wl7 a b c d e f g)):=by
  have:=run_copy_cells (P:=Tryz.prog) w0 194 194 3 158 gL 1 7 7 ⟨gL,0,none⟩ 8 8 (wl7 a b c d e f g) Tryz.underlying194 size_w32
    rfl
    (fun j v hv=>by
      rw[Addr.add_mid,Nat.zero_add,hX.cell,← hv]
      have hj:j<7:=(List.getElem?_eq_some_iff.1 hv).1
      rcases j with _ | _ | _ | _ | _ | _ | _ | j
      all_goals first
        | rfl
        | omega)
    (fun j hj=>by
      have hj:j<7:=hj
      rw[hX.cell,Array.getElem?_eq_getElem (by simp;omega)]
      rfl)
    (fun j _=>hX.loose _) (fun v hv=>by
      unfold wl7 at hv
      simp only[List.mem_cons,List.not_mem_nil,or_false] at hv
      rcases hv with rfl | rfl | rfl | rfl | rfl | rfl | rfl<;>rfl)
  exact this
abbrev z8:Array Value:=#[.int .u32 0,.int .u32 0,.int .u32 0,.int .u32 0,.int .u32 0,.int .u32 0,.int .u32 0,.int .u32 0]
set_option maxRecDepth 100000 in
set_option maxHeartbeats 8000000 in
theorem mixed_any (v:Dg.V8) (b:List (BitVec 8)) (hb:b.length=64) (w:World) (hT:Tab32 w 2 Dg.kL) :
    Calls Tryz.prog 114 #[.agg (wcells 8 v.at),.agg (blist b).toArray] w fun e w'=>e=.returned (.agg (wcells 8 (Dg.add8 v (Dg.steps (Dg.m b) v 64)).at))∧Below w.heap.size w w':=by
  have HL:=Lib.hid hb
  clear hb
  have HKT:=Lib.hid (hT.lt (by decide))
  go_enter Tryz.func114,Tryz.ntmps114
  go_upto_region 1 with fail
  obtain⟨wA,hwA⟩:∃ x,x=((w.alloc (.cells (wcells 8 v.at) 159)).alloc (.cells (blist b).toArray 163)).alloc (.cells z8 159):=⟨_,rfl⟩
  rw[← hwA]
  have hs:wA.heap.size=w.heap.size+1+1+1:=by rw[hwA];simp
  have hV:Has wA w.heap.size 159 (wcells 8 v.at):=by rw[hwA];exact((Has.fresh _ _ _).past _).past _
  have hK:Has wA (w.heap.size+1) 163 (blist b).toArray:=by rw[hwA];exact(Has.fresh_at _ _ _ (by simp)).past _
  have hR:Has wA (w.heap.size+1+1) 159 z8:=by rw[hwA];exact Has.fresh_at _ _ _ (by simp)
  have hB:Below w.heap.size w wA:=by rw[hwA];exact(((Below.refl _ _).alloc (Nat.le_refl _) _).alloc (by simp) _).alloc (by simp;omega) _
  clear hwA
  have hx:=hV.load_agg (P:=Tryz.prog) Tryz.underlying159 rfl (size_w8 _)
  obtain⟨gL,hgL⟩:∃ g,g=w.heap.size+1+1+1:=⟨_,rfl⟩
  have hZ:=Has.fresh_at (n:=gL) wA 159 z8 (by omega)
  have hth:=hZ.there 0 (wcells 8 v.at).size (by rw[wcells_size];decide)
  have hone:=wcells_one 8 v.at
  have HT:=Lib.hid (And.intro hth (And.intro (size_w8 v.at) hone))
  clear hth hone
  go_upto_region 2 with(first
    | (rw[← hgL];refine wpList_store_mid rfl 159 (.tmp 5) (.tmp 18) rfl gL 0 (wcells 8 v.at) rfl rfl HT.out.1 HT.out.2.1 HT.out.2.2 ?_)
    | (refine wpList_load_run rfl 159 (.tmp 2) rfl _ _ rfl hx ?_))
  clear hx HT
  have hL:=hZ.whole_cs (cs2:=wcells 8 v.at) (by rw[wcells_size];rfl)
  have hV2:=(hV.past (.cells z8 159)).asideAll (g':=gL) (by omega) (wcells 8 v.at).toList 0
  have hK2:=(hK.past (.cells z8 159)).asideAll (g':=gL) (by omega) (wcells 8 v.at).toList 0
  have hR2:=(hR.past (.cells z8 159)).asideAll (g':=gL) (by omega) (wcells 8 v.at).toList 0
  have hB2:=below_setAll (g:=gL) (by omega) (wcells 8 v.at).toList 0 (hB.alloc hB.size (.cells z8 159))
  generalize (wA.alloc (.cells z8 159)).setCells gL 0 (wcells 8 v.at).toList=wC at hL hV2 hK2 hR2 hB2 ⊢
  have HG:=Lib.hid hgL
  clear hZ hV hK hR hB hgL hs
  have hx:=hK2.load_agg (P:=Tryz.prog) Tryz.underlying163 rfl (by rw[List.size_toArray,blist_length,HL.out];kernel_rfl)
  go_wp2_with (first
    | (go_at_call 139;refine(sched_any b HL.out wC).mono ?_;rintro e wD ⟨rfl,hbD⟩)
    | (refine wpList_load_run rfl 163 (.tmp 3) rfl _ _ rfl hx ?_))
  clear hx
  have hXD0:=hL.under hbD hL.lt
  rw[← v8_cells] at hXD0
  have hVD:=hV2.under hbD hV2.lt
  have hRD:=hR2.under hbD hR2.lt
  have hBD:=hB2.trans (hbD.mono hB2.size)
  have hTD:=hT.below hBD
  clear hL hV2 hK2 hR2 hB2 hbD
  go_loopw [21] (fun iv wr=>∃ t:Nat,t≤64∧iv=.int .i64 t∧Has wr gL 159 #[.int .u32 (nb32 (Dg.steps (Dg.m b) v t).a),.int .u32 (nb32 (Dg.steps (Dg.m b) v t).b),.int .u32 (nb32 (Dg.steps (Dg.m b) v t).c),.int .u32 (nb32 (Dg.steps (Dg.m b) v t).d),.int .u32 (nb32 (Dg.steps (Dg.m b) v t).e),.int .u32 (nb32 (Dg.steps (Dg.m b) v t).f),.int .u32 (nb32 (Dg.steps (Dg.m b) v t).g),.int .u32 (nb32 (Dg.steps (Dg.m b) v t).h)]∧wD.grownBy wr (some gL)) (fun iv _=>64-(intOf iv).toNat)
  case atStart=>exact⟨0,Nat.zero_le _,rfl,hXD0,grown_refl7 _ _⟩
  case round=>
    clear hXD0
    obtain⟨s,hs,rfl,hX,hgr⟩:=hrel
    obtain⟨u,hu⟩:∃ u,u=Dg.steps (Dg.m b) v s:=⟨_,rfl⟩
    rw[← hu] at hX
    have HU:=Lib.hid hu
    clear hu
    by_cases h64:s<64
    · obtain⟨xa,xb,xc,xd,xe,xf,xg,xh⟩:=u
      replace hX:Has wr gL 159 #[.int .u32 (nb32 xa),.int .u32 (nb32 xb),.int .u32 (nb32 xc),.int .u32 (nb32 xd),.int .u32 (nb32 xe),.int .u32 (nb32 xf),.int .u32 (nb32 xg),.int .u32 (nb32 xh)]:=hX
      have hs64:(s:Int)<64:=by omega
      have hs0:(0:Int)≤(s:Int):=by omega
      obtain⟨kt,hkt⟩:∃ x,x=Dg.kL.getD s 0:=⟨_,rfl⟩
      obtain⟨wt,hwt⟩:∃ x,x=Dg.sch (Dg.m b) s:=⟨_,rfl⟩
      have hix:=run_index_arr (P:=Tryz.prog) (t:=175) (e:=158) Tryz.underlying175 Tryz.underlying158 size_w32 h64 (show(wcells 64 (Dg.sch (Dg.m b)))[s]? = some (.int .u32 (nb32 wt)) by rw[wcells_at _ h64,hwt])
      have HKW:=Lib.hid (And.intro hkt hwt)
      clear hwt hkt
      go_upto_region 5 with fail
      clear hix
      refine still_all_drew7 rfl (by kernel_rfl) ?_
      obtain⟨wn,hwn⟩:∃ x,x=wr.drew:=⟨_,rfl⟩
      rw[← hwn]
      replace hX:Has wn gL 159 #[.int .u32 (nb32 xa),.int .u32 (nb32 xb),.int .u32 (nb32 xc),.int .u32 (nb32 xd),.int .u32 (nb32 xe),.int .u32 (nb32 xf),.int .u32 (nb32 xg),.int .u32 (nb32 xh)]:=by rw[hwn];exact hX.draw
      replace hgr:wD.grownBy wn (some gL):=by rw[hwn];exact grown_drew7 hgr
      clear hwn
      have c0:wn.cell? ⟨gL,0,none⟩=some (.int .u32 (nb32 xa)):=hX.cell_at rfl
      have c1:wn.cell? ⟨gL,1,none⟩=some (.int .u32 (nb32 xb)):=hX.cell_at rfl
      have c2:wn.cell? ⟨gL,2,none⟩=some (.int .u32 (nb32 xc)):=hX.cell_at rfl
      refine still_then _ (by
        repeat still_step
        exact wpStill_nil rfl) ?_
      clear c0 c1 c2
      go_upto_region 6 with fail
      refine still_all_drew7 rfl (by kernel_rfl) ?_
      obtain⟨wo,hwn⟩:∃ x,x=wn.drew:=⟨_,rfl⟩
      rw[← hwn]
      replace hX:Has wo gL 159 #[.int .u32 (nb32 xa),.int .u32 (nb32 xb),.int .u32 (nb32 xc),.int .u32 (nb32 xd),.int .u32 (nb32 xe),.int .u32 (nb32 xf),.int .u32 (nb32 xg),.int .u32 (nb32 xh)]:=by rw[hwn];exact hX.draw
      replace hgr:wD.grownBy wo (some gL):=by rw[hwn];exact grown_drew7 hgr
      clear hwn
      have c4:wo.cell? ⟨gL,4,none⟩=some (.int .u32 (nb32 xe)):=hX.cell_at rfl
      have c5:wo.cell? ⟨gL,5,none⟩=some (.int .u32 (nb32 xf)):=hX.cell_at rfl
      have c6:wo.cell? ⟨gL,6,none⟩=some (.int .u32 (nb32 xg)):=hX.cell_at rfl
      refine still_then _ (by
        repeat still_step
        exact wpStill_nil rfl) ?_
      clear c4 c5 c6
      go_upto_region 7 with fail
      refine still_all_drew7 rfl (by kernel_rfl) ?_
      obtain⟨wp,hwn⟩:∃ x,x=wo.drew:=⟨_,rfl⟩
      rw[← hwn]
      replace hX:Has wp gL 159 #[.int .u32 (nb32 xa),.int .u32 (nb32 xb),.int .u32 (nb32 xc),.int .u32 (nb32 xd),.int .u32 (nb32 xe),.int .u32 (nb32 xf),.int .u32 (nb32 xg),.int .u32 (nb32 xh)]:=by rw[hwn];exact hX.draw
      replace hgr:wD.grownBy wp (some gL):=by rw[hwn];exact grown_drew7 hgr
      clear hwn
      have c7:wp.cell? ⟨gL,7,none⟩=some (.int .u32 (nb32 xh)):=hX.cell_at rfl
      have cK:wp.cell? ⟨2,s,none⟩=some (.int .u32 (nb32 kt)):=by rw[HKW.out.1];exact grown_tab hgr hTD (by decide) (by have:=HKT.out;have:=HG.out;omega) s (by rw[Dg.kL_len];exact h64)
      refine still_then _ (by
        repeat still_step
        still_call ((turned_any _ 6 11 25 6 11 25 rfl rfl rfl (Or.inl ⟨rfl,rfl,rfl⟩) _).mono fun e w' h=>⟨h.1,h.2.symm⟩)
        repeat still_step
        exact wpStill_nil rfl) ?_
      clear c7 cK
      go_upto_region 8 with fail
      obtain⟨T1,hT1⟩:∃ x,x=xh+(Dg.ror xe 6^^^Dg.ror xe 11^^^Dg.ror xe 25)+(xe&&&xf^^^~~~xe&&&xg)+kt+wt:=⟨_,rfl⟩
      rw[← hT1]
      have HT1:=Lib.hid hT1
      clear hT1
      go_upto_region 9 with(first
        | (go_at_call 140;refine(turned_any _ 2 13 22 2 13 22 rfl rfl rfl (Or.inr ⟨rfl,rfl,rfl⟩) _).mono ?_;rintro e wt2 ⟨rfl,rfl⟩))
      obtain⟨T2,hT2⟩:∃ x,x=(Dg.ror xa 2^^^Dg.ror xa 13^^^Dg.ror xa 22)+(xa&&&xb^^^xa&&&xc^^^xb&&&xc):=⟨_,rfl⟩
      rw[← hT2]
      have HT2:=Lib.hid hT2
      clear hT2
      refine still_tail_drew7 2 rfl (by kernel_rfl) ?_
      simp only[List.take_succ_cons,List.take_zero,List.drop_succ_cons,List.drop_zero]
      obtain⟨wq,hwn⟩:∃ x,x=wp.drew:=⟨_,rfl⟩
      rw[← hwn]
      replace hX:Has wq gL 159 #[.int .u32 (nb32 xa),.int .u32 (nb32 xb),.int .u32 (nb32 xc),.int .u32 (nb32 xd),.int .u32 (nb32 xe),.int .u32 (nb32 xf),.int .u32 (nb32 xg),.int .u32 (nb32 xh)]:=by rw[hwn];exact hX.draw
      replace hgr:wD.grownBy wq (some gL):=by rw[hwn];exact grown_drew7 hgr
      clear hwn
      refine still_then _ (by
        repeat still_step
        exact wpStill_nil rfl) ?_
      have hcp:=copy_letters wq gL xa xb xc xd xe xf xg xh hX
      go_upto_region 10 with fail
      clear hcp
      replace hX:Has (wq.setCells gL 1 (wl7 xa xb xc xd xe xf xg)) gL 159 #[.int .u32 (nb32 xa),.int .u32 (nb32 xa),.int .u32 (nb32 xb),.int .u32 (nb32 xc),.int .u32 (nb32 xd),.int .u32 (nb32 xe),.int .u32 (nb32 xf),.int .u32 (nb32 xg)]:=hX.putAll (wl7 xa xb xc xd xe xf xg) 1
      replace hgr:=grown_puts7 (g:=gL) (wl7 xa xb xc xd xe xf xg) 1 hgr
      generalize wq.setCells gL 1 (wl7 xa xb xc xd xe xf xg)=wu at hX hgr ⊢
      have f0:=hX.loose 0
      have c0:wu.cell? ⟨gL,0,none⟩=some (.int .u32 (nb32 xa)):=hX.cell_at rfl
      go_upto_region 11 with fail
      replace hX:Has (wu.setCell ⟨gL,0,none⟩ (.int .u32 (nb32 (T1+T2)))) gL 159 #[.int .u32 (nb32 (T1+T2)),.int .u32 (nb32 xa),.int .u32 (nb32 xb),.int .u32 (nb32 xc),.int .u32 (nb32 xd),.int .u32 (nb32 xe),.int .u32 (nb32 xf),.int .u32 (nb32 xg)]:=hX.put 0 (.int .u32 (nb32 (T1+T2)))
      replace hgr:=grown_put7 hgr 0 (.int .u32 (nb32 (T1+T2)))
      generalize wu.setCell ⟨gL,0,none⟩ (.int .u32 (nb32 (T1+T2)))=wv at hX hgr ⊢
      clear f0 c0
      have f4:=hX.loose 4
      have c4:wv.cell? ⟨gL,4,none⟩=some (.int .u32 (nb32 xd)):=hX.cell_at rfl
      go_wp2_with fail
      replace hX:Has (wv.setCell ⟨gL,4,none⟩ (.int .u32 (nb32 (xd+T1)))) gL 159 #[.int .u32 (nb32 (T1+T2)),.int .u32 (nb32 xa),.int .u32 (nb32 xb),.int .u32 (nb32 xc),.int .u32 (nb32 (xd+T1)),.int .u32 (nb32 xe),.int .u32 (nb32 xf),.int .u32 (nb32 xg)]:=hX.put 4 (.int .u32 (nb32 (xd+T1)))
      replace hgr:=grown_put7 hgr 4 (.int .u32 (nb32 (xd+T1)))
      go_roundw
      case rel=>
        refine⟨s+1,by omega,by go_num,?_,hgr⟩
        rw[show Dg.steps (Dg.m b) v (s+1)=Dg.step (Dg.steps (Dg.m b) v s) (Dg.kL.getD s 0) (Dg.sch (Dg.m b) s) from rfl,← HU.out,← HKW.out.1,← HKW.out.2]
        unfold Dg.step Dg.t1 Dg.t2 Dg.S1 Dg.S0 Dg.ch Dg.maj
        simp only[not_sub]
        rw[← HT1.out,← HT2.out]
        exact hX
      case measure=>(simp[intOf];try omega)
    · have HE:=Lib.hid (show s=64 by omega)
      have hs64:¬ (s:Int)<64:=by omega
      have hVF:=grown_has hgr hVD (by have:=HG.out;omega)
      have hRF:=grown_has hgr hRD (by have:=HG.out;omega)
      have hBF:=grown_low hBD hgr (by have:=HG.out;omega) hBD.size
      rw[v8_cells] at hX
      have hx:=hX.load_agg (P:=Tryz.prog) Tryz.underlying159 rfl (size_w8 _)
      clear hVD hRD hBD hTD hgr
      go_wp2_with (first
        | (refine wpList_load_run rfl 159 (.tmp 5) rfl _ _ rfl hx ?_))
      clear hx
      rename World=>wF
      rw[aF_zero v u] at hVF
      go_loopw [85] (fun iv wr=>∃ i:Nat,i≤8∧iv=.int .i64 i∧Has wr w.heap.size 159 (wcells 8 (Dg.aF v u i))∧wF.grownBy wr (some w.heap.size)) (fun iv _=>8-(intOf iv).toNat)
      case atStart=>exact⟨0,Nat.zero_le _,rfl,hVF,grown_refl7 _ _⟩
      case round=>
        clear hVF
        obtain⟨i,hi,rfl,hG,hgr⟩:=hrel
        by_cases h8:i<8
        · have hi8:(i:Int)<8:=by omega
          have hi0:(0:Int)≤(i:Int):=by omega
          obtain⟨y,hy⟩:∃ x,x=v.at i:=⟨_,rfl⟩
          obtain⟨z,hz⟩:∃ x,x=u.at i:=⟨_,rfl⟩
          have hix:=run_index_arr (P:=Tryz.prog) (t:=159) (e:=158) Tryz.underlying159 Tryz.underlying158 size_w32 h8 (show(wcells 8 u.at)[i]? = some (.int .u32 (nb32 z)) by rw[wcells_at _ h8,hz])
          have cG:wr.cell? ⟨w.heap.size,i,none⟩=some (.int .u32 (nb32 y)):=hG.cell_at (by rw[wcells_at _ h8,aF_here,hy])
          have fG:=hG.loose i
          have HYZ:=Lib.hid (show y+z=v.at i+u.at i by rw[hy,hz])
          clear hy hz
          go_wp2_with fail
          have hG2:=hG.put i (.int .u32 (nb32 (y+z)))
          rw[aF_step v u i _ HYZ.out] at hG2
          go_roundw
          case rel=>exact⟨i+1,by omega,by go_num,hG2,grown_put7 hgr _ _⟩
          case measure=>(simp[intOf];try omega)
        · have hie:i=8:=by omega
          subst hie
          have hi8:¬ (8:Int)<8:=by omega
          rw[aF_end] at hG
          have hR3:=grown_has hgr hRF (by omega)
          have hB3:Below w.heap.size w wr:=hBF.grown hgr hBF.size (fun k e=>by injection e with e;omega)
          have hx:=hG.load_agg (P:=Tryz.prog) Tryz.underlying159 rfl (size_w8 _)
          have hth:=hR3.there 0 (wcells 8 (Dg.add8 v u).at).size (by rw[wcells_size];decide)
          have HT:=Lib.hid (And.intro hth (And.intro (size_w8 (Dg.add8 v u).at) (wcells_one 8 (Dg.add8 v u).at)))
          clear hth hgr hRF hBF
          go_wp2_with (first
            | (refine wpList_store_mid rfl 159 (.tmp 4) (.tmp 96) rfl (w.heap.size+1+1) 0 (wcells 8 (Dg.add8 v u).at) rfl rfl HT.out.1 HT.out.2.1 HT.out.2.2 ?_)
            | (refine wpList_load_run rfl 159 (.tmp 2) rfl _ _ rfl hx ?_))
          have hE:=hR3.whole_cs (cs2:=wcells 8 (Dg.add8 v u).at) (by rw[wcells_size];rfl)
          refine bodyPost_ret (results_one_cell rfl _ _ (w.heap.size+1+1) rfl _ (hE.load_var Tryz.underlying159 rfl HT.out.2.1)) rfl ⟨?_,below_setAll (by omega) _ 0 hB3⟩
          rw[HU.out,HE.out]
end Go.Proofs.YtijemcfnlbapjaaGreatDoor
namespace Go.Proofs.YtijemcfnlbapjaaGreatDoor
open Go Go.RowKit Go.ChangeShapes Go.WideShapes
set_option maxRecDepth 100000 in
set_option maxHeartbeats 4000000 in
theorem joined_any (v:Dg.V8) (w:World) :
    Calls Tryz.prog 115 #[.agg (wcells 8 v.at)] w fun e w'=>e=.returned (.agg (blist (Dg.out v)).toArray)∧Below w.heap.size w w':=by
  go_enter Tryz.func115,Tryz.ntmps115
  go_upto_region 2 with fail
  obtain⟨gO,hgO⟩:∃ g,g=w.heap.size+1+1:=⟨_,rfl⟩
  obtain⟨wO,hwO⟩:∃ x,x=((w.alloc (.cells (wcells 8 v.at) 159)).alloc (.cells z32 46)).alloc (.cells z32 46):=⟨_,rfl⟩
  rw[← hwO]
  have hGO:Has wO w.heap.size 159 (wcells 8 v.at):=by rw[hwO];exact((Has.fresh _ _ _).past _).past _
  have hRO:Has wO (w.heap.size+1) 46 z32:=by rw[hwO];exact(Has.fresh_at _ _ _ (by simp)).past _
  have hO0:Has wO gO 46 (bcells 32 (Dg.oF v 0)):=by rw[hwO,hgO,← oF_zero v];exact Has.fresh_at _ _ _ (by simp)
  have hBO:Below w.heap.size w wO:=by rw[hwO];exact(((Below.refl _ _).alloc (Nat.le_refl _) _).alloc (by simp) _).alloc (by simp;omega) _
  rw[← hgO]
  clear hwO
  go_wp2_with fail
  go_loopw [5] (fun iv wr=>∃ i:Nat,i≤32∧iv=.int .i64 i∧Has wr gO 46 (bcells 32 (Dg.oF v i))∧wO.grownBy wr (some gO)) (fun iv _=>32-(intOf iv).toNat)
  case atStart=>exact⟨0,Nat.zero_le _,rfl,hO0,grown_refl7 _ _⟩
  case round=>
    clear hO0
    obtain⟨i,hi,rfl,hO,hgr⟩:=hrel
    have HG:=Lib.hid hgO
    clear hgO
    by_cases h32:i<32
    · have hi32:(i:Int)<32:=by omega
      have hi0:(0:Int)≤(i:Int):=by omega
      obtain⟨d,hd⟩:∃ d,d=i / 4:=⟨_,rfl⟩
      obtain⟨r4,hr4⟩:∃ r,r=i%4:=⟨_,rfl⟩
      have hdi:(i:Int).tdiv 4=(d:Int):=by rw[hd];rfl
      have hdi2:(i:Int) / 4=(d:Int):=by omega
      have hri:(i:Int).tmod 4=(r4:Int):=by rw[hr4];rfl
      have hri2:(i:Int)%4=(r4:Int):=by omega
      have hd8:(d:Int)<8:=by omega
      have hd0:(0:Int)≤(d:Int):=by omega
      have h8:d<8:=by omega
      obtain⟨e8,he8⟩:∃ e,e=8*r4:=⟨_,rfl⟩
      have he8i:(r4:Int)*8=(e8:Int):=by omega
      have he8w:IntKind.i64.wrap (e8:Int)=(e8:Int):=IntWalk.i64_in _ (by omega)
      obtain⟨sh,hsh⟩:∃ e,e=24-e8:=⟨_,rfl⟩
      have hshi:(24:Int)-(e8:Int)=(sh:Int):=by omega
      have hshw:IntKind.i64.wrap (sh:Int)=(sh:Int):=IntWalk.i64_in _ (by omega)
      have hsh0:(0:Int)≤(sh:Int):=by omega
      obtain⟨y,hy⟩:∃ y,y=v.at d:=⟨_,rfl⟩
      have cH:wr.cell? ⟨w.heap.size,d,none⟩=some (.int .u32 (nb32 y)):=by rw[hy];exact(grown_has hgr hGO (by have:=HG.out;omega)).cell_at (wcells_at _ h8)
      have cO:=hO.cell_at (bcells_at (Dg.oF v i) h32)
      have fO:=hO.loose i
      have HY:=Lib.hid (show(y>>>sh).setWidth 8=Dg.ob v i by
        unfold Dg.ob
        rw[hy,hd,hsh,he8,hr4])
      clear hd hr4 he8 hsh hy
      go_wp2_with fail
      have hO2:=hO.put i (.int .u8 (nb8 ((y>>>sh).setWidth 8)))
      rw[oF_step v i _ HY.out] at hO2
      go_roundw
      case rel=>exact⟨i+1,by omega,by go_num,hO2,grown_put7 hgr _ _⟩
      case measure=>(simp[intOf];try omega)
    · have hie:i=32:=by omega
      subst hie
      have hi32:¬ (32:Int)<32:=by omega
      rw[oF_end] at hO
      have hR2:=grown_has hgr hRO (by have:=HG.out;omega)
      have hB2:=grown_low hBO hgr (by have:=HG.out;omega) hBO.size
      have hx:=Has.load_bytes (P:=Tryz.prog) Tryz.underlying46 (by kernel_rfl) (Dg.out_len v) hO
      have hth:=hR2.there 0 (blist (Dg.out v)).toArray.size (by rw[List.size_toArray,blist_length,Dg.out_len];decide)
      have hsz:=size_hash' (Dg.out_len v)
      have hone:=one_hash (Dg.out v)
      have HT:=Lib.hid (And.intro hth (And.intro hsz hone))
      clear hth hsz hone hgr hRO hGO hBO
      go_wp2_with (first
        | (refine wpList_store_mid rfl 46 (.tmp 2) (.tmp 21) rfl (w.heap.size+1) 0 (blist (Dg.out v)).toArray rfl rfl HT.out.1 HT.out.2.1 HT.out.2.2 ?_)
        | (refine wpList_load_run rfl 46 (.tmp 3) rfl _ _ rfl hx ?_))
      have hE:=hR2.whole (l:=Dg.out v) (by rw[Dg.out_len];rfl)
      have hS:=size_hash (Dg.out_len v)
      exact bodyPost_ret (results_one_cell rfl _ _ (w.heap.size+1) rfl _ (run_loadVar_mid _ _ 0 46 _ _ hE.range Tryz.underlying46 rfl hS)) rfl ⟨rfl,below_setAll (by omega) _ 0 hB2⟩
theorem bytes_has32 {w:World} {g:Nat} {T:TypeId} {l:List (BitVec 8)} (h:Has w g T (blist l).toArray) (hl:l.length=32):Bytes8 w (some ⟨g,0,none⟩) 32 l:=
  ⟨hl,by unfold maxLen;omega,fun i hi=>⟨_,rfl,by
    rw[Addr.add_mid,Nat.zero_add]
    exact h.cell_at (by rw[List.getElem?_toArray];exact blist_at l i (by omega))⟩⟩
end Go.Proofs.YtijemcfnlbapjaaGreatDoor
