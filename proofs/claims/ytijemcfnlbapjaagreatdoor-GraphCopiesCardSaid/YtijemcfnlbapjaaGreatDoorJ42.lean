/- what the rows list of package-level tables (as digest's DgL, over fewer texts) · GraphCopies: the walk -/
import Derived.Test.YtijemcfnlbapjaaGreatDoorRows
import Derived.Test.YtijemcfnlbapjaaGreatDoorJ15
import Derived.Test.YtijemcfnlbapjaaGreatDoorJ41
namespace Go.Proofs.YtijemcfnlbapjaaGreatDoor
open Go Go.RowKit Go.ChangeShapes Go.WideShapes
theorem tlaid_dg {W:World} {ps:List MemPlace} (h:DataW.LaidVars Tryz.prog W [("gossamer/digest.start",Rows.laid_gossamer_digest_start),("gossamer/digest.constants",Rows.laid_gossamer_digest_constants)] ps):KDg W:=by
  obtain⟨h1,q,h2⟩:=laid_tab (g:=0) (t:=159) (e:=158) (k:=8) (l:=Dg.startL) h (by kernel_rfl) (by kernel_rfl) Tryz.underlying159 Tryz.underlying158 (by kernel_rfl) rfl
  obtain⟨h3,_⟩:=laid_tab (g:=2) (t:=175) (e:=158) (k:=64) (l:=Dg.kL) h2 (by kernel_rfl) (by kernel_rfl) Tryz.underlying175 Tryz.underlying158 (by kernel_rfl) rfl
  exact⟨h3,h1⟩
theorem tlaid_dg3 {W:World} (h:laidMetH Tryz.prog [("gossamer/gossamerref07.k",Rows.laid_gossamer_gossamerref07_k),("gossamer/digest.start",Rows.laid_gossamer_digest_start),("gossamer/digest.constants",Rows.laid_gossamer_digest_constants)] W):KDg W∧Tab32 W 1 Dg.kL:=by
  rw[MakeChecks.laidMetH_plain _ _ _ (by kernel_rfl)] at h
  obtain⟨ps,h,_⟩:=h
  obtain⟨h1,q,h2⟩:=laid_tab (g:=1) (t:=175) (e:=158) (k:=64) (l:=Dg.kL) h (by kernel_rfl) (by kernel_rfl) Tryz.underlying175 Tryz.underlying158 (by kernel_rfl) rfl
  exact⟨tlaid_dg h2,h1⟩
end Go.Proofs.YtijemcfnlbapjaaGreatDoor
namespace Go.Proofs.YtijemcfnlbapjaaGreatDoor
open Go Go.RowKit Go.ChangeShapes Go.WideShapes
set_option maxRecDepth 100000 in
theorem graphCopiesWalk {H:Type} {enc:TypeId×Value→H} (W:World) (base:Nat) (v0:Value) (d0:DataW H) (p0:List MemPlace) (v1:Value) (d1:DataW H) (p1:List MemPlace) (v2:Value) (d2:DataW H) (p2:List MemPlace)
    (o0:Value.okWide Tryz.prog W .any base 22 v0) (o1:Value.okWide Tryz.prog W .any base 22 v1) (o2:Value.okWide Tryz.prog W .any base 46 v2)
    (h0:DataW.Trod enc Tryz.prog W 0 (fun _=>true) true 22 v0 d0 p0) (h1:DataW.Trod enc Tryz.prog W 0 (fun _=>true) true 22 v1 d1 p1) (h2:DataW.Trod enc Tryz.prog W 0 (fun _=>true) true 46 v2 d2 p2) (hL:laidMetH Tryz.prog Rows.graphCopiesRow.laid W) :
    Calls Tryz.prog 6 #[v0,v1,v2] W fun e w'=>e=.returned (.bool true)∧Below W.heap.size W w':=by
  obtain⟨a,n,q,K,rfl,ha,_,_⟩:=Gr.arg_acts14 o0 h0
  obtain⟨b,m,r,K2,rfl,hb,_,_⟩:=Gr.arg_acts14 o1 h1
  obtain⟨id,rfl,hid⟩:=arg_bytes32 Tryz.underlying46 Tryz.underlying5 (by kernel_rfl) (by kernel_rfl) o2 h2
  have hl:=tlaid_dg3 hL
  exact gcopiesMain a n q K b m r K2 id hid W ha hb hl.1 hl.2
end Go.Proofs.YtijemcfnlbapjaaGreatDoor
