/- Unsigned machine integers as bit vectors: a wrapper for the value and the walk's rules over it. Nothing of the program. · Blocks of memory that are known whole. Nothing of the program. · Slices of integers that came in. Nothing of the program. · Slices of words that a call has made. Nothing of the program. · Slices of bytes: how they are read, appended to and turned into strings. Nothing of the program's own. · What a call may change: a set of blocks; appends that tell where the new slice lies. Nothing of the program. · a drawn region, taken by hand: what is held may grow on the way · a drawn region by hand: what is held is all but some blocks; stores of whole rows. Nothing of the program. -/
import Derived.WalkKit
import Derived.Below
import Derived.Deep.Draws
import Derived.Deep.MidRow
import Derived.OpenShut
import Derived.ProofKit
import Derived.Deep.OwnRows
import Derived.Laws.CopyOwn
import Derived.Laws.OwnMore
import Derived.Test.YtijemcfnlbapjaaGreatDoorProg
import Derived.Laws.AppendOwnNone
import Derived.Maps.AppendAt
import Derived.Laws.BytesArg
import Derived.Laws.Concat
import Derived.Lib.AppendStr
import Derived.Deep.RegionHeld3
namespace Go.Proofs.YtijemcfnlbapjaaGreatDoor
open Go
def nb8 (x:BitVec 8):Int:=x.toNat
def nb32 (x:BitVec 32):Int:=x.toNat
def nb64 (x:BitVec 64):Int:=x.toNat
theorem u64_of_bounds {a:Int} (h0:0≤a) (h1:a<18446744073709551616):∃ x:BitVec 64,a=nb64 x:=by
  obtain⟨n,rfl⟩:=Int.eq_ofNat_of_zero_le h0
  exact⟨BitVec.ofNat 64 n,by simp only[nb64,BitVec.toNat_ofNat];omega⟩
theorem u32_inj {x y:BitVec 32} : nb32 x=nb32 y↔x=y:=by
  simp only[nb32,Int.natCast_inj,BitVec.toNat_inj]
theorem u64_inj {x y:BitVec 64} : nb64 x=nb64 y↔x=y:=by
  simp only[nb64,Int.natCast_inj,BitVec.toNat_inj]
@[go_sem high] theorem u64_beq (x y:BitVec 64):(nb64 x==nb64 y)=(x==y):=by
  rw[Bool.eq_iff_iff];simp[u64_inj]
@[go_sem high] theorem u32_pos (x:BitVec 32):(0<nb32 x)=(x≠0#32):=by
  rw[Ne,← u32_inj];simp only[nb32,BitVec.toNat_ofNat,eq_iff_iff];omega
@[go_sem high] theorem u64_pos (x:BitVec 64):(0<nb64 x)=(x≠0#64):=by
  rw[Ne,← u64_inj];simp only[nb64,BitVec.toNat_ofNat,eq_iff_iff];omega
section
variable (t:TypeId)
theorem ofInt_u32v (x:BitVec 32):BitVec.ofInt 32 (nb32 x)=x:=by
  simp only[nb32,BitVec.ofInt_natCast,BitVec.ofNat_toNat,BitVec.setWidth_eq]
theorem wrap_u32v (x:BitVec 32):IntKind.u32.wrap (x.toNat:Int)=nb32 x:=by
  have:=x.isLt
  rw[IntKind.wrap_u32'];simp only[nb32];omega
@[go_sem high] theorem u32_xor_v (x y:BitVec 32):binOp .xor t (.int .u32 (nb32 x)) (.int .u32 (nb32 y))=pure (.int .u32 (nb32 (x^^^y))):=by
  rw[binOp_xor,intBits_xor];show pure (Value.int .u32 (IntKind.u32.wrap (((BitVec.ofInt 32 (nb32 x)^^^BitVec.ofInt 32 (nb32 y)).toNat:Nat):Int)))=_
  rw[ofInt_u32v,ofInt_u32v,wrap_u32v]
@[go_sem high] theorem u32_and_v (x y:BitVec 32):binOp .and t (.int .u32 (nb32 x)) (.int .u32 (nb32 y))=pure (.int .u32 (nb32 (x&&&y))):=by
  rw[binOp_and,intBits_and];show pure (Value.int .u32 (IntKind.u32.wrap (((BitVec.ofInt 32 (nb32 x)&&&BitVec.ofInt 32 (nb32 y)).toNat:Nat):Int)))=_
  rw[ofInt_u32v,ofInt_u32v,wrap_u32v]
@[go_sem high] theorem u32_or_v (x y:BitVec 32):binOp .or t (.int .u32 (nb32 x)) (.int .u32 (nb32 y))=pure (.int .u32 (nb32 (x|||y))):=by
  rw[binOp_or,intBits_or];show pure (Value.int .u32 (IntKind.u32.wrap (((BitVec.ofInt 32 (nb32 x)|||BitVec.ofInt 32 (nb32 y)).toNat:Nat):Int)))=_
  rw[ofInt_u32v,ofInt_u32v,wrap_u32v]
end
section
variable (t:TypeId)
end
section
variable (t:TypeId)
@[go_sem high] theorem u64_add_v (x y:BitVec 64):binOp .add t (.int .u64 (nb64 x)) (.int .u64 (nb64 y))=pure (.int .u64 (nb64 (x+y))):=by
  rw[binOp_add];show pure (Value.int .u64 (IntKind.u64.wrap (nb64 x+nb64 y)))=_
  congr 2
@[go_sem high] theorem u32_add_v (x y:BitVec 32):binOp .add t (.int .u32 (nb32 x)) (.int .u32 (nb32 y))=pure (.int .u32 (nb32 (x+y))):=by
  rw[binOp_add];show pure (Value.int .u32 (IntKind.u32.wrap (nb32 x+nb32 y)))=_
  congr 2
end
theorem shl_nat (k x n:Nat):(x*2^(min n k))%2^k=(x<<<n)%2^k:=by
  rw[Nat.shiftLeft_eq]
  rcases Nat.le_total n k with h | h
  · rw[Nat.min_eq_left h]
  · rw[Nat.min_eq_right h,Nat.mul_mod_left]
    obtain⟨d,rfl⟩:=Nat.exists_eq_add_of_le h
    rw[Nat.pow_add,← Nat.mul_assoc,Nat.mul_right_comm,Nat.mul_mod_left]
theorem shr_nat (k x n:Nat) (hx:x<2^k):x / 2^(min n k)=x>>>n:=by
  rw[Nat.shiftRight_eq_div_pow]
  rcases Nat.le_total n k with h | h
  · rw[Nat.min_eq_left h]
  · rw[Nat.min_eq_right h,Nat.div_eq_of_lt hx,Nat.div_eq_of_lt (Nat.lt_of_lt_of_le hx (Nat.pow_le_pow_right (by omega) h))]
theorem shl_int (x k m:Nat):(((x:Nat):Int)*2^k)%((m:Nat):Int)=((x*2^k%m:Nat):Int):=by norm_cast
theorem shr_int (x k:Nat):((x:Nat):Int).fdiv (2^k)=((x / 2^k:Nat):Int):=by
  rw[Int.fdiv_eq_ediv_of_nonneg _ (Int.le_of_lt (Int.pow_pos (by omega)))]
  norm_cast
section
variable (t:TypeId) (yk:IntKind)
theorem u32_shl_n (x:BitVec 32) (n:Nat):binOp .shl t (.int .u32 (nb32 x)) (.int yk (n:Int))=pure (.int .u32 (nb32 (x<<<n))):=by
  have h:=shl_nat 32 x.toNat n
  have hn:¬ ((n:Int)<0):=by omega
  rw[binOp_shl];unfold Op.shift;rw[if_neg hn,Int.toNat_natCast]
  show pure (Value.int .u32 (IntKind.u32.wrap (nb32 x*2^(min n 32))))=_
  congr 2
  rw[IntKind.wrap_u32',show nb32 (x<<<n)=((x.toNat<<<n%2^32:Nat):Int) from by simp only[nb32,BitVec.toNat_shiftLeft],← h]
  exact shl_int x.toNat (min n 32) _
theorem u64_shl_n (x:BitVec 64) (n:Nat):binOp .shl t (.int .u64 (nb64 x)) (.int yk (n:Int))=pure (.int .u64 (nb64 (x<<<n))):=by
  have h:=shl_nat 64 x.toNat n
  have hn:¬ ((n:Int)<0):=by omega
  rw[binOp_shl];unfold Op.shift;rw[if_neg hn,Int.toNat_natCast]
  show pure (Value.int .u64 (IntKind.u64.wrap (nb64 x*2^(min n 64))))=_
  congr 2
  rw[IntKind.wrap_u64,show nb64 (x<<<n)=((x.toNat<<<n%2^64:Nat):Int) from by simp only[nb64,BitVec.toNat_shiftLeft],← h]
  exact shl_int x.toNat (min n 64) _
theorem u32_shr_n (x:BitVec 32) (n:Nat):binOp .shr t (.int .u32 (nb32 x)) (.int yk (n:Int))=pure (.int .u32 (nb32 (x>>>n))):=by
  have h:=shr_nat 32 x.toNat n x.isLt
  have hn:¬ ((n:Int)<0):=by omega
  rw[binOp_shr];unfold Op.shift;rw[if_neg hn,Int.toNat_natCast]
  show pure (Value.int .u32 ((nb32 x).fdiv (2^(min n 32))))=_
  congr 2
  rw[show nb32 (x>>>n)=((x.toNat>>>n:Nat):Int) from by simp only[nb32,BitVec.toNat_ushiftRight],← h]
  exact shr_int x.toNat (min n 32)
theorem u64_shr_n (x:BitVec 64) (n:Nat):binOp .shr t (.int .u64 (nb64 x)) (.int yk (n:Int))=pure (.int .u64 (nb64 (x>>>n))):=by
  have h:=shr_nat 64 x.toNat n x.isLt
  have hn:¬ ((n:Int)<0):=by omega
  rw[binOp_shr];unfold Op.shift;rw[if_neg hn,Int.toNat_natCast]
  show pure (Value.int .u64 ((nb64 x).fdiv (2^(min n 64))))=_
  congr 2
  rw[show nb64 (x>>>n)=((x.toNat>>>n:Nat):Int) from by simp only[nb64,BitVec.toNat_ushiftRight],← h]
  exact shr_int x.toNat (min n 64)
attribute [go_sem high] u32_shl_n u64_shl_n u32_shr_n u64_shr_n
@[go_sem high] theorem u32_shl_l (x:BitVec 32) (n:Nat):binOp .shl t (.int .u32 (nb32 x)) (.int yk (no_index (OfNat.ofNat n)))=pure (.int .u32 (nb32 (x<<<n))):=u32_shl_n t yk x n
@[go_sem high] theorem u32_shr_l (x:BitVec 32) (n:Nat):binOp .shr t (.int .u32 (nb32 x)) (.int yk (no_index (OfNat.ofNat n)))=pure (.int .u32 (nb32 (x>>>n))):=u32_shr_n t yk x n
@[go_sem high] theorem u64_shr_l (x:BitVec 64) (n:Nat):binOp .shr t (.int .u64 (nb64 x)) (.int yk (no_index (OfNat.ofNat n)))=pure (.int .u64 (nb64 (x>>>n))):=u64_shr_n t yk x n
theorem rem_nat (k:IntKind) (a b:Nat) (hb:b≠0):Op.intDiv .rem k (a:Int) (b:Int)=pure (.int k ((a%b:Nat):Int)):=by
  unfold Op.intDiv
  rw[if_neg (by omega)]
  rfl
theorem quo_nat (k:IntKind) (a b:Nat) (hb:b≠0):Op.intDiv .quo k (a:Int) (b:Int)=pure (.int k (k.wrap ((a / b:Nat):Int))):=by
  unfold Op.intDiv
  rw[if_neg (by omega)]
  rfl
@[go_sem high] theorem u64_rem_l (x:BitVec 64) (n:Nat) (h0:n≠0) (h:n<18446744073709551616):binOp .rem t (.int .u64 (nb64 x)) (.int .u64 (no_index (OfNat.ofNat n)))=pure (.int .u64 (nb64 (x%BitVec.ofNat 64 n))):=by
  rw[binOp_rem]
  refine(rem_nat _ x.toNat n h0).trans ?_
  congr 2
  simp only[nb64,BitVec.toNat_umod,BitVec.toNat_ofNat]
  rw[Nat.mod_eq_of_lt (a:=n) (by omega)]
@[go_sem high] theorem u64_quo_l (x:BitVec 64) (n:Nat) (h0:n≠0) (h:n<18446744073709551616):binOp .quo t (.int .u64 (nb64 x)) (.int .u64 (no_index (OfNat.ofNat n)))=pure (.int .u64 (nb64 (x / BitVec.ofNat 64 n))):=by
  have hlt:x.toNat / n<18446744073709551616:=Nat.lt_of_le_of_lt (Nat.div_le_self _ _) x.isLt
  rw[binOp_quo]
  refine(quo_nat _ x.toNat n h0).trans ?_
  congr 2
  rw[IntKind.wrap_u64]
  simp only[nb64,BitVec.toNat_udiv,BitVec.toNat_ofNat]
  rw[Nat.mod_eq_of_lt (a:=n) (by omega)]
  generalize x.toNat / n=q at hlt ⊢
  omega
end
end Go.Proofs.YtijemcfnlbapjaaGreatDoor
namespace Go.Proofs.YtijemcfnlbapjaaGreatDoor
open Go Go.RowKit
def Has (w:World) (g:Nat) (t:TypeId) (cs:Array Value):Prop:=w.heap[g]? = some (.cells cs t (0,0))
section
variable {w w':World} {g:Nat} {t:TypeId} {cs:Array Value}
theorem Has.lt (h:Has w g t cs):g<w.heap.size:=(Array.getElem?_eq_some_iff.1 h).1
theorem Has.cell (h:Has w g t cs) (i:Nat):w.cell? ⟨g,i,none⟩=cs[i]?:=cell_of_row w g i cs t (0,0) h
theorem Has.cell_at (h:Has w g t cs) {i:Nat} {v:Value} (hv:cs[i]? = some v):w.cell? ⟨g,i,none⟩=some v:=(h.cell i).trans hv
theorem Has.loose (h:Has w g t cs) (i:Nat):w.frozen? ⟨g,i,none⟩=false:=by
  unfold Has at h;simp[World.frozen?,h]
theorem Has.fresh (w:World) (t:TypeId) (cs:Array Value):Has (w.alloc (.cells cs t)) w.heap.size t cs:=heap_alloc_new w _
theorem Has.fresh_at {n:Nat} (w:World) (t:TypeId) (cs:Array Value) (hn:n=w.heap.size):Has (w.alloc (.cells cs t)) n t cs:=by subst hn;exact Has.fresh w t cs
theorem Has.draw (h:Has w g t cs):Has w.drew g t cs:=h
theorem Has.past (h:Has w g t cs) (o:Obj):Has (w.alloc o) g t cs:=(Below.heap_alloc w o g h.lt).trans h
theorem Has.put (h:Has w g t cs) (i:Nat) (u:Value):Has (w.setCell ⟨g,i,none⟩ u) g t (cs.setIfInBounds i u):=by
  unfold Has at h ⊢
  simp[World.setCell,Array.getElem?_modify,h]
theorem Has.aside (h:Has w g t cs) {p:Addr} (hp:g≠p.block) (u:Value):Has (w.setCell p u) g t cs:=(Below.heap_setCell w p u g hp).trans h
theorem Has.under {B:Nat} (h:Has w g t cs) (hb:Below B w w') (hg:g<B):Has w' g t cs:=(hb.block g hg).trans h
end
theorem below_draws {B:Nat} {a w:World} (h:Below B a w) (n:Nat):Below B a (w.drewN n):=⟨h.os,h.tape,h.output,h.size,h.block⟩
def cellsOf (n:Nat) (f:Nat→Value):Array Value:=((List.range n).map f).toArray
theorem cellsOf_size (n:Nat) (f:Nat→Value):(cellsOf n f).size=n:=by simp[cellsOf]
theorem cellsOf_at {n:Nat} (f:Nat→Value) {i:Nat} (h:i<n):(cellsOf n f)[i]? = some (f i):=by
  simp[cellsOf,h]
theorem cellsOf_put {n:Nat} (f g:Nat→Value) (i:Nat) (v:Value) (hi:g i=v) (hg:∀ j,j<n→j≠i→g j=f j):(cellsOf n f).setIfInBounds i v=cellsOf n g:=by
  apply Array.ext_getElem?
  intro j
  rw[Array.getElem?_setIfInBounds,cellsOf_size]
  rcases Nat.lt_or_ge j n with h | h
  · rw[cellsOf_at f h,cellsOf_at g h]
    by_cases e:i=j
    · subst e
      simp[h,hi]
    · simp[e,hg j h (fun x=>e x.symm)]
  · have e1:(cellsOf n f)[j]? = none:=Array.getElem?_eq_none (by rw[cellsOf_size];exact h)
    have e2:(cellsOf n g)[j]? = none:=Array.getElem?_eq_none (by rw[cellsOf_size];exact h)
    rw[e1,e2]
    by_cases e:i=j
    · subst e
      simp;omega
    · simp[e]
theorem cellsOf_congr {n:Nat} {f g:Nat→Value} (h:∀ j,j<n→f j=g j):cellsOf n f=cellsOf n g:=by
  unfold cellsOf
  congr 1
  exact List.map_congr_left fun j hj=>h j (List.mem_range.1 hj)
def putAll (cs:Array Value) (o:Nat):List Value→Array Value
  | []=>cs
  | v :: r=>putAll (cs.setIfInBounds o v) (o+1) r
theorem Has.putAll {t:TypeId} {g:Nat} : ∀ (vs:List Value) {w:World} {cs:Array Value} (o:Nat),Has w g t cs→Has (w.setCells g o vs) g t (putAll cs o vs)
  | [],_,_,_,h=>h
  | v :: r,_,_,o,h=>Has.putAll r (o+1) (h.put o v)
theorem Has.asideAll {t:TypeId} {g g':Nat} (hg:g≠g'):∀ (vs:List Value) {w:World} {cs:Array Value} (o:Nat),Has w g t cs→Has (w.setCells g' o vs) g t cs
  | [],_,_,_,h=>h
  | v :: r,_,_,o,h=>Has.asideAll hg r (o+1) (h.aside (p:=⟨g',o,none⟩) hg v)
theorem below_setAll {B g:Nat} {a:World} (hg:B≤g):∀ (vs:List Value) {w:World} (o:Nat),Below B a w→Below B a (w.setCells g o vs)
  | [],_,_,h=>h
  | v :: r,_,o,h=>below_setAll hg r (o+1) (h.setCell (p:=⟨g,o,none⟩) hg v)
theorem Has.range {w:World} {g:Nat} {t:TypeId} {cs:Array Value} (h:Has w g t cs):w.rangeAt g 0 cs.toList:=fun j v hv=>by
  rw[Nat.zero_add,h.cell j,← hv,Array.getElem?_toList]
theorem Has.there {w:World} {g:Nat} {t:TypeId} {cs:Array Value} (h:Has w g t cs) (o n:Nat) (hn:o+n≤cs.size):w.there g o n:=fun j hj=>by
  refine⟨?_,h.loose _⟩
  rw[h.cell,Array.getElem?_eq_getElem (by omega)]
  rfl
theorem results_one_cell {P:Program} {fn:Func} {p:Tmp} {ty:TypeId} (h:fn.results=#[.cell p ty]) (tmps:Array Value) (w:World) (g:Nat) (hp:tmps.getD p undef=.pointer (some ⟨g,0,none⟩))
    (v:Value) (hv:(loadVar ty ⟨g,0,none⟩).run P w=.ok v w):(results fn tmps).run P w=.ok v w:=by
  rw[Array.getD_eq_getD_getElem?] at hp
  simp only[results,h]
  simp[hp,hv,asAddr]
end Go.Proofs.YtijemcfnlbapjaaGreatDoor
namespace Go.Proofs.YtijemcfnlbapjaaGreatDoor
open Go Go.RowKit Go.ChangeShapes Go.WideShapes
theorem isSome_lt {w:World} {p:Addr} (h:(w.cell? p).isSome=true):p.block<w.heap.size:=by
  rcases Nat.lt_or_ge p.block w.heap.size with hlt | hge
  · exact hlt
  · have:w.heap[p.block]? = none:=Array.getElem?_eq_none hge
    unfold World.cell? at h
    rw[this] at h
    simp at h
section
variable {H:Type} {enc:TypeId×Value→H} {P:Program} {W:World} {base:Nat} {v:Value} {d:DataW H} {p:List MemPlace}
end
end Go.Proofs.YtijemcfnlbapjaaGreatDoor
namespace Go.Proofs.YtijemcfnlbapjaaGreatDoor
open Go Go.RowKit
def wcells (n:Nat) (f:Nat→BitVec 32):Array Value:=cellsOf n fun j=>.int .u32 (nb32 (f j))
theorem wcells_size (n:Nat) (f:Nat→BitVec 32):(wcells n f).size=n:=cellsOf_size _ _
theorem wcells_at {n:Nat} (f:Nat→BitVec 32) {i:Nat} (h:i<n):(wcells n f)[i]? = some (.int .u32 (nb32 (f i))):=cellsOf_at _ h
theorem wcells_congr {n:Nat} {f g:Nat→BitVec 32} (h:∀ i,i<n→f i=g i):wcells n f=wcells n g:=cellsOf_congr fun j hj=>by rw[h j hj]
theorem wcells_put {n:Nat} (f g:Nat→BitVec 32) (i:Nat) (x:BitVec 32) (hi:g i=x) (hg:∀ j,j<n→j≠i→g j=f j):(wcells n f).setIfInBounds i (.int .u32 (nb32 x))=wcells n g:=
  cellsOf_put _ _ i _ (by rw[hi]) (fun j hj hne=>by rw[hg j hj hne])
section
variable {T:TypeId} {B:Nat} {w w':World} {v:Value} {l:List (BitVec 32)}
end
end Go.Proofs.YtijemcfnlbapjaaGreatDoor
namespace Go.Proofs.YtijemcfnlbapjaaGreatDoor
open Go Go.RowKit Go.ChangeShapes Go.WideShapes
theorem info_byte:(Tryz.prog.info? 5).map (fun i=>(i.zero,i.size,i.bytes))=some (some (.int .u8 0),1,1):=by kernel_rfl
theorem u8_inj {x y:BitVec 8} : nb8 x=nb8 y↔x=y:=by
  simp only[nb8,Int.natCast_inj,BitVec.toNat_inj]
theorem u8_of_bounds {a:Int} (h0:0≤a) (h1:a<256):∃ x:BitVec 8,a=nb8 x:=by
  obtain⟨n,rfl⟩:=Int.eq_ofNat_of_zero_le h0
  exact⟨BitVec.ofNat 8 n,by simp only[nb8,BitVec.toNat_ofNat];omega⟩
@[go_sem high] theorem u32_to_u8 (x:BitVec 32):IntKind.u8.wrap (nb32 x)=nb8 (x.setWidth 8):=by
  rw[IntKind.wrap_u8];simp only[nb32,nb8,BitVec.toNat_setWidth];have:=x.isLt;omega
@[go_sem high] theorem u8_to_u32 (x:BitVec 8):IntKind.u32.wrap (nb8 x)=nb32 (x.setWidth 32):=by
  rw[IntKind.wrap_u32'];simp only[nb32,nb8,BitVec.toNat_setWidth];have:=x.isLt;omega
section
variable (t:TypeId)
end
def cb (l:List (BitVec 8)) (i:Nat):BitVec 8:=l.getD i 0
def blist (l:List (BitVec 8)):List Value:=l.map fun x=>.int .u8 (nb8 x)
theorem blist_length (l:List (BitVec 8)):(blist l).length=l.length:=by simp[blist]
theorem blist_at (l:List (BitVec 8)) (i:Nat) (h:i<l.length):(blist l)[i]? = some (.int .u8 (nb8 (cb l i))):=by
  rw[blist,List.getElem?_map,cb,List.getD_eq_getElem?_getD,List.getElem?_eq_getElem h];rfl
theorem blist_one (l:List (BitVec 8)):∀ v∈blist l,v.oneCell'=true:=by
  intro v hv
  rw[blist,List.mem_map] at hv
  obtain⟨x,_,rfl⟩:=hv
  rfl
theorem blist_app (l m:List (BitVec 8)):blist (l++m)=blist l++blist m:=by simp[blist]
def Bytes8 (w:World) (a:Option Addr) (n:Nat) (l:List (BitVec 8)):Prop:=
  l.length=n∧n≤maxLen∧∀ i,i<n→∃ x,a=some x∧w.cell? (x.add i)=some (.int .u8 (nb8 (cb l i)))
theorem Bytes8.keep {w w':World} {a:Option Addr} {n:Nat} {l:List (BitVec 8)} (h:Bytes8 w a n l) (hk:∀ p:Addr,(w.cell? p).isSome=true→w'.cell? p=w.cell? p):Bytes8 w' a n l:=by
  refine⟨h.1,h.2.1,fun i hi=>?_⟩
  obtain⟨x,rfl,hx⟩:=h.2.2 i hi
  exact⟨x,rfl,by rw[hk _ (by rw[hx];rfl)];exact hx⟩
theorem Bytes8.below {w w':World} {a:Option Addr} {n:Nat} {l:List (BitVec 8)} (h:Bytes8 w a n l) (hb:Below w.heap.size w w'):Bytes8 w' a n l:=
  h.keep fun _ hp=>hb.cell (isSome_lt hp)
theorem Bytes8.past {w:World} {a:Option Addr} {n:Nat} {l:List (BitVec 8)} (h:Bytes8 w a n l) (o:Obj):Bytes8 (w.alloc o) a n l:=h.keep fun p hp=>World.cell?_alloc_lt w o p (isSome_lt hp)
theorem Bytes8.draw {w:World} {a:Option Addr} {n:Nat} {l:List (BitVec 8)} (h:Bytes8 w a n l):Bytes8 w.drew a n l:=h
theorem bytes_none (w:World):Bytes8 w none 0 []:=⟨rfl,by unfold maxLen;omega,fun i hi=>by omega⟩
def OwnB (T:TypeId) (B:Nat) (w:World) (v:Value) (l:List (BitVec 8)):Prop:=w.ownsRow B T 1 v l.length (blist l)
section
variable {T:TypeId} {B:Nat} {w w':World} {v:Value} {l:List (BitVec 8)}
theorem OwnB.nil (T:TypeId) (B:Nat) (w:World):OwnB T B w (.slice none 0 0) []:=World.ownsRow_nil _ _ _ _
theorem OwnB.all {m:List (BitVec 8)} {k:Nat} (hk:m.length=k) (h:w'.ownsRow B T 1 v (l.length+k) (blist l++blist m)):OwnB T B w' v (l++m):=by
  subst hk
  unfold OwnB
  rw[blist_app]
  simpa using h
theorem OwnB.lt (h:OwnB T B w v l):∀ k,v.ownBlock=some k→B≤k:=fun k hk=>(World.ownsRow.lt h k hk).1
theorem OwnB.below (h:OwnB T B w v l) (hb:Below w.heap.size w w'):OwnB T B w' v l:=by
  refine⟨h.1,?_⟩
  rcases h.2 with hn | ⟨G,cap,cur,rfl,h1,h2,rest⟩
  · exact .inl hn
  · exact .inr ⟨G,cap,cur,rfl,h1,(hb.block _ (Array.getElem?_eq_some_iff.1 h2).1).trans h2,rest⟩
theorem OwnB.low {B':Nat} (h:OwnB T B w v l) (hB:B'≤B):OwnB T B' w v l:=by
  refine⟨h.1,?_⟩
  rcases h.2 with hn | ⟨G,cap,cur,rfl,h1,h2⟩
  · exact .inl hn
  · exact .inr ⟨G,cap,cur,rfl,by omega,h2⟩
theorem OwnB.shape {K:Nat} (h:OwnB T B w v l) (hK:l.length=K):∃ a c,v=.slice a K c∧K≤c∧(a=none→c=0)∧Bytes8 w a K l:=by
  subst hK
  obtain⟨hl,⟨rfl,h0⟩ | ⟨g,cap,cur,rfl,hg,hh,hn,hm,hc,ht⟩⟩:=h
  · obtain rfl:=List.length_eq_zero_iff.1 h0
    exact⟨none,0,rfl,Nat.le_refl _,fun _=>rfl,bytes_none w⟩
  · refine⟨_,cap,rfl,hn,(fun e=>by cases e),rfl,by omega,fun i hi=>⟨_,rfl,?_⟩⟩
    rw[Addr.add_mid,Nat.zero_add,(show Has w g T cur from hh).cell i,← blist_at l i hi,← ht,List.getElem?_take,if_pos (by omega),Array.getElem?_toList]
end
theorem below_own_rowb {w0 w w':World} {row:Option Nat} (hb:Below w0.heap.size w0 w) (hg:w.grownBy w' row) (hr:∀ k,row=some k→w0.heap.size≤k):Below w0.heap.size w0 w':=hb.grown hg hb.size hr
theorem wpList_append_lit {P:Program} {w:World} {ops:Array Oper} {rest:List Oper} {o:Oper} {a:Act} {Q:Exit→Act→World→Prop} (hgd:o.guard=none) (s x:Operand) (t:TypeId)
    (ho:o.op=.call { callee:=.builtin .append,args:=#[s,x],argTypes:=#[t,t] })
    (T:TypeId) (ht:P.underlying t=some (.slice T)) (hinfo:(P.info? T).map (fun i=>(i.zero,i.size,i.bytes))=some (some (.int .u8 0),1,1))
    (B:Nat) (v:Value) (l:List (BitVec 8)) (hs:a.eval s=v) (hown:OwnB T B w v l) (m:Nat) (l2:List (BitVec 8)) (hl2:l2.length=m) (cs:Array Value) (hcs:cs=(blist l2).toArray) (hx:a.eval x=.slice (some ⟨w.heap.size,0,none⟩) m m)
    (h63:l.length+m≤1099511627776) (hbase:B≤w.heap.size)
    (h:∀ v' w',OwnB T B w' v' (l++l2)→(w.alloc (.cells cs T)).grownBy w' v.ownBlock→wpList P ops Q rest (a.put o.dst v') w'):wpList P ops Q (o :: rest) a (w.alloc (.cells cs T)):=by
  obtain⟨i0,hi,hz0,hz1,hz2⟩:=info_parts hinfo
  refine wpList_append_own (w.alloc (.cells cs T)) hgd s x t ho B T i0 (.int .u8 0) 1 1 ht hi hz0 hz1 hz2 rfl (by decide) v _ _ hs (World.ownsRow.alloc hown _) ⟨w.heap.size,0,none⟩ m m (blist l2) hx (by rw[blist_length,hl2,Nat.mul_one]) (fun j u hj=>?_) (blist_one _) (by unfold maxLen;omega) (by omega) (by rw[World.size_alloc];omega) ?_
  · rw[Addr.add_mid,Nat.zero_add,(Has.fresh w T cs).cell,hcs,← Array.getElem?_toList]
    exact hj
  · intro v' w' h1 h2 _
    exact h v' w' (OwnB.all hl2 h1) h2
theorem OwnB.empty {T:TypeId} {B:Nat} {w1:World} {g:Nat} (hB:B≤g) (hh:Has w1 g T #[]):OwnB T B w1 (.slice (some ⟨g,0,none⟩) 0 0) []:=
  ⟨rfl,.inr ⟨g,0,#[],rfl,hB,hh,Nat.le_refl _,by unfold maxLen;omega,rfl,rfl⟩⟩
theorem wpList_append_bytes {P:Program} {w:World} {ops:Array Oper} {rest:List Oper} {o:Oper} {a:Act} {Q:Exit→Act→World→Prop} (hgd:o.guard=none) (s x:Operand) (t:TypeId)
    (ho:o.op=.call { callee:=.builtin .append,args:=#[s,x],argTypes:=#[t,t] })
    (T:TypeId) (ht:P.underlying t=some (.slice T)) (hinfo:(P.info? T).map (fun i=>(i.zero,i.size,i.bytes))=some (some (.int .u8 0),1,1))
    (B:Nat) (v:Value) (l:List (BitVec 8)) (hs:a.eval s=v) (hown:OwnB T B w v l) (ad:Option Addr) (m c:Nat) (l2:List (BitVec 8)) (hx:a.eval x=.slice ad m c) (hw:Bytes8 w ad m l2) (hc:ad=none→c=0)
    (h63:l.length+m≤1099511627776) (hbase:B≤w.heap.size)
    (h:∀ v' w',OwnB T B w' v' (l++l2)→w.grownBy w' v.ownBlock→wpList P ops Q rest (a.put o.dst v') w'):wpList P ops Q (o :: rest) a w:=by
  obtain⟨i0,hi,hz0,hz1,hz2⟩:=info_parts hinfo
  obtain⟨hl2,hm,hcell⟩:=hw
  rcases ad with _ | ad
  · have h0:m=0:=by
      rcases Nat.eq_zero_or_pos m with h0 | h0
      · exact h0
      · obtain⟨_,e,_⟩:=hcell 0 h0
        cases e
    subst h0
    obtain rfl:=List.length_eq_zero_iff.1 hl2
    obtain rfl:=hc rfl
    exact wpList_append_own_none hgd s x t ho B T i0 1 ht hi v _ _ hs hown hx (h v w (by simpa using hown) (World.grownBy.refl w _))
  · refine wpList_append_own w hgd s x t ho B T i0 (.int .u8 0) 1 1 ht hi hz0 hz1 hz2 rfl (by decide) v _ _ hs hown ad m c (blist l2) hx (by rw[blist_length,hl2,Nat.mul_one]) (fun j u hj=>?_) (blist_one _) (by unfold maxLen;omega) (by omega) hbase ?_
    · have hj2:j<l2.length:=by
        have:=(List.getElem?_eq_some_iff.1 hj).1
        rwa [blist_length] at this
      obtain⟨ad',e,hx2⟩:=hcell j (by omega)
      injection e with e
      subst e
      rw[hx2,← hj,blist_at l2 j hj2]
    · intro v' w' h1 h2 _
      exact h v' w' (OwnB.all hl2 h1) h2
def strB (l:List (BitVec 8)):ByteArray:=strOfNums (l.map nb8)
theorem strB_size (l:List (BitVec 8)):(strB l).size=l.length:=by
  unfold strB
  rw[strOfNums_size,List.length_map]
section
variable {H:Type} {enc:TypeId×Value→H} {P:Program} {W:World} {base:Nat} {v:Value} {d:DataW H} {p:List MemPlace}
theorem u8_of_wf {a:Int} (h:(Lit.int .u8 a).wf=true):∃ x:BitVec 8,a=nb8 x:=by
  have:=bounds_u8 h
  exact u8_of_bounds this.1 (by omega)
end
end Go.Proofs.YtijemcfnlbapjaaGreatDoor
namespace Go.Proofs.YtijemcfnlbapjaaGreatDoor
open Go Go.RowKit
structure Moved (F:Nat→Prop) (w w':World):Prop where
  os:w'.os=w.os
  tape:w'.tape=w.tape
  output:w'.output=w.output
  size:w.heap.size≤w'.heap.size
  block:∀ k,k<w.heap.size→¬ F k→w'.heap[k]? = w.heap[k]?
section
variable {F G:Nat→Prop} {a w w' w2:World} {g B:Nat}
theorem Moved.refl (F:Nat→Prop) (w:World):Moved F w w:=⟨rfl,rfl,rfl,Nat.le_refl _,fun _ _ _=>rfl⟩
theorem Moved.of_below (h:Below w.heap.size w w'):Moved F w w':=⟨h.os,h.tape,h.output,h.size,fun k hk _=>h.block k hk⟩
theorem Moved.of_grown {row:Option Nat} (h:w.grownBy w' row) (hr:∀ k,row=some k→F k):Moved F w w':=⟨h.os,h.tape,h.output,h.size,fun k hk hf=>h.block k hk (fun e=>hf (hr k e.symm))⟩
theorem Moved.below (h:Moved F w w') (hF:∀ k,F k→B≤k) (hB:B≤w.heap.size):Below B w w':=⟨h.os,h.tape,h.output,h.size,fun k hk=>h.block k (by omega) (fun hf=>by have:=hF k hf;omega)⟩
theorem Moved.trans (h:Moved F a w) (k:Moved G w w') (hG:∀ k,G k→F k∨a.heap.size≤k):Moved F a w':=
  ⟨k.os.trans h.os,k.tape.trans h.tape,k.output.trans h.output,Nat.le_trans h.size k.size,fun j hj hf=>(k.block j (Nat.lt_of_lt_of_le hj h.size) (fun hg=>(hG j hg).elim hf (fun e=>by omega))).trans (h.block j hj hf)⟩
theorem Moved.mono (h:Moved F w w') (hFG:∀ k,F k→G k):Moved G w w':=⟨h.os,h.tape,h.output,h.size,fun k hk hg=>h.block k hk (fun hf=>hg (hFG k hf))⟩
theorem Moved.then (h:Moved F a w) (k:Below w.heap.size w w'):Moved F a w':=h.trans (G:=fun _=>False) (Moved.of_below k) (fun _ e=>e.elim)
theorem Moved.drew (h:Moved F a w):Moved F a w.drew:=⟨h.os,h.tape,h.output,h.size,h.block⟩
theorem Moved.put (h:Moved F a w) (hg:F g∨a.heap.size≤g) (i:Nat) (u:Value):Moved F a (w.setCell ⟨g,i,none⟩ u):=
  h.trans (G:=fun k=>k=g) ⟨rfl,rfl,rfl,by simp,fun k hk hf=>Below.heap_setCell w _ u k hf⟩ (fun k e=>by subst e;exact hg)
theorem Moved.putAll (hg:F g∨a.heap.size≤g):∀ (vs:List Value) {w:World} (o:Nat),Moved F a w→Moved F a (w.setCells g o vs)
  | [],_,_,h=>h
  | v :: r,_,o,h=>Moved.putAll hg r (o+1) (h.put hg o v)
theorem Has.moved {t:TypeId} {cs:Array Value} (h:Has w g t cs) (hm:Moved F w w') (hg:¬ F g):Has w' g t cs:=(hm.block g h.lt hg).trans h
theorem OwnB.moved {T:TypeId} {v:Value} {l:List (BitVec 8)} (h:OwnB T B w v l) (hm:Moved F w w') (hv:∀ k,v.ownBlock=some k→¬ F k):OwnB T B w' v l:=by
  refine⟨h.1,?_⟩
  rcases h.2 with hn | ⟨k,cap,cur,rfl,h1,h2,rest⟩
  · exact .inl hn
  · exact .inr ⟨k,cap,cur,rfl,h1,(hm.block k (Array.getElem?_eq_some_iff.1 h2).1 (hv k rfl)).trans h2,rest⟩
theorem block_add (x:Addr) (i:Nat):(x.add i).block=x.block:=by unfold Addr.add;split<;>rfl
theorem OwnB.lt_size {T:TypeId} {v:Value} {l:List (BitVec 8)} (h:OwnB T B w v l):∀ k,v.ownBlock=some k→B≤k∧k<w.heap.size:=World.ownsRow.lt h
theorem OwnB.apart {T t:TypeId} {v:Value} {l:List (BitVec 8)} {cs:Array Value} (h:OwnB T B w v l) (hh:Has w g t cs) (ht:(T==t)=false):∀ k,v.ownBlock=some k→k≠g:=by
  rintro k hk rfl
  rcases h.2 with⟨rfl,_⟩ | ⟨j,cap,cur,rfl,_,h2,_⟩
  · cases hk
  · have e:j=k:=by simpa [Value.ownBlock] using hk
    subst e
    unfold Has at hh
    rw[hh] at h2
    injection h2 with h2
    injection h2 with _ e
    rw[e] at ht
    simp at ht
end
def Lies (w:World) (v v':Value):Prop:=∀ k,v'.ownBlock=some k→v.ownBlock=some k∨w.heap.size≤k
theorem Lies.refl (w:World) (v:Value):Lies w v v:=fun _ h=>.inl h
theorem Lies.of {w:World} {v v':Value} (h:v'.ownBlock=v.ownBlock∨v'.ownBlock=some w.heap.size):Lies w v v':=fun k hk=>by
  rcases h with h | h
  · exact .inl (h▸hk)
  · right
    rw[h] at hk
    injection hk with hk
    omega
theorem Lies.trans {w w2:World} {v v' v2:Value} (h:Lies w v v') (k:Lies w2 v' v2) (hs:w.heap.size≤w2.heap.size):Lies w v v2:=fun j hj=>(k j hj).elim (h j) (fun e=>.inr (by omega))
theorem Lies.up {w w2:World} {v v':Value} (k:Lies w2 v v') (hs:w.heap.size≤w2.heap.size):Lies w v v':=fun j hj=>(k j hj).elim .inl (fun e=>.inr (by omega))
section
variable {P:Program}
theorem wp_append_bytes_at {w:World} {o:Oper} {a:Act} {K:Act→World→Prop} {Q:Exit→Act→World→Prop} (s x:Operand) (t:TypeId)
    (ho:o.op=.call { callee:=.builtin .append,args:=#[s,x],argTypes:=#[t,t] })
    (T:TypeId) (ht:P.underlying t=some (.slice T)) (hinfo:(P.info? T).map (fun i=>(i.zero,i.size,i.bytes))=some (some (.int .u8 0),1,1))
    (B:Nat) (v:Value) (l:List (BitVec 8)) (hs:a.eval s=v) (hown:OwnB T B w v l) (ad:Option Addr) (m c:Nat) (l2:List (BitVec 8)) (hx:a.eval x=.slice ad m c) (hw:Bytes8 w ad m l2) (hc:ad=none→c=0)
    (h63:l.length+m≤1099511627776) (hbase:B≤w.heap.size)
    (h:∀ v' w',OwnB T B w' v' (l++l2)→w.grownBy w' v.ownBlock→Lies w v v'→K (a.put o.dst v') w'):o.wp P a w K Q:=by
  obtain⟨i0,hi,hz0,hz1,hz2⟩:=info_parts hinfo
  obtain⟨hl2,hm,hcell⟩:=hw
  rcases ad with _ | ad
  · have h0:m=0:=by
      rcases Nat.eq_zero_or_pos m with h0 | h0
      · exact h0
      · obtain⟨_,e,_⟩:=hcell 0 h0
        cases e
    subst h0
    obtain rfl:=List.length_eq_zero_iff.1 hl2
    obtain rfl:=hc rfl
    have hrun:=run_append_owned_none (P:=P) (w:=w) B t o.type T i0 1 ht hi v _ _ hown
    unfold Oper.wp
    simp[execOp,ho,resolve,invoke,builtin,hs,hx,hrun,Result.andThen]
    exact h v w (by simpa using hown) (World.grownBy.refl w _) (Lies.refl w v)
  · obtain⟨v',w',hr,h2,h3,_,h5⟩:=run_append_own_at (P:=P) w B t o.type T i0 (.int .u8 0) 1 1 ht hi hz0 hz1 hz2 rfl (by decide) v _ _ hown ad m c (blist l2) (by rw[blist_length,hl2,Nat.mul_one]) (fun j u hj=>by
      have hj2:j<l2.length:=by
        have:=(List.getElem?_eq_some_iff.1 hj).1
        rwa [blist_length] at this
      obtain⟨ad',e,hx2⟩:=hcell j (by omega)
      injection e with e
      subst e
      rw[hx2,← hj,blist_at l2 j hj2]) (blist_one _) (by unfold maxLen;omega) (by omega) hbase
    unfold Oper.wp execOp
    simp only[ho,resolve,invoke,builtin,Sem.run_bind,Sem.run_pure,Result.andThen_ok,List.map_toArray,List.map_cons,List.map_nil,hs,hx,hr]
    exact h v' w' (OwnB.all hl2 h2) h3 (Lies.of h5)
theorem step_append_bytes_at {w:World} {ops:Array Oper} {o:Oper} {a:Act} {K:Act→World→Prop} {Q:Exit→Act→World→Prop} {E:Prop} (hwt:Region.wanted o (yielded ops a.tmps)=true) (s x:Operand) (t:TypeId)
    (ho:o.op=.call { callee:=.builtin .append,args:=#[s,x],argTypes:=#[t,t] })
    (T:TypeId) (ht:P.underlying t=some (.slice T)) (hinfo:(P.info? T).map (fun i=>(i.zero,i.size,i.bytes))=some (some (.int .u8 0),1,1))
    (B:Nat) (v:Value) (l:List (BitVec 8)) (hs:a.eval s=v) (hown:OwnB T B w v l) (ad:Option Addr) (m c:Nat) (l2:List (BitVec 8)) (hx:a.eval x=.slice ad m c) (hw:Bytes8 w ad m l2) (hc:ad=none→c=0)
    (h63:l.length+m≤1099511627776) (hbase:B≤w.heap.size)
    (h:∀ v' w',OwnB T B w' v' (l++l2)→w.grownBy w' v.ownBlock→Lies w v v'→K (a.put o.dst v') w'):if Region.wanted o (yielded ops a.tmps)=true then Oper.wp P o a w K Q else E:=by
  rw[if_pos hwt]
  exact wp_append_bytes_at s x t ho T ht hinfo B v l hs hown ad m c l2 hx hw hc h63 hbase h
theorem run_append_string_at (w:World) (base:Nat) (t u ty e:TypeId) (i:TypeInfo) (ht:P.underlying t=some (.slice e)) (hu:P.underlying u=some .string) (hi:P.info? e=some i) (hz:i.zero=some (.int .u8 0))
    (hsize:i.size=1) (hby:i.bytes=1) (v:Value) (n:Nat) (xs:List Value) (hown:w.ownsRow base e 1 v n xs) (s:ByteArray)
    (h63:n+s.size≤1099511627776) (hbase:base≤w.heap.size) :
    ∃ v' w',(Builtin.append_ #[t,u] ty #[v,.string s]).run P w=.ok v' w'∧w'.ownsRow base e 1 v' (n+s.size) (xs++Lib.strCells s)∧w.grownBy w' v.ownBlock∧Lies w v v':=by
  obtain⟨v',w',hr,h2,h3,_⟩:=Lib.run_append_own_string (P:=P) w base t u ty e i ht hu hi hz hsize hby v n xs hown s (by unfold maxLen;omega) (by omega) hbase
  refine⟨v',w',hr,h2,h3,?_⟩
  have hxl:xs.length=n:=by simpa using hown.1
  rcases hown.2 with⟨rfl,rfl⟩ | ⟨g,cap,cur,rfl,hbg,hg,hnc,hcm,hcs,htake⟩
  · by_cases hm:s.size=0
    · rcases h2.2 with⟨rfl,_⟩ | ⟨g,cap,cur,rfl,_,hg,_⟩
      · exact Lies.refl _ _
      · have hf:=Lib.run_firstCells_string (P:=P) w 1 s
        rw[hm] at hf
        simp[Builtin.append_,run_underlying ht,run_underlying hu,sizeOf,typeInfo,hi,hsize,Builtin.lenOf,hm,hf] at hr
    · have hq:=run_append_nil_string (P:=P) w t u ty e i (.int .u8 0) ht hu hi hz s (by omega) (by omega) (by rw[hby];omega)
      rw[hr] at hq
      injection hq with hq _
      subst hq
      exact Lies.of (.inr rfl)
  · by_cases hroom:n+s.size≤cap
    · have hcs':cur.size=cap:=by simpa using hcs
      have hq:=Lib.run_append_room_string (P:=P) w t u ty e i ht hu hi hsize g n cap cur hg s hroom (by omega)
      rw[hr] at hq
      injection hq with hq _
      subst hq
      exact Lies.of (.inl rfl)
    · have hown':w.ownsRow base e 1 (.slice (some ⟨g,0,none⟩) n cap) n xs:=⟨by simpa using hxl,.inr ⟨g,cap,cur,rfl,hbg,hg,hnc,hcm,hcs,htake⟩⟩
      have holds:∀ j u,xs[j]? = some u→w.cell? ((⟨g,0,none⟩:Addr).add j)=some u:=hown'.cells (g:=g) rfl
      have hq:=Lib.run_append_grow_string (P:=P) w t u ty e i (.int .u8 0) ht hu hi hz ⟨g,0,none⟩ n cap xs (by rw[hsize];simpa using hxl) holds s (by omega) (by omega) (by rw[hby];exact growslice_fits (by omega) (by omega))
      rw[hr] at hq
      injection hq with hq _
      subst hq
      exact Lies.of (.inr rfl)
theorem strCells_strB' (l:List (BitVec 8)):Lib.strCells (strB l)=blist l:=by
  unfold Lib.strCells strB strOfNums blist
  apply List.ext_getElem?
  intro i
  simp only[List.map_map,List.getElem?_map]
  cases l[i]? with
  | none=>rfl
  | some x=>
    have hx:=x.isLt
    show some (Value.int .u8 ((UInt8.ofNat (nb8 x).toNat).toNat:Int))=some (Value.int .u8 (nb8 x))
    rw[show(nb8 x).toNat=x.toNat from rfl,UInt8.toNat_ofNat_of_lt' hx]
    rfl
theorem wp_append_str_at {w:World} {o:Oper} {a:Act} {K:Act→World→Prop} {Q:Exit→Act→World→Prop} (s x:Operand) (t u:TypeId)
    (ho:o.op=.call { callee:=.builtin .append,args:=#[s,x],argTypes:=#[t,u] })
    (T:TypeId) (ht:P.underlying t=some (.slice T)) (hu:P.underlying u=some .string) (hinfo:(P.info? T).map (fun i=>(i.zero,i.size,i.bytes))=some (some (.int .u8 0),1,1))
    (B:Nat) (v:Value) (l:List (BitVec 8)) (hs:a.eval s=v) (hown:OwnB T B w v l) (l2:List (BitVec 8)) (hx:a.eval x=.string (strB l2))
    (h63:l.length+l2.length≤1099511627776) (hbase:B≤w.heap.size)
    (h:∀ v' w',OwnB T B w' v' (l++l2)→w.grownBy w' v.ownBlock→Lies w v v'→K (a.put o.dst v') w'):o.wp P a w K Q:=by
  obtain⟨i0,hi,hz0,hz1,hz2⟩:=info_parts hinfo
  obtain⟨v',w',hr,h2,h3,h4⟩:=run_append_string_at (P:=P) w B t u o.type T i0 ht hu hi hz0 hz1 hz2 v _ _ hown (strB l2) (by rw[strB_size];exact h63) hbase
  rw[strB_size,strCells_strB'] at h2
  unfold Oper.wp execOp
  simp only[ho,resolve,invoke,builtin,Sem.run_bind,Sem.run_pure,Result.andThen_ok,List.map_toArray,List.map_cons,List.map_nil,hs,hx,hr]
  exact h v' w' (OwnB.all rfl h2) h3 h4
theorem wpList_append_str_at {w:World} {ops:Array Oper} {rest:List Oper} {o:Oper} {a:Act} {Q:Exit→Act→World→Prop} (hgd:o.guard=none) (s x:Operand) (t u:TypeId)
    (ho:o.op=.call { callee:=.builtin .append,args:=#[s,x],argTypes:=#[t,u] })
    (T:TypeId) (ht:P.underlying t=some (.slice T)) (hu:P.underlying u=some .string) (hinfo:(P.info? T).map (fun i=>(i.zero,i.size,i.bytes))=some (some (.int .u8 0),1,1))
    (B:Nat) (v:Value) (l:List (BitVec 8)) (hs:a.eval s=v) (hown:OwnB T B w v l) (l2:List (BitVec 8)) (hx:a.eval x=.string (strB l2))
    (h63:l.length+l2.length≤1099511627776) (hbase:B≤w.heap.size)
    (h:∀ v' w',OwnB T B w' v' (l++l2)→w.grownBy w' v.ownBlock→Lies w v v'→wpList P ops Q rest (a.put o.dst v') w'):wpList P ops Q (o :: rest) a w:=
  wpList_plain hgd fun _ hK=>wp_append_str_at s x t u ho T ht hu hinfo B v l hs hown l2 hx h63 hbase fun v' w' h1 h2 h3=>hK _ _ (h v' w' h1 h2 h3)
end
end Go.Proofs.YtijemcfnlbapjaaGreatDoor
namespace Go.Proofs.YtijemcfnlbapjaaGreatDoor
open Go Go.RowKit Go.ChangeShapes Go.WideShapes
theorem wpAnyH_mono {P:Program} {ops:Array Oper} {Q:Exit→Act→World→Prop} {md:Region.Mode} {S S':World→Prop} (hSS:∀ w,S' w→S w):∀ {fuel:Nat} {listed:Array Bool} {a:Act} {w:World},wpAnyH P md ops Q S' fuel listed a w→wpAnyH P md ops Q S fuel listed a w
  | 0,_,_,_,h=>h
  | _+1,_,_,_,h=>And.intro h.1 (fun i hi=>wpOp_mono (fun _ _ g=>And.intro (hSS _ g.1) (wpAnyH_mono hSS g.2)) (h.2 i hi))
def Held (w0:World) (w:World):Prop:=Below w0.heap.size w0 w
theorem Held.refl (w:World):Held w w:=Below.refl _ _
theorem Held.trans {w0 w1 w2:World} (h:Held w0 w1) (g:Held w1 w2):Held w0 w2:=Below.trans h (Below.mono g h.size)
theorem Held.below {w0 w1:World} (h:Held w0 w1):Below w0.heap.size w0 w1:=h
theorem Held.of {w0 w1:World} (h:Below w0.heap.size w0 w1):Held w0 w1:=h
theorem held_grow {P:Program} {ops:Array Oper} {Q:Exit→Act→World→Prop} {md:Region.Mode} {w0 w1:World} (h:Held w0 w1) {fuel:Nat} {listed:Array Bool} {a:Act} {w:World} (g:wpAnyH P md ops Q (Held w1) fuel listed a w):wpAnyH P md ops Q (Held w0) fuel listed a w:=
  wpAnyH_mono (fun _ k=>h.trans k) g
theorem put_dst {l l2:List Value} {ds:List _} {d:Nat} {v:Value} (hl:l.set d v=l2):((⟨l.toArray,ds⟩:Act).put (some d) v)=⟨l2.toArray,ds⟩:=by
  subst hl
  simp[Act.put]
theorem take_at {P:Program} {ops:Array Oper} {Q:Exit→Act→World→Prop} {md:Region.Mode} {S:World→Prop} {oi:Oper} {v:Value} {fuel:Nat} {listed:Array Bool} {l l2:List Value} {ds:List _} {w:World} (i d:Nat) (hi:ops[i]? = some oi) (hd:oi.dst=some d)
    (hs:Region.noSelect ops=true) (hf:Region.free md ops listed i=true) (hr:(Region.ready md ops listed).contains i=true)
    (hQ:∀ c a w,Q (.panic c) (a.put oi.dst v) w→Q (.panic c) a w) (hS:S w) (hy:YieldsIf P ops S oi v ⟨l.toArray,ds⟩) (hl:l.set d v=l2)
    (h:wpAnyH P md ops Q S fuel (listed.setIfInBounds i true) ⟨l2.toArray,ds⟩ w):wpAnyH P md ops Q S (fuel+1) listed ⟨l.toArray,ds⟩ w:=
  wpAnyH_take hi hs hf hr hQ hy hS (by rw[hd,put_dst hl];exact h)
theorem ts0 {α:Type} {a b:α} {l:List α} : (a :: l).set 0 b=b :: l:=rfl
theorem ts1 {α:Type} {a b:α} {l:List α} {i:Nat} : (a :: l).set (i+1) b=a :: l.set i b:=rfl
theorem tka {P:Program} {ops:Array Oper} {Q:Exit→Act→World→Prop} {md:Region.Mode} {S:World→Prop} {oi:Oper} {v:Value} {fuel:Nat} {listed:Array Bool} {l l2:List Value} {ds:List _} {w:World} (i d:Nat) (hi:ops[i]? = some oi) (hd:oi.dst=some d)
    (hS:S w) (hy:YieldsIf P ops S oi v ⟨l.toArray,ds⟩) (hl:l.set d v=l2) (h:wpAnyH P md ops Q S fuel (listed.setIfInBounds i true) ⟨l2.toArray,ds⟩ w)
    (hs:Region.noSelect ops=true:=by kernel_rfl) (hf:Region.free md ops listed i=true:=by kernel_rfl) (hr:(Region.ready md ops listed).contains i=true:=by kernel_rfl)
    (hQ:∀ c a w,Q (.panic c) (a.put oi.dst v) w→Q (.panic c) a w:=by exact fun _ _ _ h=>h):wpAnyH P md ops Q S (fuel+1) listed ⟨l.toArray,ds⟩ w:=
  take_at i d hi hd hs hf hr hQ hS hy hl h
end Go.Proofs.YtijemcfnlbapjaaGreatDoor
namespace Go.Proofs.YtijemcfnlbapjaaGreatDoor
open Go Go.RowKit
def HeldM (F:Nat→Prop) (w0 w:World):Prop:=Moved F w0 w
theorem HeldM.refl (F:Nat→Prop) (w:World):HeldM F w w:=Moved.refl F w
theorem HeldM.out {F:Nat→Prop} {w0 w:World} (h:HeldM F w0 w):Moved F w0 w:=h
theorem HeldM.of {F:Nat→Prop} {w0 w:World} (h:Moved F w0 w):HeldM F w0 w:=h
theorem heldM_grow {P:Program} {ops:Array Oper} {Q:Exit→Act→World→Prop} {md:Region.Mode} {F:Nat→Prop} {w0 w1:World} (h:Moved F w0 w1) {fuel:Nat} {listed:Array Bool} {a:Act} {w:World} (g:wpAnyH P md ops Q (HeldM F w1) fuel listed a w):wpAnyH P md ops Q (HeldM F w0) fuel listed a w:=
  wpAnyH_mono (fun _ k=>h.trans k (fun _ e=>.inl e)) g
theorem step_store_row {P:Program} {w:World} {ops:Array Oper} {o:Oper} {a:Act} {K:Act→World→Prop} {Q:Exit→Act→World→Prop} {E:Prop} (hwt:Region.wanted o (yielded ops a.tmps)=true) (ty:TypeId) (x y:Operand) (ho:o.op=.store ty x y)
    (b off:Nat) (cells:Array Value) (hx:a.eval x=.pointer (some ⟨b,off,none⟩)) (hy:a.eval y=.agg cells) (ht:w.there b off cells.size) (hi:(P.info? ty).map (·.size)=some cells.size) (h1:cells.all (·.oneCell')=true) (hd:o.dst=none)
    (h:K a (w.setCells b off cells.toList)):if Region.wanted o (yielded ops a.tmps)=true then Oper.wp P o a w K Q else E:=by
  rw[if_pos hwt]
  exact wp_store_mid ty x y ho b off cells hx hy ht hi h1 (by rw[hd];exact h)
theorem yieldsIf_load_agg {P:Program} {ops:Array Oper} {S:World→Prop} {op:Oper} {a:Act} (hw:Region.wanted op (yielded ops a.tmps)=true) (ty:TypeId) (x:Operand) (ho:op.op=.load ty x)
    (p v:Value) (hx:a.eval x=p) (hr:∀ w,S w→(Instr.loadAt ty p).run P w=.ok v w):YieldsIf P ops S op v a:=
  .inl ⟨hw,fun w hSw=>by
    unfold execOp
    simp only[ho,hx,Sem.run_bind,Sem.run_pure,Result.andThen_ok,hr w hSw]⟩
end Go.Proofs.YtijemcfnlbapjaaGreatDoor
