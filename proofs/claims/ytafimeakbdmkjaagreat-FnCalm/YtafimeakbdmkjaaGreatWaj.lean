/-
  Texts in one.
-/
import Derived.Test.YtafimeakbdmkjaaGreatWai
import Derived.Test.YtafimeakbdmkjaaGreatWad
import Derived.Test.YtafimeakbdmkjaaGreatWag
import Derived.Test.YtafimeakbdmkjaaGreatWah
import Derived.Test.YtafimeakbdmkjaaGreatWac
import Derived.Test.YtafimeakbdmkjaaGreatWaa
import Derived.Test.YtafimeakbdmkjaaGreatWae
import Derived.Deep.LoopGhost
import Derived.Deep.RegionLaw
import Derived.Lib.SlicesDelete
import Derived.Lib.Overlaps
import Derived.Lib.AppendZerosOnto
import Derived.Lib.SlicesSearch
import Derived.Lib.JoinLaws
import Derived.Lib.SliceRun
import Derived.Laws.IdiomCopy
import Derived.Laws.NewBlocks
import Derived.Laws.Externs
import Derived.Deep.Draws
import Derived.Lib.Walk
import Derived.Shelf.RegionOpenPlain
namespace Go.Proofs.YtafimeakbdmkjaaGreat
open Bool renaming false->aC,true->aB
open Go renaming Addr->ba5,Calls->ba3,Value->aJ,World->aI,maxLen->ba2,wpQuiet_nil->aZ2
open Go.Builtin renaming zeroCells->dL
open Go.Ending renaming returned->aK
open Go.Instr renaming typeAssert->aU4
open Go.IntKind renaming i64->aA
open Go.Obj renaming cells->aH
open Go.Proofs.Tryz renaming prog->aZ8,underlying41->dK
open Go.Region renaming wanted->aY0
open Go.RowKit renaming Hid->aG,intOf->ba4
open Go.RowKit.Below renaming refl->aZ5
open Go.Value renaming agg->aP,bool->aF,int->aZ9,int->ah,pointer->aO,slice->aj,string->aN
open Go.World renaming block_lt_of_cell?->bG,cell?_of_block->bT,size_alloc->aU1
open Int renaming mul_nonneg->aW9,toNat_natCast->dM
open List renaming all_eq_true->aU3,flatMap_append->dh,getElem?_append_left->aY,getElem?_append_right->aW,getElem?_drop->dF,getElem?_eq_getElem->bC,getElem?_eq_none->bK,getElem?_take->dG,getElem_mem->aU7,length_append->dB,length_cons->aU6,length_drop->aU8,length_map->aV7,length_nil->aV8,length_take->aU5,mem_cons->aX5,mem_iff_getElem->bU,mem_of_mem_drop->bY,mem_of_mem_take->bZ,take_append_of_le_length->aU,take_length->aV2,take_of_length_le->bJ
open Nat renaming add_assoc->aX9,add_zero->aY5,le_refl->aZ0,le_trans->aY2,lt_of_lt_of_le->dJ,lt_or_ge->aY6,not_lt_zero->aW3,zero_add->aY7,zero_le->aZ1
open Option renaming none->ak,some->au
open Option.some renaming inj->aV4
set_option linter.unusedVariables false
set_option linter.unusedSimpArgs false
open Go.RowKit Go.Sort
set_option maxRecDepth 100000
set_option maxHeartbeats 12800000
variable {X w:aI} {B b c i k n o off:Nat} {g:Gr} {fp:Fp} {x:Ml} {a:Act} {S cs:List Int} {m:Int}
def Fr5 (w:aI) (b o:Nat):Prop:=w.frozen? ⟨b,o,ak⟩=aC/\w.frozen? ⟨b,o+1,ak⟩=aC/\w.frozen? ⟨b,o+2,ak⟩=aC/\w.frozen? ⟨b,o+3,ak⟩=aC/\w.frozen? ⟨b,o+4,ak⟩=aC
theorem Gw.TK (h:Gw w X B o g fp b off c) (ok:OkG g n) (hk:k<g.mem.length):∃ A:Ma,C5 X b (off+k*5) (ah aA (dY g k).id) (ah aA (dY g k).n) (aj A.ra (dY g k).rows.length A.rc) (aj A.sa (dY g k).dR.length A.sc) (aF (dY g k).done)/\Fr5 X b (off+k*5)/\ug X A (dY g k):=by
 obtain⟨f,⟨vs,hpc,hov,_⟩,_⟩:=h.mb hk;obtain⟨A,rfl,hl⟩:=I5 hov;have hl5:(ig A (dY g k)).toList.length=5:=rfl;have q:=hpc.cell;have z:=hpc.free;have om:=ok.mem k (by rw[<- ok.ml];exact hk)
 exact⟨A,⟨q 0 (by rw[hl5];omega),q 1 (by rw[hl5];omega),q 2 (by rw[hl5];omega),q 3 (by rw[hl5];omega),q 4 (by rw[hl5];omega)⟩,⟨z 0 (by rw[hl5];omega),z 1 (by rw[hl5];omega),z 2 (by rw[hl5];omega),z 3 (by rw[hl5];omega),z 4 (by rw[hl5];omega)⟩,⟨f,hl⟩,om.fit,JF om,aY2 (Qk (AY hk)) (aY2 ok.small.2.2.2.2 (by decide))⟩
theorem Gw.JH {X1: aI} (h:Gw w X B o g fp b off c) (hk:k<g.mem.length) (hb:Below X.heap.size X X1) {m': Mb} {A': Ma} {f': Fp} (hr:gq X1 (jA m') (jB A' m') f') (hf:∀ b,f' b->X.heap.size<=b) :
  Gw w (((((X1.setCell ⟨b,off+k*5,ak⟩ (ah aA m'.id)).setCell ⟨b,off+k*5+1,ak⟩ (ah aA m'.n)).setCell ⟨b,off+k*5+2,ak⟩ (aj A'.ra m'.rows.length A'.rc)).setCell ⟨b,off+k*5+3,ak⟩ (aj A'.sa m'.dR.length A'.sc)).setCell ⟨b,off+k*5+4,ak⟩ (aF m'.done)) B o { g with mem:=g.mem.set k m' } fp b off c:=by
 obtain⟨f,hpl,hput⟩:=h.mb hk;have hA:=hpl.all hb (I4 hr) rfl hf;exact hput _ m' hA
def o8 (g:Gr) (x:Ml):Gr:=if nM g x.to.toNat=aB then { g with mem:=g.mem.set x.to.toNat (fG (dY g x.to.toNat) x.fr x.row).1 } else g
theorem TL (B:Nat) (g:Gr) (n a b:Nat) (r:Rw) (Ak:Ra) (fp:Fp) (w:aI) (h:iO w B 0 (fK g) fp) (ok:OkG g n) (hb:b<n) (han:a<n) (hv:qo w Ak r) :
  ba3 aZ8 72 #[aO (au ⟨B,0,ak⟩),aP #[ah aA (a:Int),ah aA (b:Int),ah aA r.ver,aj Ak.ta r.txt.length Ak.tc,aj Ak.ga r.got.length Ak.gc,aj Ak.sa r.dQ.length Ak.sc,aF r.wed,aF r.dV,ah aA r.dW,aj Ak.ma r.dU.length Ak.mc]] w fun e w'=>e=aK (.tuple #[])/\fH w w' B 0 (fK (o8 g ⟨(a:Int),(b:Int),r⟩)) fp:=by
 have fU:=iq;have hbl:b<g.mem.length:=by rw[ok.ml];exact hb
 have Gn:b<g.up.length:=by rw[ok.ul];exact hb
 obtain⟨bb,off,c,G0⟩:=Gw.start h (by omega)
 have hba:=dX w (aH #[ah aA (a:Int),ah aA (b:Int),ah aA r.ver,aj Ak.ta r.txt.length Ak.tc,aj Ak.ga r.got.length Ak.gc,aj Ak.sa r.dQ.length Ak.sc,aF r.wed,aF r.dV,ah aA r.dW,aj Ak.ma r.dU.length Ak.mc] 68);have hxm:=Bx.new w 68 #[ah aA (a:Int),ah aA (b:Int),ah aA r.ver,aj Ak.ta r.txt.length Ak.tc,aj Ak.ga r.got.length Ak.gc,aj Ak.sa r.dQ.length Ak.sc,aF r.wed,aF r.dV,ah aA r.dW,aj Ak.ma r.dU.length Ak.mc];have G1:=G0.step hba;obtain⟨ub,uo,uc,u1,u2,_,_⟩:=G1.bit Gn;obtain⟨A,⟨m0,m1,m2,m3,m4⟩,hf5,hmp⟩:=G1.TK ok hbl;have c0:=G1.mem;have mP:=dP G1;have HX:=dP hxm;have Qu:=dP hmp;have XZ:=dP (hv.below hba);have oQ:aG (C5 (w.alloc (aH #[ah aA (a:Int),ah aA (b:Int),ah aA r.ver,aj Ak.ta r.txt.length Ak.tc,aj Ak.ga r.got.length Ak.gc,aj Ak.sa r.dQ.length Ak.sc,aF r.wed,aF r.dV,ah aA r.dW,aj Ak.ma r.dU.length Ak.mc] 68)) bb (off+b*5) (ah aA (dY g b).id) (ah aA (dY g b).n) (aj A.ra (dY g b).rows.length A.rc) (aj A.sa (dY g b).dR.length A.sc) (aF (dY g b).done)):=⟨m0,m1,m2,m3,m4⟩;have rW:=dP hf5;obtain⟨⟨y0,y1,y2,y3,y4⟩,y5,y6,y7,y8,y9⟩:=Bx.AZ hxm;have om:=ok.mem b hb;have BX:aG (gZ (dY g b)=aB):=lH.2 ⟨b,n,om⟩;have HZ:aG (o8 g ⟨(a:Int),(b:Int),r⟩=if nM g b=aB then { g with mem:=g.mem.set b (fG (dY g b) (a:Int) r).1 } else g):=by rw[aG,o8];simp only[dM]
 have iE:=dP ok;have jy:=ok.n5;have b0:(0:Int)<=b:=by omega
 have b1:(b:Int)<g.mem.length:=by omega
 have b2:(b:Int)<g.up.length:=by omega
 simp only[aY7] at u1;clear h ok G0 G1 hba hxm hmp hv om m0 m1 m2 m3 m4 hf5;go_enter Tryz.func72,Tryz.ntmps72
 go_upto_region 1 with fail
 generalize w.alloc (aH #[ah aA (a:Int),ah aA (b:Int),ah aA r.ver,aj Ak.ta r.txt.length Ak.tc,aj Ak.ga r.got.length Ak.gc,aj Ak.sa r.dQ.length Ak.sc,aF r.wed,aF r.dV,ah aA r.dW,aj Ak.ma r.dU.length Ak.mc] 68)=W1 at *;have TT:∀ {x v},W1.cell? x=au v->∀ q:Bk W1,q.w.cell? x=au v:=fun h q=>fM q.h h
 have c0':=c0;have t1:=TT u1;have t2:=TT u2;have t3:=TT y1;clear TT u1 u2 c0 y0 y1 y2 y3 y4 y5 y6 y7 y8 y9;refine jf ?_;repeat (go_big_quiet_step ((first|rfl)))
 refine aZ2 (iI fun wE eH=>?_)
 clear t1 t2 t3
 cases hup:nM g b with
 | false =>
  have HN:aG (o8 g ⟨(a:Int),(b:Int),r⟩=g):=by rw[aG,HZ.out,if_neg (by rw[hup];decide)]
  clear hup;go_wp2_with fail
  first|go_end0|go_ret
  exact⟨rfl,by rw[HN.out];exact (mP.out.step eH).iw⟩
 | true =>
  have HN:aG (o8 g ⟨(a:Int),(b:Int),r⟩={ g with mem:=g.mem.set b (fG (dY g b) (a:Int) r).1 }):=by rw[aG,HZ.out,if_pos hup]
  clear hup;have hbd:=eH.trans ((Same.drewN wE 1).below.mono eH.size);have wX:=Ym A (dY g b) (a:Int) Ak r wE.drew (Qu.out.below hbd) ⟨by omega,by omega⟩ (XZ.out.below hbd)
  have HH:aG (KA (dY g b) (a:Int) r=fG (dY g b) (a:Int) r):=by rw[aG,KA,if_pos BX.out]
  rw[HH.out] at wX;generalize (fG (dY g b) (a:Int) r).2=hf2 at *;generalize (fG (dY g b) (a:Int) r).1=m2 at *;generalize hmm:dY g b=m at *
  have KS:∀ Z,Below W1.heap.size W1 Z->Z.cell? ⟨B,0,ak⟩=au (aj (au ⟨bb,off,ak⟩) g.mem.length c)/\Z.cell? ⟨w.heap.size,0,ak⟩=au (ah aA (a:Int))/\Z.cell? ⟨w.heap.size,1,ak⟩=au (ah aA (b:Int))/\Z.cell? ⟨w.heap.size,2,ak⟩=au (ah aA r.ver)/\Z.cell? ⟨w.heap.size,3,ak⟩=au (aj Ak.ta r.txt.length Ak.tc)/\Z.cell? ⟨w.heap.size,4,ak⟩=au (aj Ak.ga r.got.length Ak.gc)/\Z.cell? ⟨w.heap.size,5,ak⟩=au (aj Ak.sa r.dQ.length Ak.sc)/\Z.cell? ⟨w.heap.size,6,ak⟩=au (aF r.wed)/\Z.cell? ⟨w.heap.size,7,ak⟩=au (aF r.dV)/\Z.cell? ⟨w.heap.size,8,ak⟩=au (ah aA r.dW)/\Z.cell? ⟨w.heap.size,9,ak⟩=au (aj Ak.ma r.dU.length Ak.mc)/\Z.cell? ⟨bb,off+b*5,ak⟩=au (ah aA m.id)/\Z.cell? ⟨bb,off+b*5+1,ak⟩=au (ah aA m.n)/\Z.cell? ⟨bb,off+b*5+2,ak⟩=au (aj A.ra m.rows.length A.rc)/\Z.cell? ⟨bb,off+b*5+3,ak⟩=au (aj A.sa m.dR.length A.sc)/\Z.cell? ⟨bb,off+b*5+4,ak⟩=au (aF m.done):=fun Z hZ=>by
   obtain⟨⟨y0,y1,y2,y3,y4⟩,y5,y6,y7,y8,y9⟩:=Bx.AZ (HX.out.below hZ);obtain⟨m0,m1,m2,m3,m4⟩:=oQ.out;have t:∀ {x v},W1.cell? x=au v->Z.cell? x=au v:=fun h=>fM hZ h
   exact⟨t c0',y0,y1,y2,y3,y4,y5,y6,y7,y8,y9,t m0,t m1,t m2,t m3,t m4⟩
  unfold iL ig iK fP at wX;go_upto_region 2 with fail
  refine lG (S:=fun Z:aI=>Z.cell? ⟨B,0,ak⟩=au (aj (au ⟨bb,off,ak⟩) g.mem.length c)/\Z.cell? ⟨w.heap.size,0,ak⟩=au (ah aA (a:Int))/\Z.cell? ⟨w.heap.size,1,ak⟩=au (ah aA (b:Int))/\Z.cell? ⟨w.heap.size,2,ak⟩=au (ah aA r.ver)/\Z.cell? ⟨w.heap.size,3,ak⟩=au (aj Ak.ta r.txt.length Ak.tc)/\Z.cell? ⟨w.heap.size,4,ak⟩=au (aj Ak.ga r.got.length Ak.gc)/\Z.cell? ⟨w.heap.size,5,ak⟩=au (aj Ak.sa r.dQ.length Ak.sc)/\Z.cell? ⟨w.heap.size,6,ak⟩=au (aF r.wed)/\Z.cell? ⟨w.heap.size,7,ak⟩=au (aF r.dV)/\Z.cell? ⟨w.heap.size,8,ak⟩=au (ah aA r.dW)/\Z.cell? ⟨w.heap.size,9,ak⟩=au (aj Ak.ma r.dU.length Ak.mc)/\Z.cell? ⟨bb,off+b*5,ak⟩=au (ah aA m.id)/\Z.cell? ⟨bb,off+b*5+1,ak⟩=au (ah aA m.n)/\Z.cell? ⟨bb,off+b*5+2,ak⟩=au (aj A.ra m.rows.length A.rc)/\Z.cell? ⟨bb,off+b*5+3,ak⟩=au (aj A.sa m.dR.length A.sc)/\Z.cell? ⟨bb,off+b*5+4,ak⟩=au (aF m.done)) 23 fU ((KS _ hbd)) fun hHeld=>?_
  refine fE (i:=0) rfl ?_;refine fE (i:=1) rfl ?_;refine fE (i:=2) rfl ?_;refine fC (i:=3) rfl hHeld ?_;refine fE (i:=4) rfl ?_;refine fC (i:=5) rfl hHeld ?_;refine fE (i:=6) rfl ?_;refine fE (i:=7) rfl ?_;refine fE (i:=8) rfl ?_;refine fC (i:=9) rfl hHeld ?_;refine fE (i:=10) rfl ?_;refine fC (i:=11) rfl hHeld ?_;refine fE (i:=12) rfl ?_;refine fC (i:=13) rfl hHeld ?_;refine fE (i:=14) rfl ?_;refine fC (i:=15) rfl hHeld ?_;refine fE (i:=16) rfl ?_;refine fC (i:=17) rfl hHeld ?_;refine iy (i:=18) rfl fun K hK=>?_
  go_simp
  go_at_call 111
  refine wX.mono ?_;rintro e w1 ⟨A2,rfl,fr,hr1,hr2,hr3⟩;have hbw:=eP hbd hr3;have BH:=mP.out.JH hbl hbw hr1 (fun b h=>aY2 hbd.size (hr2 b h))
  have JI:=dP BH;obtain⟨k0,k1,k2,k3,k4⟩:=oQ.out;have t:∀ {x v},W1.cell? x=au v->w1.cell? x=au v:=fun h=>fM hbw h
  replace k0:=t k0;replace k1:=t k1;replace k2:=t k2;replace k3:=t k3;replace k4:=t k4;obtain⟨z0,z1,z2,z3,z4⟩:=rW.out
  have tz:∀ {x v},W1.cell? x=au v->W1.frozen? x=aC->w1.frozen? x=aC:=fun {x v} h hz=>by
   have e:=hbw.block x.block (bG _ _ h);simpa only[World.frozen?,e] using hz
  replace z0:=tz oQ.out.1 z0;replace z1:=tz oQ.out.2.1 z1;replace z2:=tz oQ.out.2.2.1 z2;replace z3:=tz oQ.out.2.2.2.1 z3;replace z4:=tz oQ.out.2.2.2.2 z4;unfold iL ig;refine hK.out _ _ (KS _ hbw) (fun eG=>?_)
  clear hK hHeld;have hHeld:=eG;try simp only[gW]
  refine fE (i:=19) rfl ?_;refine fE (i:=20) rfl ?_;refine fE (i:=21) rfl ?_;refine fE (i:=22) rfl ?_;refine oH rfl fun K hK=>?_
  go_simp;refine hK.out _ _ ?_;clear hHeld hK BH k0 k1 k2 k3 k4 z0 z1 z2 z3 z4 t tz hr1 hr2 hr3 hbw hbd KS wX;generalize (((((w1.setCell ⟨bb,off+b*5,ak⟩ (ah aA m2.id)).setCell ⟨bb,off+b*5+1,ak⟩ (ah aA m2.n)).setCell ⟨bb,off+b*5+2,ak⟩ (aj A2.ra m2.rows.length A2.rc)).setCell ⟨bb,off+b*5+3,ak⟩ (aj A2.sa m2.dR.length A2.sc)).setCell ⟨bb,off+b*5+4,ak⟩ (aF m2.done))=W9 at *;try go_wp2
  first|go_end0|go_ret
  exact⟨rfl,by rw[HN.out];exact JI.out.iw⟩
theorem jk.less {s g n': Nat} {xs: List aJ} (h:jk w s g off n c xs) (hn:n'<=n):jk w s g off n' c (xs.take (n'*s)):=by
 have h1:=Nat.mul_le_mul_right s hn;exact⟨by rw[aU5,h.len];omega,aY2 hn h.le,h.max,h.blk,fun i hi=>by rw[List.getElem?_take_of_lt hi];exact h.cell i (by omega),h.some,h.free⟩
theorem NI {P: Program} (w:aI) (t e ty:TypeId) (z:aJ) (Z:List aJ) (ht:P.underlying t=au (.slice e)) (hv:∀ w,(zeroValue e).run P w=.ok z w) (hz:(dL z.cells 1).toList=Z) (h1:∀ v∈Z,v.oneCell'=aB) (b o c:Nat)
  (hc:∀ j,j<Z.length->(w.cell? ⟨b,o+j,ak⟩).isSome=aB) (hf:∀ j,j<Z.length->w.frozen? ⟨b,o+j,ak⟩=aC) :
  (Builtin.clear_ #[t] ty #[aj (au ⟨b,o,ak⟩) 1 c]).run P w=.ok (.tuple #[]) (w.setCells b o Z):=by
 have hst:=run_storeCells_cells (P:=P) b o Z 0 w (by simpa using hc) (by simpa using hf) h1
 simp only[aY5] at hst;simp[Builtin.clear_,run_underlying ht,hv,hz,hst]
theorem at7 {L: List Ml} {g: Nat} (h:eF.ow w (iF 10 jU L) (aj (au ⟨g,off,ak⟩) L.length c) fp) (hx:L[k]?=au x) {Z: List aJ} (hZ:Z.length=10) :
  ∃ us u2 u3 f2,fp g/\L.length<=c/\c<=ba2/\(∀ b,f2 b->fp b/\b≠g)/\gq w (jU x) u2 f2/\(∀ j y,u2[j]?=au y->w.cell? ⟨g,off+k*10+j,ak⟩=au y)/\(∀ j y,u3[j]?=au y->w.cell? ⟨g,off+(k+1)*10+j,ak⟩=au y) /\
   u3.length=(L.length-(k+1))*10/\(∀ v∈u3,v.oneCell'=aB)/\jk w 10 g off L.length c us /\
   ∀ Y,Below w.heap.size w Y->∃ f',eF.ow ((Y.setCells g (off+k*10) u3).setCells g (off+(L.length-1)*10) Z) (iF 10 jU (L.take k++L.drop (k+1))) (aj (au ⟨g,off,ak⟩) (L.length-1) c) f'/\∀ b,f' b->fp b/\¬ f2 b:=by
 have hkl:k<L.length:=by
  rcases aY6 k L.length with h|h
  ·exact h
  ·rw[bK h] at hx;cases hx
 obtain⟨a,cc,us,G,f,e,ho,hcs,hn,hf⟩:=h
 cases e
 have hle:=ho.le;have WJ:=ho.len
 have e1:L=L.take k++([x]++L.drop (k+1)):=by
  have hx:L[k]=x:=by rw[bC hkl] at hx;exact aV4 hx
  rw[<- hx,List.singleton_append,List.getElem_cons_drop,List.take_append_drop]
 have e2:L.flatMap jU=(L.take k).flatMap jU++(jU x++(L.drop (k+1)).flatMap jU):=by
  conv=>lhs;rw[e1]
  rw[dh,dh,List.flatMap_singleton]
 rw[e2] at hcs;obtain⟨u1,u23,f1,f23,rfl,l1,Wy,d1,i1⟩:=mO hcs;obtain⟨u2,u3,f2,f3,rfl,l2,l3,d2,i2⟩:=mO Wy;have n1:u1.length=k*10:=by rw[jI l1,sV ng,aU5];congr 1;omega
 have n2:u2.length=10:=by rw[jI l2,ng]
 have n3:u3.length=(L.length-(k+1))*10:=by rw[jI l3,sV ng,aU8]
 rcases ho with ⟨h0,_⟩|⟨g',off',e',hs,rfl⟩
 ·omega
 cases e'
 have hg:fp g:=(hf g).2 (.inl rfl);have Ae:¬ f g:=hn g rfl
 have cell:∀ j y,(u1++(u2++u3))[j]?=au y->w.cell? ⟨g,off+j,ak⟩=au y:=fun j y hy=>by
  have hj:j<(u1++(u2++u3)).length:=by
   rcases aY6 j (u1++(u2++u3)).length with h|h
   ·exact h
   ·rw[bK h] at hy;cases hy
  rw[hs.cell j (by omega)]
  exact hy
 have s1:∀ b,f1 b->f b:=fun b hb=>(i1 b).2 (.inl hb)
 have s2:∀ b,f2 b->f b:=fun b hb=>(i1 b).2 (.inr ((i2 b).2 (.inl hb)))
 have s3:∀ b,f3 b->f b:=fun b hb=>(i1 b).2 (.inr ((i2 b).2 (.inr hb)))
 have lt:∀ {l:List aJ} {j:Nat} {y:aJ},l[j]?=au y->j<l.length:=fun {l j y} h=>by
  rcases aY6 j l.length with k|k
  ·exact k
  ·rw[bK k] at h;cases h
 refine⟨u1++(u2++u3),u2,u3,f2,hg,hle.1,hle.2,fun b hb=>⟨(hf b).2 (.inr (s2 b hb)),fun e=>Ae (e ▸ s2 b hb)⟩,l2,fun j y hy=>?_,fun j y hy=>?_,n3,rH l3 (OJ xK _),hs,fun Y hY=>?_⟩
 ·have hj:=lt hy
  rw[aX9];refine cell (k*10+j) y ?_;rw[aW (by omega),n1,Nat.add_sub_cancel_left,aY hj]
  exact hy
 ·have hj:=lt hy
  rw[aX9];refine cell ((k+1)*10+j) y ?_;rw[aW (by omega),aW (by omega),n1,n2,show (k+1)*10+j-k*10-10=j by omega]
  exact hy
 ·have hs0:=hs.below hY hs.blk
  have hs1:=FX (vs:=u3) (k:=k*10) hs0 (by rw[n3];omega)
  have hs2:=FX (vs:=Z) (k:=(L.length-1)*10) hs1 (by rw[hZ];omega)
  have hs3:=jk.less hs2 (n':=L.length-1) (by omega)
  have t1:(u1++(u2++u3)).take (k*10)=u1:=by rw[aU (by omega),bJ (by omega)]
  rw[t1] at hs3
  have t2:((((u1++u3++(u1++(u2++u3)).drop (k*10+u3.length))).take ((L.length-1)*10)++Z++((u1++u3++(u1++(u2++u3)).drop (k*10+u3.length))).drop ((L.length-1)*10+Z.length)).take ((L.length-1)*10))=u1++u3:=by
   have e0:(u1++u3).length=(L.length-1)*10:=by rw[dB,n1,n3];omega
   rw[List.append_assoc ((u1++u3++_).take _),aU (by rw[aU5,dB,e0];omega),List.take_take,Nat.min_self,aU (by omega),bJ (by omega)]
  rw[t2] at hs3;have hw:eU (fun b=>b=g) Y ((Y.setCells g (off+k*10) u3).setCells g (off+(L.length-1)*10) Z):=(eU.setCells g _ _ _).trans (eU.setCells g _ _ _) (fun _ _ h=>h)
  have l1':=gU (gy l1 hY) hw (fun b hb e=>Ae (e ▸ s1 b hb))
  have l3':=gU (gy l3 hY) hw (fun b hb e=>Ae (e ▸ s3 b hb))
  have d13:∀ b,f1 b->¬ f3 b:=fun b hb h2=>d1 b hb ((i2 b).2 (.inr h2))
  refine⟨fun b=>b=g\/f1 b\/f3 b,⟨au ⟨g,off,ak⟩,c,u1++u3,au g,fun b=>f1 b\/f3 b, ?_, ?_, ?_,fun b hb h=>?_,fun b=>?_⟩,fun b hb=>?_⟩
  ·rw[dB,aU5,aU8,show min k L.length+(L.length-(k+1))=L.length-1 by omega]
  ·rw[dB,aU5,aU8,show min k L.length+(L.length-(k+1))=L.length-1 by omega]
   exact iV.of hs3
  ·rw[dh]
   exact pJ l1' l3' d13
  ·cases hb
   exact Ae (h.elim (s1 _) (s3 _))
  ·constructor
   ·rintro (h|h)
    ·exact .inl (by rw[h])
    ·exact .inr h
   ·rintro (h|h)
    ·exact .inl (aV4 h).symm
    ·exact .inr h
  ·rcases hb with h|h|h
   ·exact⟨h ▸ hg,fun h2=>Ae (h ▸ s2 b h2)⟩
   ·exact⟨(hf b).2 (.inr (s1 b h)),fun h2=>d1 b h ((i2 b).2 (.inl h2))⟩
   ·exact⟨(hf b).2 (.inr (s3 b h)),fun h2=>d2 b h2 h⟩
def MW:List aJ:=[ah aA 0,ah aA 0,ah aA 0,aj ak 0 0,aj ak 0 0,aj ak 0 0,aF aC,aF aC,ah aA 0,aj ak 0 0]
theorem au0 (n g off c k:Nat) (us u3:List aJ) (w:aI) (hk:k<n) (hnc:n<=c) (hcm:c<=ba2) (h3:∀ j y,u3[j]?=au y->w.cell? ⟨g,off+(k+1)*10+j,ak⟩=au y) (hl3:u3.length=(n-(k+1))*10) (ho3:∀ v∈u3,v.oneCell'=aB) (hO:jk w 10 g off n c us) (hn:n<=1000000) :
  ba3 aZ8 159 #[aj (au ⟨g,off,ak⟩) n c,ah aA (k:Int),ah aA ((k:Int)+1)] w fun e w'=>e=aK (aj (au ⟨g,off,ak⟩) (n-1) c)/\w'=(w.drew.setCells g (off+k*10) u3).setCells g (off+(n-1)*10) MW:=by
 have fU:=iq;obtain⟨i0,hi0,hz0,hz1,hz2⟩:=sF Tryz.infoMl;have t0:Tryz.prog.underlying 26=au (.slice 68):=Tryz.underlying26;unfold ba2 at hcm
 obtain⟨A,hA,hsrc⟩:∃ A:ba5,(if c=k+1 then au (⟨g,off,ak⟩:ba5) else au ⟨g,off+(k+1)*10,ak⟩)=au A/\aG (∀ t u,u3[t]?=au u->w.drew.cell? (A.add t)=au u):=by
  by_cases h:c=k+1
  ·refine⟨⟨g,off,ak⟩,by simp[h],fun t u hu=>?_⟩
   have h0:u3.length=0:=by rw[hl3];omega
   rw[List.length_eq_zero_iff.1 h0] at hu;simp at hu
  ·exact⟨⟨g,off+(k+1)*10,ak⟩,by simp[h],fun t u hu=>by rw[Addr.add_lit];exact h3 t u hu⟩
 have hbd:Below w.heap.size w w.drew:=(Same.drewN w 1).below;have hOd:=hO.below hbd hO.blk
 have s3:aG (∀ t,t<u3.length->(w.drew.cell? ⟨g,off+k*10+t,ak⟩).isSome=aB/\w.drew.frozen? ⟨g,off+k*10+t,ak⟩=aC):=fun t ht=>by
  rw[hl3] at ht;rw[aX9];exact⟨hOd.some _ (by omega),hOd.free _ (by omega)⟩
 have hs1:=FX (vs:=u3) (k:=k*10) hOd (by rw[hl3];omega)
 obtain⟨W1,hW1⟩:∃ W1,W1=w.drew.setCells g (off+k*10) u3:=⟨_,rfl⟩;rw[<- hW1] at hs1
 have hcl:∀ ty,(Builtin.clear_ #[26] ty #[aj (au ⟨g,off+(k+(n-(k+1)))*10,ak⟩) (n-(k+(n-(k+1)))) (c-(k+(n-(k+1))))]).run aZ8 W1=.ok (.tuple #[]) (W1.setCells g (off+(k+(n-(k+1)))*10) MW) :=
  fun ty=>by
  rw[show k+(n-(k+1))=n-1 by omega,show n-(n-1)=1 by omega]
  exact NI W1 _ 68 ty _ MW t0 Tryz.zeroValue68 (by kernel_rfl) (by decide) g _ _ (fun j hj=>by have hj:j<10:=hj;rw[aX9];exact hs1.some _ (by omega)) (fun j hj=>by have hj:j<10:=hj;rw[aX9];exact hs1.free _ (by omega))
 have hW:=dP hW1;have q1:(0:Int)<=k:=by omega
 have q2:(k:Int)<=(k:Int)+1:=by omega
 have q3:(k:Int)+1<=(n:Int):=by omega
 have q4:(n:Int)<=c:=by omega
 have q5:(k:Int)<=c:=by omega
 have q6:((k:Int)==(k:Int)+1)=aC:=by rw[beq_eq_false_iff_ne];omega
 have q7:(0:Int)<=(k:Int)+1:=by omega
 have eT:((k:Int)+1).toNat=k+1:=by omega
 have H3:aG (u3.length=(n-(k+1))*10/\∀ v∈u3,v.oneCell'=aB):=⟨hl3,ho3⟩;clear hW1 hs1 hOd hO h3 hl3 ho3;go_enter Tryz.func159,Tryz.ntmps159
 go_wp2_with fail
 go_region_law_o (refine step_append_room rfl (.tmp 22) (.tmp 25) 26 rfl 68 i0 10 t0 hi0 hz1 g off k c (by simp[Act.eval,Act.put]) A (n-(k+1)) (c-(k+1)) u3 (by simp[Act.eval,Act.put]) H3.out.1 hsrc.out H3.out.2 (by omega) s3.out ?_;rw[<- hW.out])
 go_wp2;go_ret
 exact⟨by rw[show n-1=k+(n-(k+1)) by omega];rfl,by rw[hW.out,show k+(n-(k+1))=n-1 by omega]⟩
def DL (w:aI) (g o:Nat) (x:Ml) (A:Ra):Prop:=∀ i y,(yM x A).toList[i]?=au y->w.cell? ⟨g,o+i,ak⟩=au y
theorem DL.below {w': aI} {g: Nat} {A: Ra} (h:DL w g o x A) (hb:Below w.heap.size w w'):DL w' g o x A:=fun i y hy=>(hb.cell (bG _ _ (h i y hy))).trans (h i y hy)
theorem au1 (a b:Int) (p1 p2:Nat) (q:Ml) (A:Ra) (X:aI) (h1:X.cell? ⟨p1,0,ak⟩=au (ah aA a)) (h2:X.cell? ⟨p2,0,ak⟩=au (ah aA b)) :
  ba3 aZ8 158 #[aP #[ah aA q.fr,ah aA q.to,ah aA q.row.ver,aj A.ta q.row.txt.length A.tc,aj A.ga q.row.got.length A.gc,aj A.sa q.row.dQ.length A.sc,aF q.row.wed,aF q.row.dV,ah aA q.row.dW,aj A.ma q.row.dU.length A.mc],aO (au ⟨p1,0,ak⟩),aO (au ⟨p2,0,ak⟩)] X fun e w'=>e=aK (aF (decide (q.fr=a/\q.to=b)))/\Below X.heap.size X w':=by
 have hb:=dX X (aH #[ah aA q.fr,ah aA q.to,ah aA q.row.ver,aj A.ta q.row.txt.length A.tc,aj A.ga q.row.got.length A.gc,aj A.sa q.row.dQ.length A.sc,aF q.row.wed,aF q.row.dV,ah aA q.row.dW,aj A.ma q.row.dU.length A.mc] 68);have hx:=Bx.new X 68 #[ah aA q.fr,ah aA q.to,ah aA q.row.ver,aj A.ta q.row.txt.length A.tc,aj A.ga q.row.got.length A.gc,aj A.sa q.row.dQ.length A.sc,aF q.row.wed,aF q.row.dV,ah aA q.row.dW,aj A.ma q.row.dU.length A.mc];obtain⟨⟨y0,y1,y2,y3,y4⟩,y5,y6,y7,y8,y9⟩:=Bx.AZ hx;have k1:=fM hb h1;have k2:=fM hb h2;have HB:=dP hb;clear h1 h2 hx hb;by_cases e1:q.fr=a
 ·have g1:(q.fr==a)=aB:=by simpa using e1
  by_cases e2:q.to=b
  ·have g2:(q.to==b)=aB:=by simpa using e2
   have HR:aG (decide (q.fr=a/\q.to=b)=aB):=decide_eq_true ⟨e1,e2⟩;clear e1 e2;go_enter Tryz.func158,Tryz.ntmps158
   go_wp2;go_ret
   exact⟨dZ (by rw[HR.out]),HB.out⟩
  ·have g2:(q.to==b)=aC:=by simpa using e2
   have HR:aG (decide (q.fr=a/\q.to=b)=aC):=decide_eq_false (fun h=>e2 h.2)
   clear e1 e2;go_enter Tryz.func158,Tryz.ntmps158
   go_wp2;go_ret
   exact⟨dZ (by rw[HR.out]),HB.out⟩
 ·have g1:(q.fr==a)=aC:=by simpa using e1
  have HR:aG (decide (q.fr=a/\q.to=b)=aC):=decide_eq_false (fun h=>e1 h.1)
  clear e1;go_enter Tryz.func158,Tryz.ntmps158
  go_wp2;go_ret
  exact⟨dZ (by rw[HR.out]),HB.out⟩
def FM (g:Gr) (x:Ac):Int:=match g.dS.findIdx? (rC x) with|some i=>(i:Int)|none=>-1
theorem au2 (p1 p2:Nat) (la:Option ba5) (c:Nat) (g:Gr) (x:Ac) (w:aI) (h1:w.cell? ⟨p1,0,ak⟩=au (ah aA x.a)) (h2:w.cell? ⟨p2,0,ak⟩=au (ah aA x.b)) (hm:g.dS.length<=1000000)
  (hc:0<g.dS.length->∃ lb lo,la=au ⟨lb,lo,ak⟩/\∀ k,k<g.dS.length->∃ A,DL w lb (lo+k*10) (eX g k) A) :
  ba3 aZ8 157 #[aj la g.dS.length c,.func (.func 158) #[] #[aO (au ⟨p1,0,ak⟩),aO (au ⟨p2,0,ak⟩)]] w fun e w'=>e=aK (ah aA (FM g x))/\Below w.heap.size w w':=by
 have hE:∀ (args:Array aJ) (w:aI),(callFunc 158 args).run aZ8 w=.ok (.enter 158 args) w:=fun _ _=>enters_of Tryz.func158 (by kernel_rfl) rfl _ _
 have HC:aG (∀ k,k<g.dS.length->∃ lb lo,la=au ⟨lb,lo,ak⟩/\∃ A,DL w lb (lo+k*10) (eX g k) A):=fun k hk=>by
  obtain⟨lb,lo,e,h⟩:=hc (by omega)
  exact⟨lb,lo,e,h k hk⟩
 have HP:aG (w.cell? ⟨p1,0,ak⟩=au (ah aA x.a)/\w.cell? ⟨p2,0,ak⟩=au (ah aA x.b)):=⟨h1,h2⟩;clear hc h1 h2;go_enter Tryz.func157,Tryz.ntmps157
 go_wp2
 go_loopw [8] (fun i wr=>∃ k:Nat,k<=g.dS.length/\i=ah aA (k:Int)/\(∀ j,j<k->rC x (eX g j)=aC)/\Below w.heap.size w wr) (fun i _=>g.dS.length-(ba4 i).toNat)
 case atStart=>exact⟨0,aZ1 _,rfl,fun j hj=>by omega,aZ5 _ _⟩
 case round =>
  obtain⟨k,hk,rfl,hall,hgr⟩:=hrel;have HA:=dP hall;have HG:=dP hgr;clear hall;by_cases hlt:k<g.dS.length
  ·obtain⟨lb,lo,rfl,A,hA⟩:=HC.out k hlt
   have hA':=hA.below hgr
   have HX:aG (FM g x=if rC x (eX g k)=aB then (k:Int) else FM g x):=by
    by_cases e:rC x (eX g k)=aB
    ·rw[aG,if_pos e,FM,Jz hlt HA.out e]
    ·rw[aG,if_neg e]
   have HK:aG (rC x (eX g k)=aC->∀ j,j<k+1->rC x (eX g j)=aC):=fun h j hj=>by
    by_cases e:j=k
    ·subst e;exact h
    ·exact HA.out j (by omega)
   have t1:=fM hgr HP.out.1;have t2:=fM hgr HP.out.2;have hFk:=au1 x.a x.b p1 p2 (eX g k) A wr t1 t2;have c0:=hA' 0 _ rfl;have c1:=hA' 1 _ rfl;have c2:=hA' 2 _ rfl;have c3:=hA' 3 _ rfl;have c4:=hA' 4 _ rfl;have c5:=hA' 5 _ rfl;have c6:=hA' 6 _ rfl;have c7:=hA' 7 _ rfl;have c8:=hA' 8 _ rfl;have c9:=hA' 9 _ rfl;simp only[aY5] at c0;have HM:aG (decide ((eX g k).fr=x.a/\(eX g k).to=x.b)=rC x (eX g k)):=rfl;have k1:(k:Int)<g.dS.length:=by omega
   have k0:(0:Int)<=k:=by omega
   clear hgr hA hA' t1 t2;rw[HM.out] at hFk;go_wp2_with fail
   refine hFk.mono ?_;rintro e w1 ⟨rfl,hg1⟩;have mP:=dP (eP HG.out hg1);clear hg1 c0 c1 c2 c3 c4 c5 c6 c7 c8 c9
   cases hp:rC x (eX g k) with
   | true =>
    have HR:aG (FM g x=(k:Int)):=by rw[aG,HX.out,if_pos hp]
    clear hp;go_wp2;go_ret
    exact⟨by rw[HR.out];rfl,mP.out⟩
   | false =>
    have HR:=dP (HK.out hp);clear hp;go_wp2;go_roundw
    case rel=>exact⟨k+1,by omega,by go_num,HR.out,mP.out⟩
    case measure=>simp[ba4];omega
  ·have k1:¬ ((k:Int)<g.dS.length):=by omega
   have HR:aG (FM g x=-1):=by rw[aG,FM,MH (fun j hj=>HA.out j (by omega))]
   clear hgr;go_wp2;go_ret
   exact⟨by rw[HR.out];rfl,HG.out⟩
def DN (g:Gr) (x:Ac):Gr×Bool:=match g.dS.findIdx? (rC x) with|some i=>(jl g i,aB)|none=>(g,aC)
theorem au3 (ok : OkG g n) : OkG { g with dS := g.dS.take i ++ g.dS.drop (i + 1) } n := ⟨ok.n5,ok.ml,ok.ul,by have := ok.pF;simp only [dB,aU5,aU8];omega,ok.mem,fun x hx => ok.jZ x (by
 rcases List.mem_append.1 hx with h|h
 ·exact bZ h
 ·exact bY h)⟩
theorem MX:jl g i=o8 { g with dS:=g.dS.take i++g.dS.drop (i+1) } (eX g i):=rfl
theorem Qv {la: Option ba5} {lc: Nat} {f: Fp} (how:eF.ow w (iF 10 jU g.dS) (aj la g.dS.length lc) f) (h0:0<g.dS.length):∃ lb lo,la=au ⟨lb,lo,ak⟩/\∀ k,k<g.dS.length->∃ A,DL w lb (lo+k*10) (eX g k) A:=by
 have H:∀ k,k<g.dS.length->∃ lb lo,la=au ⟨lb,lo,ak⟩/\∃ A,DL w lb (lo+k*10) (eX g k) A:=fun k hk=>by
  obtain⟨lb,lo,lc',u1,u2,u3,f1,f2,f3,e,_,_,_,_,_,_,l1,l2,l3,_,_,_,k1,k2,k3⟩:=Kt ng how (lI hk)
  cases e
  obtain⟨A,rfl,_⟩:=Gg l2;exact⟨lb,lo,rfl,A,k2⟩
 obtain⟨lb,lo,e,_⟩:=H 0 h0;refine⟨lb,lo,e,fun k hk=>?_⟩
 obtain⟨lb',lo',e',h⟩:=H k hk;rw[e] at e'
 cases e'
 exact h
theorem au4 (B:Nat) (g:Gr) (n a b:Nat) (x:Ac) (ea:x.a=(a:Int)) (eb:x.b=(b:Int)) (fp:Fp) (w:aI) (h:iO w B 0 (fK g) fp) (ok:OkG g n) (ha:a<n) (hb:b<n) :
  ba3 aZ8 125 #[aO (au ⟨B,0,ak⟩),ah aA (a:Int),ah aA (b:Int)] w fun e w'=>e=aK (aF (DN g x).2)/\fH w w' B 0 (fK (DN g x).1) fp:=by
 have hmf:∀ (fn:Fn) (first cap:Array aJ) (w:aI),(Instr.makeFunc fn first cap).run aZ8 w=.ok (.func fn first cap) w:=fun _ _ _ _=>rfl
 have Dx:=ok.pF;obtain⟨bb,off,c,G0⟩:=Gw.start h (by rw[ok.ml];have:=ok.n5;omega)
 obtain⟨u,f,f0,hu,hfz,how,hfB,hBl,hfl,hmem,hap,hput⟩:=G0.full;have how':=how;obtain⟨la,lc,_,_,_,rfl,_⟩:=how';simp only[aY7] at hu;have hB1:=dX w (aH #[ah aA (a:Int)] 2);have hB2:=hB1.trans ((dX (w.alloc (aH #[ah aA (a:Int)] 2)) (aH #[ah aA (b:Int)] 2)).mono hB1.size);have hx1:=(Bx.new w 2 #[ah aA (a:Int)]).alloc (aH #[ah aA (b:Int)] 2)
 have hx2:Bx ((w.alloc (aH #[ah aA (a:Int)] 2)).alloc (aH #[ah aA (b:Int)] 2)) (w.heap.size+1) 2 #[ah aA (b:Int)]:=by
  have:=Bx.new (w.alloc (aH #[ah aA (a:Int)] 2)) 2 #[ah aA (b:Int)];try simp only[aU1] at this
  exact this
 have t1:=hx1.at 0 rfl;have t2:=hx2.at 0 rfl
 have hIx := au2 w.heap.size (w.heap.size + 1) la lc g x ((w.alloc (aH #[ah aA (a : Int)] 2)).alloc (aH #[ah aA (b : Int)] 2)) (by rw [ea];exact t1) (by rw [eb];exact t2) (by omega) (fun h0 => by
  obtain⟨lb,lo,e,hA⟩:=Qv how h0
  exact ⟨lb,lo,e,fun k hk => by
   obtain⟨A,hA⟩:=hA k hk;exact⟨A,hA.below hB2⟩⟩)
 have HB2:=dP hB2;have hu2:=fM hB2 hu;have oN:=dP G0;have iE:=dP ok;have Ah:=dP hput;have HU:=dP hu;have qp:=dP how;have HF:aG (¬ f B/\B<w.heap.size/\∀ b,f b->b<w.heap.size):=⟨hfB,hBl,hfl⟩;clear hput how hfl hap hmem h hfB hBl G0 ok hB1 hB2 hx1 hx2 t1 t2 hu hfz
 cases hfi:g.dS.findIdx? (rC x) with
 | none =>
  have HX:aG (FM g x=-1):=by rw[aG,FM,hfi]
  have HZ:aG (DN g x=(g,aC)):=by rw[aG,DN,hfi]
  rw[HX.out] at hIx;clear hfi;go_enter Tryz.func125,Tryz.ntmps125
  go_wp2_with fail
  refine hIx.mono ?_;rintro e w1 ⟨rfl,hg1⟩;have mP:=dP (oN.out.step (eP HB2.out hg1));clear hg1 hu2;go_wp2;go_ret
  exact⟨dZ (by rw[HZ.out]),by rw[HZ.out];exact mP.out.iw⟩
 | some i =>
  have HX:aG (FM g x=(i:Int)):=by rw[aG,FM,hfi]
  rw[HX.out] at hIx;obtain⟨hil,hpi,_⟩:=List.findIdx?_eq_some_iff_getElem.1 hfi;have Qg:rC x (eX g i)=aB:=by simpa[eX,List.getD,hil] using hpi
  obtain⟨lb,lo,rfl,_⟩:=Qv qp.out (by omega)
  obtain⟨us,u2,u3,f2,hfb,hlc,hlm,hs2,l2,k2,k3,hl3,ho3,hO,hD⟩:=at7 qp.out (lI hil) (Z:=MW) rfl;obtain⟨A,rfl,LV⟩:=Gg l2;obtain⟨_,_,m1,m2,_,_,_,R⟩:=iE.out.jZ _ (List.mem_of_getElem? (lI hil));clear m1 m2;have HZ:aG (DN g x=(o8 { g with dS:=g.dS.take i++g.dS.drop (i+1) } (eX g i),aB)):=by rw[aG,DN,hfi,<- MX]
  clear hfi hpi;generalize eX g i=y at *;obtain⟨fr,tt,r⟩:=y;simp only[rC,decide_eq_true_eq] at Qg;obtain⟨e1,e2⟩:=Qg;rw[ea] at e1;rw[eb] at e2;subst e1 e2;have HK2:=dP k2;have HK3:=dP k3;have HO:aG (jk w 10 lb lo g.dS.length lc us/\u3.length=(g.dS.length-(i+1))*10/\(∀ v∈u3,v.oneCell'=aB)/\g.dS.length<=lc/\lc<=ba2/\f lb):=⟨hO,hl3,ho3,hlc,hlm,hfb⟩;have HD:=dP hD;have HL2:aG (gq w (jL r) (jw A r) f2/\∀ b,f2 b->f b/\b≠lb):=⟨LV,hs2⟩;have HR:=dP R;have i0:(0:Int)<=i:=by omega
  have i1:(i:Int)<g.dS.length:=by omega
  have i2:¬ ((i:Int)<0):=by omega
  have hwi:IntKind.i64.wrap ((i:Int)+1)=(i:Int)+1:=wrap_one (by omega)
  clear k2 k3 hO hl3 ho3 hlc hlm hfb hD l2 LV hs2 R;go_enter Tryz.func125,Tryz.ntmps125
  go_wp2_with fail
  refine hIx.mono ?_;rintro e w1 ⟨rfl,hg1⟩;have HB:=dP (eP HB2.out hg1);have c0:=fM HB.out HU.out;have hA:=DL.below (w:=w) HK2.out HB.out;have x0:=hA 0 _ rfl;have x1:=hA 1 _ rfl;have x2:=hA 2 _ rfl;have x3:=hA 3 _ rfl;have x4:=hA 4 _ rfl;have x5:=hA 5 _ rfl;have x6:=hA 6 _ rfl;have x7:=hA 7 _ rfl;have x8:=hA 8 _ rfl;have x9:=hA 9 _ rfl;simp only[aY5] at x0;have hb3:=dX w1 (aH #[ah aA (a:Int),ah aA (b:Int),ah aA r.ver,aj A.ta r.txt.length A.tc,aj A.ga r.got.length A.gc,aj A.sa r.dQ.length A.sc,aF r.wed,aF r.dV,ah aA r.dW,aj A.ma r.dU.length A.mc] 68);have hB3:=eP HB.out hb3;have Aa:=dP (Bx.new w1 68 #[ah aA (a:Int),ah aA (b:Int),ah aA r.ver,aj A.ta r.txt.length A.tc,aj A.ga r.got.length A.gc,aj A.sa r.dQ.length A.sc,aF r.wed,aF r.dV,ah aA r.dW,aj A.ma r.dU.length A.mc]);have c3:=fM hB3 HU.out;have hDl:=au0 g.dS.length lb lo lc i us u3 (w1.alloc (aH #[ah aA (a:Int),ah aA (b:Int),ah aA r.ver,aj A.ta r.txt.length A.tc,aj A.ga r.got.length A.gc,aj A.sa r.dQ.length A.sc,aF r.wed,aF r.dV,ah aA r.dW,aj A.ma r.dU.length A.mc] 68)) hil HO.out.2.2.2.1 HO.out.2.2.2.2.1 (fun j y hy=>(hB3.cell (bG _ _ (HK3.out j y hy))).trans (HK3.out j y hy)) HO.out.2.1 HO.out.2.2.1 (HO.out.1.below hB3 HO.out.1.blk) (by omega)
  have HB3:=dP hB3;clear hu2 hA hB3 hb3 hg1 hIx;go_wp2_with fail
  refine hDl.mono ?_;clear hDl c0 c3 x0 x1 x2 x3 x4 x5 x6 x7 x8 x9;generalize w1.alloc (aH #[ah aA (a:Int),ah aA (b:Int),ah aA r.ver,aj A.ta r.txt.length A.tc,aj A.ga r.got.length A.gc,aj A.sa r.dQ.length A.sc,aF r.wed,aF r.dV,ah aA r.dW,aj A.ma r.dU.length A.mc] 68)=W3 at *;rintro e w4 ⟨rfl,rfl⟩;have hdb:=HB3.out.trans ((Same.drewN W3 1).below.mono HB3.out.size);obtain⟨f',BQ,hf2⟩:=HD.out W3.drew hdb;have hw3:eU (fun b=>b=lb) W3.drew ((W3.drew.setCells lb (lo+i*10) u3).setCells lb (lo+(g.dS.length-1)*10) MW):=(eU.setCells lb _ _ _).trans (eU.setCells lb _ _ _) (fun _ _ h=>h)
  have Xc:aG (Bx ((W3.drew.setCells lb (lo+i*10) u3).setCells lb (lo+(g.dS.length-1)*10) MW) w1.heap.size 68 #[ah aA (a:Int),ah aA (b:Int),ah aA r.ver,aj A.ta r.txt.length A.tc,aj A.ga r.got.length A.gc,aj A.sa r.dQ.length A.sc,aF r.wed,aF r.dV,ah aA r.dW,aj A.ma r.dU.length A.mc]):=(Aa.out.below (Same.drewN W3 1).below).wrt hw3 (fun h=>by have:=HF.out.2.2 lb HO.out.2.2.2.2.2;have:=HB.out.size;omega)
  have l4:=gU (gy HL2.out.1 hdb) hw3 (fun b hb e=>(HL2.out.2 b hb).2 e)
  have hww:eU f w ((W3.drew.setCells lb (lo+i*10) u3).setCells lb (lo+(g.dS.length-1)*10) MW):=(eU.of_below (f:=f) hdb).trans hw3 (fun b _ h=>h ▸ HO.out.2.2.2.2.2)
  generalize ((W3.drew.setCells lb (lo+i*10) u3).setCells lb (lo+(g.dS.length-1)*10) MW)=W4 at *;obtain⟨q1,q2,hG⟩:=Ah.out W4 _ _ f' hww BQ (fun b hb=>.inl (hf2 b hb).1)
  simp only[aY7] at q1 q2 hG;have Fb:=Xc.out.far (g:=B) (i:=2) (by have:=HF.out.2.1;have:=HB.out.size;omega) (aj (au ⟨lb,lo,ak⟩) (g.dS.length-1) lc)
  have hRp:qo (W4.setCell ⟨B,2,ak⟩ (aj (au ⟨lb,lo,ak⟩) (g.dS.length-1) lc)) A r:=by
   have o2:=gU l4 (eU.set W4 B 2 (aj (au ⟨lb,lo,ak⟩) (g.dS.length-1) lc)) (fun b hb e=>HF.out.1 (e ▸ (HL2.out.2 b hb).1))
   have r64:=KJ HR.out;exact zV (uV o2 (lo:=0) (fun b _=>aZ1 b)) HR.out.fit r64.1 (by have:=r64.2;omega)
  obtain⟨gI,hp,_,hgo⟩:=hG.iw.next;have Yn:=TL B { g with dS:=g.dS.take i++g.dS.drop (i+1) } n a b r A gI _ hp (au3 iE.out) hb ha hRp
  have BI:=dP hgo;obtain⟨⟨y0,y1,y2,y3,y4⟩,y5,y6,y7,y8,y9⟩:=Bx.AZ Fb;clear hgo hp hG hRp Fb l4 hww hw3 BQ hf2 hdb;go_wp2_with fail
  refine Yn.mono ?_;rintro e w6 ⟨rfl,hb6⟩;have uJ:aG (fH w w6 B 0 (fK (o8 { g with dS:=g.dS.take i++g.dS.drop (i+1) } ⟨(a:Int),(b:Int),r⟩)) fp):=BI.out _ _ rfl hb6
  clear hb6 Yn y0 y1 y2 y3 y4 y5 y6 y7 y8 y9 q1 q2;go_wp2;go_ret
  exact⟨dZ (by rw[HZ.out]),by rw[HZ.out];exact uJ.out⟩
theorem ae2 (ok:OkG g n) (hx:x.to=(b:Int)) (hb:b<n):OkG (o8 g x) n:=by
 unfold o8;rw[hx];simp only[dM]
 split
 ·exact ok.to hb (tJ (ok.mem b hb) x.fr x.row).1
 ·exact ok
theorem MZ (g:Gr) (L:List Ml) (x:Ml):o8 { g with dS:=L } x={ o8 g x with dS:=L }:=by
 unfold o8
 show (if nM g x.to.toNat=aB then _ else _)=_
 split<;>rfl
theorem JJ:∀ (L:List Ml) (g:Gr),g.dS=L->drain L.length g=L.foldl o8 { g with dS:=[] }
 | [],g,h=>by
  obtain⟨m,u,l⟩:=g;simp only at h
  subst h
  rfl
 | x::L,g,h=>by
  have h0:0<g.dS.length:=by rw[h];simp
  rw[aU6,MI _ h0,MX];have e1:eX g 0=x:=by rw[eX,h];rfl
  have e2:g.dS.take 0++g.dS.drop (0+1)=L:=by rw[h];rfl
  rw[e1,e2,MZ,JJ L _ rfl,List.foldl_cons,show o8 { g with dS:=[] } x={ o8 g x with dS:=[] } from MZ g [] x]
theorem Yo (h:fH w X B 0 (fK g) fp):∃ la lc f3 gI,X.cell? ⟨B,2,ak⟩=au (aj la g.dS.length lc)/\X.frozen? ⟨B,2,ak⟩=aC/\eF.ow (X.setCell ⟨B,2,ak⟩ (aj ak 0 0)) (iF 10 jU g.dS) (aj la g.dS.length lc) f3/\¬ f3 B /\
  iO (X.setCell ⟨B,2,ak⟩ (aj ak 0 0)) B 0 (fK { g with dS:=[] }) gI/\(∀ b,gI b->¬ f3 b)/\∀ w2 cs2,cs2.length=3->fH (X.setCell ⟨B,2,ak⟩ (aj ak 0 0)) w2 B 0 cs2 gI->fH w w2 B 0 cs2 fp:=by
 obtain⟨zu,hp,hs,hgo⟩:=h.next;obtain⟨vs,hpc,hov,hnB⟩:=hp;obtain⟨u1,vU,f1,g1,rfl,o1,h2,d1,i1⟩:=hov;obtain⟨u2,xu,f2,g2,rfl,o2,h3,d2,i2⟩:=h2;obtain⟨u3,EJ,f3,g3,rfl,o3,h4,d3,i3⟩:=h3;obtain⟨rfl,h5⟩:=h4;have o3':=o3;obtain⟨la,lc,_,_,_,rfl,_⟩:=o3';have c2:=hpc.cell 2 (by simp)
 have z2:=hpc.free 2 (by simp)
 have hW:=eU.set X B 2 (aj ak 0 0);have s1:∀ b,f1 b->zu b:=fun b hb=>(i1 b).2 (.inl hb)
 have s2:∀ b,f2 b->zu b:=fun b hb=>(i1 b).2 (.inr ((i2 b).2 (.inl hb)))
 have s3:∀ b,f3 b->zu b:=fun b hb=>(i1 b).2 (.inr ((i2 b).2 (.inr ((i3 b).2 (.inl hb)))))
 have n1:∀ b,f1 b->¬ b=B:=fun b hb e=>hnB (e ▸ s1 b hb)
 have n2:∀ b,f2 b->¬ b=B:=fun b hb e=>hnB (e ▸ s2 b hb)
 have n3:∀ b,f3 b->¬ b=B:=fun b hb e=>hnB (e ▸ s3 b hb)
 refine⟨la,lc,f3,fun b=>f1 b\/f2 b,by simpa using c2,by simpa using z2,eF.lC o3 hW n3,fun e=>n3 B e rfl,⟨[u1,u2,aj ak 0 0], ?_, ?_,fun e=>e.elim (fun e=>n1 B e rfl) (fun e=>n2 B e rfl)⟩, ?_,fun w2 cs2 hl k=>?_⟩
 ·refine⟨fun j hj=>?_,fun j hj=>?_, ?_⟩
  ·have hj:j<3:=hj
   have:j=0\/j=1\/j=2:=by omega
   rcases this with rfl|rfl|rfl
   ·exact (Gi (by omega) _).trans (hpc.cell 0 (by simp))
   ·exact (Gi (by omega) _).trans (hpc.cell 1 (by simp))
   ·exact World.cell?_setCell_same _ _ _ c2
  ·have hj:j<3:=hj
   rw[World.frozen?_setCell];exact hpc.free j hj
  ·rw[World.size_setCell]
   exact hpc.lt
 ·exact⟨u1,_,f1,f2,rfl,eF.lC o1 hW n1,⟨u2,_,f2,fun _=>False,rfl,eF.lC o2 hW n2,⟨_,_,fun _=>False,fun _=>False,rfl,xJ _ 10 jU,⟨rfl,fun _ h=>h⟩,fun _ h=>absurd h id,fun b=>by simp⟩,fun _ _ h=>h,fun b=>by simp⟩,fun b h h'=>d1 b h ((i2 b).2 (.inl h')),fun b=>Iff.rfl⟩
 ·rintro b (hb|hb) h
  ·exact d1 b hb ((i2 b).2 (.inr ((i3 b).2 (.inl h))))
  ·exact d2 b hb ((i3 b).2 (.inl h))
 ·obtain⟨⟨fp2,k1,k2⟩,k3,k4,k5⟩:=k
  have hz:(X.setCell ⟨B,2,ak⟩ (aj ak 0 0)).heap.size=X.heap.size:=World.size_setCell _ _ _;refine hgo w2 cs2 hl ⟨⟨fp2,k1,fun b hb=>(k2 b hb).imp (fun h=>h.elim (s1 b) (s2 b)) (fun h=>by rw[hz] at h;exact h)⟩,fun j hj=>(k3 j hj).trans (Gi (by omega) _),fun j=>(k4 j).trans (World.frozen?_setCell _ _ _ _), ?_⟩
  exact (hW.mono (g:=fun b=>zu b\/b=B) (fun b _ e=>.inr e)).trans k5 (fun b _ h=>h.elim (fun h=>.inl (h.elim (s1 b) (s2 b))) .inr)
section
def nT (x:Ac):aJ:=if x.kind=1 then .iface 153 (aP #[ah aA x.a,aN (sv x.txt)]) else if x.kind=2 then .iface 155 (aP #[ah aA x.a,ah aA x.b]) else if x.kind=3 then .iface 156 (aP #[ah aA x.a,ah aA x.b]) else if x.kind=4 then .iface 158 (aP #[ah aA x.a]) else if x.kind=5 then .iface 159 (aP #[ah aA x.a,ah aA x.b]) else if x.kind=6 then .iface 160 (aP #[ah aA x.a]) else if x.kind=7 then .iface 161 (aP #[ah aA x.a]) else .nilIface
def uX (x:Ac):List Int:=if x.kind=2\/x.kind=3\/x.kind=5 then [x.a,x.b] else [x.a]
def xC (x:Ac):Bool:=decide (1<=x.kind/\x.kind<=7)
theorem ae3 (a t : Value) (w : World) : (Go.method 326 153 (.agg #[a, t]) "loop.example/g00266/impl.ones").run Tryz.prog w = .ok (217, .agg #[a]) w := by kernel_rfl
theorem ae4 (a b : Value) (w : World) : (Go.method 326 155 (.agg #[a, b]) "loop.example/g00266/impl.ones").run Tryz.prog w = .ok (218, .agg #[a, b]) w := by kernel_rfl
theorem ae5 (a b : Value) (w : World) : (Go.method 326 156 (.agg #[a, b]) "loop.example/g00266/impl.ones").run Tryz.prog w = .ok (218, .agg #[a, b]) w := by kernel_rfl
theorem ae6 (a : Value) (w : World) : (Go.method 326 158 (.agg #[a]) "loop.example/g00266/impl.ones").run Tryz.prog w = .ok (217, .agg #[a]) w := by kernel_rfl
theorem ae7 (a b : Value) (w : World) : (Go.method 326 159 (.agg #[a, b]) "loop.example/g00266/impl.ones").run Tryz.prog w = .ok (218, .agg #[a, b]) w := by kernel_rfl
theorem ae8 (a : Value) (w : World) : (Go.method 326 160 (.agg #[a]) "loop.example/g00266/impl.ones").run Tryz.prog w = .ok (217, .agg #[a]) w := by kernel_rfl
theorem ae9 (a : Value) (w : World) : (Go.method 326 161 (.agg #[a]) "loop.example/g00266/impl.ones").run Tryz.prog w = .ok (217, .agg #[a]) w := by kernel_rfl
theorem TM (W:aI) (o:Obj):Below W.heap.size W (W.alloc o).drew:=fO (n:=1) (dX W o)
theorem zO (W:aI) (o o':Obj):Below W.heap.size W ((W.alloc o).alloc o').drew:=fO (n:=1) ((dX W o).trans ((dX _ o').mono (dX W o).size))
theorem FN (W:aI) (o:Obj) (T:TypeId) (cs:Array aJ):Bx ((W.alloc o).alloc (aH cs T)) (W.heap.size+1) T cs:=by
 have:=Bx.new (W.alloc o) T cs;simpa only[aU1] using this
attribute [local irreducible] sv
theorem au5 (x:Ac) (w:aI) :
  ba3 aZ8 81 #[aP #[ah aA x.kind,ah aA x.a,ah aA x.b,aN (sv x.txt)]] w fun e w'=>e=aK (nT x)/\Below w.heap.size w w':=by
 have fU:=iq;obtain⟨kd,xa,xb,tx⟩:=x;simp only
 have hb:=dX w (aH #[ah aA kd,ah aA xa,ah aA xb,aN (sv tx)] 38);have hx:=Bx.new w 38 #[ah aA kd,ah aA xa,ah aA xb,aN (sv tx)];obtain⟨y0,y1,y2,y3⟩:=Bx.a4 hx;have HB:=dP hb;have HX:=dP hx;clear hb hx;go_enter Tryz.func81,Tryz.ntmps81
 go_upto_region 1 with fail
 generalize w.alloc (aH #[ah aA kd,ah aA xa,ah aA xb,aN (sv tx)] 38)=W at *;have hbd:=(Same.drewN W 1).below
 have KS:∀ X,Below W.heap.size W X->X.cell? ⟨w.heap.size,1,ak⟩=au (ah aA xa)/\X.cell? ⟨w.heap.size,2,ak⟩=au (ah aA xb):=fun X hX=>by
  obtain⟨y0,y1,y2,y3⟩:=Bx.a4 (HX.out.below hX);exact⟨y1,y2⟩
 clear y0 y1 y2 y3
 go_cut [3,4] from 5 to 13 (fun s t wx=>∃ p q:Nat,s=aO (au ⟨p,0,ak⟩)/\t=aO (au ⟨q,0,ak⟩)/\Bx wx p 149 #[ah aA xa]/\Bx wx q 151 #[ah aA xa,ah aA xb]/\Below W.heap.size W wx)
 case first =>
  refine lG (S:=fun X:aI=>X.cell? ⟨w.heap.size,1,ak⟩=au (ah aA xa)/\X.cell? ⟨w.heap.size,2,ak⟩=au (ah aA xb)) 11 fU ((KS _ hbd)) fun hHeld=>?_
  refine fE (i:=0) rfl ?_;refine fC (i:=1) rfl hHeld ?_;refine fE (i:=2) rfl ?_;refine fE (i:=3) rfl ?_;refine fC (i:=4) rfl hHeld ?_;refine fE (i:=5) rfl ?_;refine fC (i:=6) rfl hHeld ?_;refine fE (i:=7) rfl ?_;refine aA5 (i:=8) (j:=9) rfl rfl (by kernel_rfl) (by kernel_rfl) (fun K hK=>?_) (fun K hK=>?_)
  ·go_simp
   refine hK.out _ _ (KS _ (TM W (aH #[ah aA 0] 149))) (fun eG=>?_)
   clear hK hHeld;have hHeld:=eG;try simp only[gW]
   refine iy (i:=9) rfl fun K hK=>?_
   go_simp;refine hK.out _ _ (KS _ (zO W (aH #[ah aA 0] 149) (aH #[ah aA 0,ah aA 0] 151))) (fun eG=>?_)
   clear hK hHeld;have hHeld:=eG;try simp only[gW]
   refine iy (i:=10) rfl fun K hK=>?_
   go_simp;refine hK.out _ _ (KS _ (zO W (aH #[ah aA xa] 149) (aH #[ah aA 0,ah aA 0] 151))) (fun eG=>?_)
   clear hK hHeld;have hHeld:=eG;try simp only[gW]
   refine oH rfl fun K hK=>?_
   go_simp;refine hK.out _ _ ?_;try go_wp2_with fail
   go_meet
   case rel=>exact⟨W.heap.size,W.heap.size+1,rfl,rfl,((Bx.new W 149 #[ah aA xa]).alloc (aH #[ah aA xa,ah aA xb] 151)),(FN W (aH #[ah aA xa] 149) 151 #[ah aA xa,ah aA xb]),zO W (aH #[ah aA xa] 149) (aH #[ah aA xa,ah aA xb] 151)⟩
  ·go_simp
   refine hK.out _ _ (KS _ (TM W (aH #[ah aA 0,ah aA 0] 151))) (fun eG=>?_)
   clear hK hHeld;have hHeld:=eG;try simp only[gW]
   refine iy (i:=8) rfl fun K hK=>?_
   go_simp;refine hK.out _ _ (KS _ (zO W (aH #[ah aA 0,ah aA 0] 151) (aH #[ah aA 0] 149))) (fun eG=>?_)
   clear hK hHeld;have hHeld:=eG;try simp only[gW]
   refine iy (i:=10) rfl fun K hK=>?_
   go_simp;refine hK.out _ _ (KS _ (zO W (aH #[ah aA 0,ah aA 0] 151) (aH #[ah aA xa] 149))) (fun eG=>?_)
   clear hK hHeld;have hHeld:=eG;try simp only[gW]
   refine oH rfl fun K hK=>?_
   go_simp;refine hK.out _ _ ?_;try go_wp2_with fail
   go_meet
   case rel=>exact⟨W.heap.size+1,W.heap.size,rfl,rfl,(FN W (aH #[ah aA xa,ah aA xb] 151) 149 #[ah aA xa]),((Bx.new W 151 #[ah aA xa,ah aA xb]).alloc (aH #[ah aA xa] 149)),zO W (aH #[ah aA xa,ah aA xb] 151) (aH #[ah aA xa] 149)⟩
 case rest =>
 obtain⟨p,q,rfl,rfl,hP,hQ,hbw⟩:=hcut;have HW:=dP (eP HB.out hbw);obtain⟨y0,y1,y2,y3⟩:=Bx.a4 (HX.out.below hbw);have p0:=hP.at 0 rfl;obtain⟨q0,q1⟩:=Bx.r2 hQ;clear hP hQ hbw KS hbd;by_cases e1:kd=1
 ·have HZ:aG (nT ⟨kd,xa,xb,tx⟩=.iface 153 (aP #[ah aA xa,aN (sv tx)])):=by rw[aG,e1];rfl
  have g1:(kd==1)=aB:=by simpa using e1
  clear e1;go_wp2;go_ret
  exact⟨by rw[HZ.out];rfl,HW.out⟩
 have g1:(kd==1)=aC:=by simpa using e1
 by_cases e2:kd=2
 ·have HZ:aG (nT ⟨kd,xa,xb,tx⟩=.iface 155 (aP #[ah aA xa,ah aA xb])):=by rw[aG,e2];rfl
  have g2:(kd==2)=aB:=by simpa using e2
  clear e2;go_wp2;go_ret
  exact⟨by rw[HZ.out];rfl,HW.out⟩
 have g2:(kd==2)=aC:=by simpa using e2
 by_cases e3:kd=3
 ·have HZ:aG (nT ⟨kd,xa,xb,tx⟩=.iface 156 (aP #[ah aA xa,ah aA xb])):=by rw[aG,e3];rfl
  have g3:(kd==3)=aB:=by simpa using e3
  clear e3;go_wp2;go_ret
  exact⟨by rw[HZ.out];rfl,HW.out⟩
 have g3:(kd==3)=aC:=by simpa using e3
 by_cases e4:kd=4
 ·have HZ:aG (nT ⟨kd,xa,xb,tx⟩=.iface 158 (aP #[ah aA xa])):=by rw[aG,e4];rfl
  have g4:(kd==4)=aB:=by simpa using e4
  clear e4;go_wp2;go_ret
  exact⟨by rw[HZ.out];rfl,HW.out⟩
 have g4:(kd==4)=aC:=by simpa using e4
 by_cases e5:kd=5
 ·have HZ:aG (nT ⟨kd,xa,xb,tx⟩=.iface 159 (aP #[ah aA xa,ah aA xb])):=by rw[aG,e5];rfl
  have g5:(kd==5)=aB:=by simpa using e5
  clear e5;go_wp2;go_ret
  exact⟨by rw[HZ.out];rfl,HW.out⟩
 have g5:(kd==5)=aC:=by simpa using e5
 by_cases e6:kd=6
 ·have HZ:aG (nT ⟨kd,xa,xb,tx⟩=.iface 160 (aP #[ah aA xa])):=by rw[aG,e6];rfl
  have g6:(kd==6)=aB:=by simpa using e6
  clear e6;go_wp2;go_ret
  exact⟨by rw[HZ.out];rfl,HW.out⟩
 have g6:(kd==6)=aC:=by simpa using e6
 by_cases e7:kd=7
 ·have HZ:aG (nT ⟨kd,xa,xb,tx⟩=.iface 161 (aP #[ah aA xa])):=by rw[aG,e7];rfl
  have g7:(kd==7)=aB:=by simpa using e7
  clear e7;go_wp2;go_ret
  exact⟨by rw[HZ.out];rfl,HW.out⟩
 have g7:(kd==7)=aC:=by simpa using e7
 have HZ:aG (nT ⟨kd,xa,xb,tx⟩=.nilIface):=by rw[aG,nT];simp only[e1,e2,e3,e4,e5,e6,e7,if_false]
 clear e1 e2 e3 e4 e5 e6 e7;go_wp2;go_ret
 exact⟨by rw[HZ.out];rfl,HW.out⟩
end
section
theorem af0 (v:aJ) (w:aI):(aU4 (.iface 153 v) 77 156 aB).run aZ8 w=.ok (.tuple #[aP #[ah aA 0,ah aA 0],aF aC]) w:=by kernel_rfl
theorem af2 (v:aJ) (w:aI):(aU4 (.iface 155 v) 77 156 aB).run aZ8 w=.ok (.tuple #[aP #[ah aA 0,ah aA 0],aF aC]) w:=by kernel_rfl
theorem af4 (v:aJ) (w:aI):(aU4 (.iface 156 v) 77 156 aB).run aZ8 w=.ok (.tuple #[v,aF aB]) w:=by kernel_rfl
theorem af5 (v:aJ) (w:aI):(aU4 (.iface 158 v) 77 156 aB).run aZ8 w=.ok (.tuple #[aP #[ah aA 0,ah aA 0],aF aC]) w:=by kernel_rfl
theorem af6 (v:aJ) (w:aI):(aU4 (.iface 159 v) 77 156 aB).run aZ8 w=.ok (.tuple #[aP #[ah aA 0,ah aA 0],aF aC]) w:=by kernel_rfl
theorem af7 (v:aJ) (w:aI):(aU4 (.iface 160 v) 77 156 aB).run aZ8 w=.ok (.tuple #[aP #[ah aA 0,ah aA 0],aF aC]) w:=by kernel_rfl
theorem af8 (v:aJ) (w:aI):(aU4 (.iface 161 v) 77 156 aB).run aZ8 w=.ok (.tuple #[aP #[ah aA 0,ah aA 0],aF aC]) w:=by kernel_rfl
theorem au6 {x: Int} (h:w.cell? ⟨b,0,ak⟩=au (ah aA x)) (hx:jo x):Vec w (au ⟨b,0,ak⟩) 1 [x] :=
 ⟨rfl,fun y hy => by rw [List.mem_singleton.1 hy];exact hx,.inr ⟨b,0,rfl,fun k hk => by
  have:k=0:=by omega
  subst this;exact h⟩⟩
theorem au7 {x y: Int} (h:w.cell? ⟨b,0,ak⟩=au (ah aA x)) (h':w.cell? ⟨b,1,ak⟩=au (ah aA y)) (hx:jo x) (hy:jo y):Vec w (au ⟨b,0,ak⟩) 2 [x,y] :=
 ⟨rfl,fun z hz => by
  simp only[aX5,List.not_mem_nil,or_false] at hz;rcases hz with rfl|rfl
  ·exact hx
  ·exact hy,.inr ⟨b,0,rfl,fun k hk => by
  have:k=0\/k=1:=by omega
  rcases this with rfl|rfl
  ·exact h
  ·exact h'⟩⟩
theorem BJ (x:Int) (hx:jo x) (w:aI):ba3 aZ8 217 #[aP #[ah aA x]] w fun e w'=>∃ b,e=aK (aj (au ⟨b,0,ak⟩) 1 1)/\Vec w' (au ⟨b,0,ak⟩) 1 [x]/\Below w.heap.size w w':=by
 have H:=dP hx;clear hx;go_enter Tryz.func217,Tryz.ntmps217
 go_wp2;go_ret
 exact⟨w.heap.size+1,rfl,au6 ((FN w _ 2 #[ah aA x]).at 0 rfl) H.out,(dX w _).trans ((dX _ _).mono (dX w _).size)⟩
theorem FP (x y:Int) (hx:jo x) (hy:jo y) (w:aI):ba3 aZ8 218 #[aP #[ah aA x,ah aA y]] w fun e w'=>∃ b,e=aK (aj (au ⟨b,0,ak⟩) 2 2)/\Vec w' (au ⟨b,0,ak⟩) 2 [x,y]/\Below w.heap.size w w':=by
 have H:aG (jo x/\jo y):=⟨hx,hy⟩;clear hx hy;go_enter Tryz.func218,Tryz.ntmps218
 go_wp2;go_ret
 exact⟨w.heap.size+1,rfl,au7 ((FN w _ 2 #[ah aA x,ah aA y]).at 0 rfl) ((FN w _ 2 #[ah aA x,ah aA y]).at 1 rfl) H.out.1 H.out.2,(dX w _).trans ((dX _ _).mono (dX w _).size)⟩
attribute [local irreducible] sv
theorem Qw {x: Ac} (hk : xC x = true) (ha : jo x.a) (hb : jo x.b) : ∃ T v f r, ∃ z0 z1 : Int, nT x = .iface T v ∧ (∀ w : World, (Go.method 326 T v "loop.example/g00266/impl.ones").run Tryz.prog w = .ok (f, r) w) ∧ (∀ (args : Array Value) (w : World), (callFunc f args).run Tryz.prog w = .ok (.enter f args) w) ∧
  (∀ w:aI,(aU4 (.iface T v) 77 156 aB).run aZ8 w=.ok (.tuple #[aP #[ah aA z0,ah aA z1],aF (decide (x.kind=3))]) w) /\
  ∀ w,ba3 aZ8 f #[r] w fun e w'=>∃ b,e=aK (aj (au ⟨b,0,ak⟩) (uX x).length (uX x).length)/\Vec w' (au ⟨b,0,ak⟩) (uX x).length (uX x)/\Below w.heap.size w w':=by
 obtain⟨kd,xa,xb,tx⟩:=x;simp only at ha hb
 rw[xC,decide_eq_true_eq] at hk;simp only at hk
 by_cases e1:kd=1
 ·subst e1
  exact⟨153,(aP #[ah aA xa,aN (sv tx)]),217,(aP #[ah aA xa]),0,0,rfl,fun w=>ae3 _ _ w,fun _ _=>enters_of Tryz.func217 (by kernel_rfl) rfl _ _,fun w=>af0 _ w,fun X=>BJ xa ha X⟩
 by_cases e2:kd=2
 ·subst e2
  exact⟨155,(aP #[ah aA xa,ah aA xb]),218,(aP #[ah aA xa,ah aA xb]),0,0,rfl,fun w=>ae4 _ _ w,fun _ _=>enters_of Tryz.func218 (by kernel_rfl) rfl _ _,fun w=>af2 _ w,fun X=>FP xa xb ha hb X⟩
 by_cases e3:kd=3
 ·subst e3
  exact⟨156,(aP #[ah aA xa,ah aA xb]),218,(aP #[ah aA xa,ah aA xb]),xa,xb,rfl,fun w=>ae5 _ _ w,fun _ _=>enters_of Tryz.func218 (by kernel_rfl) rfl _ _,fun w=>af4 _ w,fun X=>FP xa xb ha hb X⟩
 by_cases e4:kd=4
 ·subst e4
  exact⟨158,(aP #[ah aA xa]),217,(aP #[ah aA xa]),0,0,rfl,fun w=>ae6 _ w,fun _ _=>enters_of Tryz.func217 (by kernel_rfl) rfl _ _,fun w=>af5 _ w,fun X=>BJ xa ha X⟩
 by_cases e5:kd=5
 ·subst e5
  exact⟨159,(aP #[ah aA xa,ah aA xb]),218,(aP #[ah aA xa,ah aA xb]),0,0,rfl,fun w=>ae7 _ _ w,fun _ _=>enters_of Tryz.func218 (by kernel_rfl) rfl _ _,fun w=>af6 _ w,fun X=>FP xa xb ha hb X⟩
 by_cases e6:kd=6
 ·subst e6
  exact⟨160,(aP #[ah aA xa]),217,(aP #[ah aA xa]),0,0,rfl,fun w=>ae8 _ w,fun _ _=>enters_of Tryz.func217 (by kernel_rfl) rfl _ _,fun w=>af7 _ w,fun X=>BJ xa ha X⟩
 by_cases e7:kd=7
 ·subst e7
  exact⟨161,(aP #[ah aA xa]),217,(aP #[ah aA xa]),0,0,rfl,fun w=>ae9 _ w,fun _ _=>enters_of Tryz.func217 (by kernel_rfl) rfl _ _,fun w=>af8 _ w,fun X=>BJ xa ha X⟩
 omega
theorem Qx {x: Ac} (hk:xC x=aC):nT x=.nilIface:=by
 rw[xC,decide_eq_false_iff_not] at hk;rw[nT,if_neg (by omega),if_neg (by omega),if_neg (by omega),if_neg (by omega),if_neg (by omega),if_neg (by omega),if_neg (by omega)]
theorem KR (x:Ac):1<=(uX x).length/\(uX x).length<=2:=by
 unfold uX
 split<;>simp
def Hg (x:Ac):Bool:=xC x&&nR 5 (uX x)
theorem TN (x:Ac) (ha:jo x.a) (hb:jo x.b) (w:aI) :
  ba3 aZ8 42 #[aP #[ah aA x.kind,ah aA x.a,ah aA x.b,aN (sv x.txt)]] w fun e w'=>e=aK (.tuple #[nT x,aF (Hg x)])/\Below w.heap.size w w':=by
 have hbw:=dX w (aH #[ah aA x.kind,ah aA x.a,ah aA x.b,aN (sv x.txt)] 38);have hx:=Bx.new w 38 #[ah aA x.kind,ah aA x.a,ah aA x.b,aN (sv x.txt)];have hS:=au5 x (w.alloc (aH #[ah aA x.kind,ah aA x.a,ah aA x.b,aN (sv x.txt)] 38));obtain⟨y0,y1,y2,y3⟩:=Bx.a4 hx;have HB:=dP hbw;clear hbw hx
 cases hk:xC x with
 | false =>
  rw[Qx hk] at hS;have HZ:aG (Hg x=aC/\nT x=.nilIface):=⟨by rw[Hg,hk];rfl,Qx hk⟩
  clear hk ha hb;go_enter Tryz.func42,Tryz.ntmps42
  go_wp2_with fail
  refine hS.mono ?_;rintro e w1 ⟨rfl,hb1⟩;have HB1:=dP (eP HB.out hb1);clear hb1 hS y0 y1 y2 y3;go_wp2;refine bodyPost_ret (v:=.tuple #[.nilIface,aF aC]) (by simp[results,Tryz.results42,go_sem, *]) rfl ?_
  exact⟨by rw[HZ.out.1,HZ.out.2],HB1.out⟩
 | true =>
  obtain⟨T,v,f,r,z0,z1,eS,hM,hE,_,hC⟩:=Qw hk ha hb;rw[eS] at hS;have HZ:aG (Hg x=nR 5 (uX x)/\nT x=.iface T v):=⟨by rw[Hg,hk];rfl,eS⟩
  have hl:=KR x;clear hk ha hb eS;generalize uX x=xs at *;go_enter Tryz.func42,Tryz.ntmps42
  go_wp2_with fail
  refine hS.mono ?_;rintro e w1 ⟨rfl,hb1⟩;have HB1:=dP (eP HB.out hb1);have hC1:=hC w1;clear hb1 hS y0 y1 y2 y3 hC;go_wp2_with fail
  refine hC1.mono ?_;rintro e w2 ⟨b,rfl,hv,hb2⟩;have HB2:=dP (eP HB1.out hb2);have hA:=KD 5 b 0 xs.length xs w2 hv (by omega) (aZ0 _) (by unfold ba2;omega) ⟨by omega,by omega⟩
  clear hb2 hC1 hv;go_wp2_with fail
  refine hA.mono ?_;rintro e w' ⟨rfl,hw'⟩;rw[hw'];clear hw' hA;go_wp2;refine bodyPost_ret (v:=.tuple #[.iface T v,aF (nR 5 xs)]) (by simp[results,Tryz.results42,go_sem, *]) rfl ?_
  exact⟨by rw[HZ.out.1,HZ.out.2],HB2.out⟩
end
def rM (g:Gr) (x:Ac):Bool:=nR (g.mem.length:Int) (uX x)&&(decide (x.kind=3)||nM g x.a.toNat)
theorem FQ (x:Ac):el (uX x) 0=x.a:=by
 unfold uX
 split<;>rfl
theorem JK {n: Int} {xs: List Int} (h:nR n xs=aB) (hl:1<=xs.length):0<=el xs 0/\el xs 0<n:=by
 rw[nR,aU3] at h;have h0:=h 0 (List.mem_range.2 hl);rw[Bool.and_eq_true] at h0;have:=iQ.1 h0.1;omega
theorem au8 (B:Nat) (g:Gr) (n:Nat) (x:Ac) (fp:Fp) (w:aI) (h:iO w B 0 (fK g) fp) (ok:OkG g n) (hk:xC x=aB) (ha:jo x.a) (hb:jo x.b) :
  ba3 aZ8 82 #[aO (au ⟨B,0,ak⟩),nT x] w fun e w'=>e=aK (aF (rM g x))/\Below w.heap.size w w':=by
 have fU:=iq;obtain⟨bb,off,c,G0⟩:=Gw.start h (by rw[ok.ml];have:=ok.n5;omega)
 obtain⟨T,v,f,r,z0,z1,eS,hM,hE,hT,hC⟩:=Qw hk ha hb;rw[eS];have hl:=KR x;have hC0:=hC w;have c0:=G0.mem
 have HF:aG (nR (g.mem.length:Int) (uX x)=aB->0<=x.a/\x.a<(g.mem.length:Int)):=fun hh=>by
  have:=JK hh hl.1
  rwa [FQ] at this
 have Na:=dP (FQ x);have HZ:aG (rM g x=(nR (g.mem.length:Int) (uX x)&&(decide (x.kind=3)||nM g x.a.toNat))):=rfl
 have HG:=dP G0;have iE:=dP ok;clear h ok hk ha hb eS hC G0;generalize uX x=xs at *;generalize decide (x.kind=3)=q at *;go_enter Tryz.func82,Tryz.ntmps82
 go_wp2_with fail
 refine hC0.mono ?_;rintro e w1 ⟨b,rfl,hv,hb1⟩;have HB1:=dP hb1;have HV:=dP hv;have c1:=fM hb1 c0;have hA:=KD (g.mem.length:Int) b 0 xs.length xs w1 hv (by omega) (aZ0 _) (by unfold ba2;omega) (by have:=iE.out.ml;have:=iE.out.n5;exact⟨by omega,by omega⟩)
 clear hC0 hb1 hv c0;go_wp2_with fail
 refine hA.mono ?_;rintro e w' ⟨rfl,hw'⟩;rw[hw'];clear hw' hA c1
 cases hbl:nR (g.mem.length:Int) xs with
 | false =>
  have HR:aG (rM g x=aC):=by rw[aG,HZ.out,hbl];rfl
  clear hbl;go_wp2;go_ret
  exact⟨dZ (by rw[HR.out]),HB1.out⟩
 | true =>
  obtain⟨a0,a1⟩:=HF.out hbl;obtain⟨a,ea⟩:∃ a:Nat,x.a=(a:Int):=⟨x.a.toNat,by omega⟩
  have HR:aG (rM g x=(q||nM g a)):=by rw[aG,HZ.out,hbl,ea];simp
  have hal:a<g.up.length:=by rw[iE.out.ul,<- iE.out.ml];omega
  have e0:=Na.out;rw[ea] at e0;clear hbl a0 a1;have hb2:=dX w1 (aH #[ah aA z0,ah aA z1] 156);have HB2:=dP (eP HB1.out hb2);have hv2:=HV.out.below hb2 (aZ0 _);obtain⟨ub,uo,uc,u1,u2,_,_⟩:=(HG.out.step HB2.out).bit (k:=a) hal;simp only[aY7] at u1
  have d0:(w1.alloc (aH #[ah aA z0,ah aA z1] 156)).cell? ⟨b,0,ak⟩=au (ah aA (a:Int)):=by
   rcases hv2.2.2 with h0|⟨b',o',ee,hc⟩
   ·omega
   ·cases ee
    have:=hc 0 (by omega)
    rw[e0] at this;exact this
  have k0:(0:Int)<=a:=by omega
  have k1:(a:Int)<g.up.length:=by omega
  have k2:(0:Int)<xs.length:=by omega
  clear hb2 hv2 e0;go_wp2_with fail
  generalize w1.alloc (aH #[ah aA z0,ah aA z1] 156)=W2 at *;have TT:∀ {y v},W2.cell? y=au v->∀ q:Bk W2,q.w.cell? y=au v:=fun h q=>fM q.h h
  have t0:=TT u1;have t1:=TT u2;have t2:=TT d0;clear TT u1 u2 d0
  cases q with
  | true =>
   have HR2:aG (rM g x=aB):=by rw[aG,HR.out];rfl
   refine jf ?_;repeat (go_big_quiet_step ((first|rfl)))
   refine aZ2 (iI fun wE eH=>?_)
   have HB3:=dP (eP HB2.out eH);clear eH t0 t1 t2;go_wp2;go_ret
   exact⟨dZ (by rw[HR2.out]),HB3.out⟩
  | false =>
   have HR2:aG (rM g x=nM g a):=by rw[aG,HR.out];rfl
   generalize nM g a=u at *;refine jf ?_;repeat (go_big_quiet_step ((first|rfl)))
   refine aZ2 (iI fun wE eH=>?_)
   have HB3:=dP (eP HB2.out eH);clear eH t0 t1 t2;go_wp2;go_ret
   exact⟨dZ (by rw[HR2.out]),HB3.out⟩
theorem af9 (x:Int) (w:aI):ba3 aZ8 195 #[ah aA x] w fun e w'=>e=aK (aF aC)/\w'=w:=by
 go_enter Tryz.func195,Tryz.ntmps195
 go_wp2;go_ret
 exact⟨by simp,rfl⟩
theorem A8 (x:Int) (w:aI):ba3 aZ8 189 #[ah aA x] w fun e w'=>e=aK (aF aC)/\w'=w:=by
 go_enter Tryz.func189,Tryz.ntmps189
 go_wp2;go_ret
 exact⟨by simp,rfl⟩
theorem Ba (x y:Int) (w:aI):ba3 aZ8 188 #[ah aA x,ah aA y] w fun e w'=>e=aK (aF (decide (x<y)))/\w'=w:=by
 go_enter Tryz.func188,Tryz.ntmps188
 go_wp2_with (go_at_call 195;refine (af9 _ _).mono ?_;rintro e w' ⟨rfl,rfl⟩)
 go_ret
 exact⟨rfl,rfl⟩
theorem Yp:∀ {zs:List Int} {k:Nat} {x:Int},k<=zs.length->(∀ j,j<k->el zs j<x)->(∀ j,k<=j->j<zs.length->x<el zs j)->zs.take k++x::zs.drop k=gY zs x
 | [],0,x,_,_,_=>rfl
 | [],k+1,x,h,_,_=>by simp at h
 | z::zs,0,x,_,_,h2=>by
  have:=h2 0 (aZ0 _) (by simp)
  simp only[el,List.getD_cons_zero] at this;rw[gY,if_neg (by omega),if_neg (by omega)]
  rfl
 | z::zs,k+1,x,h,h1,h2=>by
  have e:=h1 0 (by omega)
  simp only[el,List.getD_cons_zero] at e;rw[gY,if_pos e,<- Yp (zs:=zs) (k:=k) (x:=x) (by simpa using h) (fun j hj=>by have:=h1 (j+1) (by omega);simpa[el] using this) (fun j hj hl=>by have:=h2 (j+1) (by omega) (by simpa using hl);simpa[el] using this)]
  rfl
theorem aF1 (a:Option ba5) (cap:Nat) (zs:List Int) (x:Int) (w:aI) (hv:Vec w a zs.length zs) (hm:zs.length<=1000) (hs:zs.Pairwise (·<·)) :
  ba3 aZ8 182 #[aj a zs.length cap,ah aA x] w fun e w'=>∃ k:Nat,k<=zs.length/\e=aK (.tuple #[ah aA (k:Int),aF (decide (x∈zs))])/\w'=w/\(x∉zs->zs.take k++x::zs.drop k=gY zs x):=by
 have S:aG (∀ a b,a<b->b<zs.length->el zs a<el zs b):=fun a b hab hb=>by
  have:=List.pairwise_iff_getElem.1 hs a b (by omega) hb hab
  simpa[el,hb,show a<zs.length by omega] using this
 have hc:=hv.2.2;clear hs hv
 have HP:aG (∀ k,k<=zs.length->(∀ t,t<k->el zs t<x)->(∀ t,k<=t->t<zs.length->x<=el zs t)->(x∉zs->zs.take k++x::zs.drop k=gY zs x)/\(k<zs.length->el zs k=x->x∈zs)/\((k<zs.length->el zs k≠x)->x∉zs)):=fun k hk h1 h2=>by
  refine⟨fun hx=>Yp hk h1 (fun j hj hl=>?_),fun hk' e=>?_,fun hne hx=>?_⟩
  ·have:=h2 j hj hl
   have hne:el zs j≠x:=fun e=>hx (e ▸ kM hl)
   omega
  ·exact e ▸ kM hk'
  ·obtain⟨j,hj,e⟩:=bU.1 hx
   have ej:el zs j=x:=by simpa[el,hj] using e
   rcases aY6 j k with h|h
   ·have:=h1 j h;omega
   ·rcases Nat.eq_or_lt_of_le h with h|h
    ·subst h;exact hne hj ej
    ·have a1:=S.out k j h hj
     have a2:=h2 k (aZ0 _) (by omega)
     omega
 have HT:aG ((x∈zs->decide (x∈zs)=aB)/\(x∉zs->decide (x∈zs)=aC)):=⟨decide_eq_true,decide_eq_false⟩;generalize decide (x∈zs)=D at *;go_enter Tryz.func182,Tryz.ntmps182
 go_wp2
 go_loopg [7,8] zs.length (fun g s7 s8 wr=>∃ lo hi:Nat,s7=ah aA (lo:Int)/\s8=ah aA (hi:Int)/\lo<=hi/\hi<=zs.length/\hi-lo<=g/\wr=w/\(∀ t,t<lo->el zs t<x)/\(∀ t,hi<=t->t<zs.length->x<=el zs t))
 case atStart=>exact⟨0,zs.length,rfl,rfl,aZ1 _,aZ0 _,by omega,rfl,fun t ht=>absurd ht (aW3 _),fun t h1 h2=>by omega⟩
 case round =>
  obtain⟨lo,hi,rfl,rfl,hlh,hin,hg,rfl,h1,h2⟩:=hrel;have I:aG ((∀ t,t<lo->el zs t<x)/\(∀ t,hi<=t->t<zs.length->x<=el zs t)):=⟨h1,h2⟩;clear h1 h2;by_cases hlt:lo<hi
  ·rcases hc with h0|⟨b,off,rfl,hc⟩
   ·omega
   have cm:=hc ((lo+hi)/2) (by omega)
   clear hc;generalize hy:el zs ((lo+hi)/2)=y at cm;have Y:=dP hy;clear hy;by_cases hyx:y<x
   ·go_wp2_with (first|(go_at_call 188;refine (Ba _ _ _).mono ?_;rintro e w' ⟨rfl,rfl⟩)|(go_at_call 189;refine (A8 _ _).mono ?_;rintro e w' ⟨rfl,rfl⟩))
    go_roundg (hi-((lo+hi)/2+1))
    case measure=>omega
    case rel =>
     refine⟨(lo+hi)/2+1,hi,by rw[show ((lo:Int)+(hi:Int))/2+1=(((lo+hi)/2+1:Nat):Int) by omega],rfl,by omega,hin,aZ0 _,rfl,fun t ht=>?_,I.out.2⟩
     rcases aY6 t ((lo+hi)/2) with h|h
     ·have:=S.out t ((lo+hi)/2) h (by omega)
      rw[Y.out] at this;omega
     ·rw[show t=(lo+hi)/2 by omega,Y.out];exact hyx
   ·go_wp2_with (first|(go_at_call 188;refine (Ba _ _ _).mono ?_;rintro e w' ⟨rfl,rfl⟩)|(go_at_call 189;refine (A8 _ _).mono ?_;rintro e w' ⟨rfl,rfl⟩))
    go_roundg ((lo+hi)/2-lo)
    case measure=>omega
    case rel =>
     refine⟨lo,(lo+hi)/2,rfl,by rw[show ((lo:Int)+(hi:Int))/2=(((lo+hi)/2:Nat):Int) by omega],by omega,by omega,aZ0 _,rfl,I.out.1,fun t ht htn=>?_⟩
     rcases Nat.eq_or_lt_of_le ht with h|h
     ·rw[<- h,Y.out];omega
     ·have:=S.out ((lo+hi)/2) t h htn
      rw[Y.out] at this;omega
  ·have:hi=lo:=by omega
   subst this;obtain⟨p1,p2,p3⟩:=HP.out hi hin I.out.1 I.out.2;have E1:=dP p1;by_cases hn:hi<zs.length
   ·rcases hc with h0|⟨b,off,rfl,hc⟩
    ·omega
    have cl:=hc hi hn;by_cases hyx:el zs hi=x
    ·have E2:aG (D=aB):=HT.out.1 (p2 hn hyx)
     rw[hyx] at cl;clear hc hyx p1 p2 p3;go_wp2_with (first|(go_at_call 188;refine (Ba _ _ _).mono ?_;rintro e w' ⟨rfl,rfl⟩)|(go_at_call 189;refine (A8 _ _).mono ?_;rintro e w' ⟨rfl,rfl⟩))
     go_ret2
     exact⟨hi,hin,by rw[E2.out];first|rfl|simp,rfl,E1.out⟩
    ·have E2:aG (D=aC):=HT.out.2 (p3 (fun _=>hyx))
     have aS6:((el zs hi)==x)=aC:=by simpa using hyx
     clear hc p1 p2 p3;generalize el zs hi=y at *;go_wp2_with (first|(go_at_call 188;refine (Ba _ _ _).mono ?_;rintro e w' ⟨rfl,rfl⟩)|(go_at_call 189;refine (A8 _ _).mono ?_;rintro e w' ⟨rfl,rfl⟩))
     go_ret2
     exact⟨hi,hin,by rw[E2.out];first|rfl|simp[hyx],rfl,E1.out⟩
   ·have E2:aG (D=aC):=HT.out.2 (p3 (fun h=>absurd h hn))
    clear hc p1 p2 p3;go_wp2_with (first|(go_at_call 188;refine (Ba _ _ _).mono ?_;rintro e w' ⟨rfl,rfl⟩)|(go_at_call 189;refine (A8 _ _).mono ?_;rintro e w' ⟨rfl,rfl⟩))
    go_ret2
    exact⟨hi,hin,by rw[E2.out];first|rfl|simp,rfl,E1.out⟩
theorem Yq {P: Program} (w:aI) {o: Oper} {K: Act->aI->Prop} {Q: Exit->Act->aI->Prop} (d s:Operand) (t t':TypeId)
  (ho:o.op=.call { callee:=.builtin .copy,args:=#[d,s],argTypes:=#[t,t'] }) (v u:aJ) (hd:a.eval d=v) (hs:a.eval s=u) {v':aJ} {w':aI}
  (hr:(Builtin.copy_ #[t,t'] o.type #[v,u]).run P w=.ok v' w') (h:K (a.put o.dst v') w'):o.wp P a w K Q:=by
 unfold Oper.wp execOp;simp only[ho,resolve,invoke,builtin,Sem.run_bind,Sem.run_pure,Result.andThen_ok,List.map_toArray,List.map_cons,List.map_nil,hd,hs,hr]
 exact h
theorem Eo {P: Program} (w:aI) {ops: Array Oper} {rest: List Oper} {o: Oper} {Q: Exit->Act->aI->Prop} (hgd:o.guard=ak) (d s:Operand) (t t':TypeId)
  (ho:o.op=.call { callee:=.builtin .copy,args:=#[d,s],argTypes:=#[t,t'] }) (v u:aJ) (hd:a.eval d=v) (hs:a.eval s=u) {v':aJ} {w':aI}
  (hr:(Builtin.copy_ #[t,t'] o.type #[v,u]).run P w=.ok v' w') (h:wpList P ops Q rest (a.put o.dst v') w'):wpList P ops Q (o::rest) a w :=
 wpList_plain hgd fun _ hK=>Yq w d s t t' ho v u hd hs hr (hK _ _ h)
theorem Hl {P: Program} {ops: Array Oper} {o: Oper} {a: Act} {w: aI} {K: Act->aI->Prop} {Q: Exit->Act->aI->Prop} {E: Prop}
  (hg:o.guard=ak) (d x:Operand) (dT sT:TypeId) (hop:o.op=Op.call { callee:=Callee.builtin Builtin.copy,args:=#[d,x],argTypes:=#[dT,sT] })
  (v u:aJ) (hd:a.eval d=v) (hx:a.eval x=u) {v':aJ} {w':aI} (hr:(Builtin.copy_ #[dT,sT] o.type #[v,u]).run P w=.ok v' w') (hK:K (a.put o.dst v') w') :
  if aY0 o (yielded ops a.tmps)=aB then Oper.wp P o a w K Q else E:=by
 have hw:aY0 o (yielded ops a.tmps)=aB:=by simp[aY0,hg]
 rw[if_pos hw];unfold Oper.wp;simp[execOp,hop,resolve,invoke,builtin,hd,hx,hr,Result.andThen]
 exact hK
theorem uG (b:Nat) (vs:List aJ) (o:Nat) (w:aI) (h:∀ j,j<vs.length->(w.cell? ⟨b,o+j,ak⟩).isSome=aB) (k:Nat) (hk:(w.cell? ⟨b,k,ak⟩).isSome=aB):((w.setCells b o vs).cell? ⟨b,k,ak⟩).isSome=aB:=by
 by_cases hin:o<=k/\k<o+vs.length
 ·have:=World.cell?_setCells_in b vs o w h (k-o) (by omega)
  rw[show o+(k-o)=k by omega] at this
  rw[this];rfl
 ·rw[World.cell?_setCells_out b vs o w ⟨b,k,ak⟩ (fun _ _=>by show k<o\/o+vs.length<=k;omega)]
  exact hk
theorem TP {α: Type} (cs:List α) (k:Nat) (x:α) (hk:k<=cs.length) (j:Nat):(cs.take k++x::cs.drop k)[j]?=if j<k then cs[j]? else if j=k then au x else cs[j-1]?:=by
 have hl:(cs.take k).length=k:=by rw[aU5];omega
 by_cases h1:j<k
 ·rw[if_pos h1,aY (by omega),dG,if_pos h1]
 ·rw[if_neg h1,aW (by omega),hl]
  by_cases h2:j=k
  ·rw[if_pos h2,h2,Nat.sub_self];rfl
  ·rw[if_neg h2,show j-k=(j-k-1)+1 by omega,List.getElem?_cons_succ,dF]
   congr 1
   omega
theorem ag0 (W:aI) (N o k c:Nat) (cs:List aJ) (x:aJ) (hk:k<=cs.length) (h0:∀ j,j<k->W.cell? ⟨N,o+j,ak⟩=cs[j]?) (hs:∀ j,j<c->(W.cell? ⟨N,o+j,ak⟩).isSome=aB) (hc:cs.length+1<=c) :
  (∀ j,j<cs.length+1->((W.setCells N (o+(k+1)) (cs.drop k)).setCells N (o+k) [x]).cell? ⟨N,o+j,ak⟩=(cs.take k++x::cs.drop k)[j]?)/\∀ j,j<c->(((W.setCells N (o+(k+1)) (cs.drop k)).setCells N (o+k) [x]).cell? ⟨N,o+j,ak⟩).isSome=aB:=by
 have hd:(cs.drop k).length=cs.length-k:=aU8;have s1:∀ j,j<(cs.drop k).length->(W.cell? ⟨N,o+(k+1)+j,ak⟩).isSome=aB:=fun j hj=>by rw[aX9];exact hs _ (by omega)
 have s2:∀ j,j<c->((W.setCells N (o+(k+1)) (cs.drop k)).cell? ⟨N,o+j,ak⟩).isSome=aB:=fun j hj=>uG N _ _ W s1 _ (hs j hj)
 have s3:∀ j,j<[x].length->((W.setCells N (o+(k+1)) (cs.drop k)).cell? ⟨N,o+k+j,ak⟩).isSome=aB:=fun j hj=>by rw[aX9];exact s2 _ (by simp at hj;omega)
 refine⟨fun j hj=>?_,fun j hj=>uG N _ _ _ s3 _ (s2 j hj)⟩
 rw[TP cs k x hk j];by_cases h2:j=k
 ·subst h2
  rw[if_neg (by omega),if_pos rfl]
  have:=World.cell?_setCells_in N [x] (o+j) _ s3 0 (by simp)
  exact this
 ·rw[World.cell?_setCells_out N [x] (o+k) _ ⟨N,o+j,ak⟩ (fun _ _=>by show o+j<o+k\/o+k+[x].length<=o+j;simp;omega),if_neg h2]
  by_cases h1:j<k
  ·rw[if_pos h1,World.cell?_setCells_out N _ _ W ⟨N,o+j,ak⟩ (fun _ _=>by show o+j<o+(k+1)\/_;omega)]
   exact h0 j h1
  ·rw[if_neg h1]
   have:=World.cell?_setCells_in N (cs.drop k) (o+(k+1)) W s1 (j-(k+1)) (by omega)
   rw[show o+(k+1)+(j-(k+1))=o+j by omega] at this
   rw[this,List.getElem_drop,bC (by omega)]
   congr 2
   omega
theorem aF2 (W:aI) (N o k c:Nat) (cs:List aJ) (x:aJ) (hk:k<=cs.length) (h0:∀ j,j<k->W.cell? ⟨N,o+j,ak⟩=cs[j]?) (hs:∀ j,j<c->(W.cell? ⟨N,o+j,ak⟩).isSome=aB) (hc:cs.length+1<=c) :
  (∀ j,j<cs.length+1->((W.setCells N (o+k) [x]).setCells N (o+(k+1)) (cs.drop k)).cell? ⟨N,o+j,ak⟩=(cs.take k++x::cs.drop k)[j]?)/\∀ j,j<c->(((W.setCells N (o+k) [x]).setCells N (o+(k+1)) (cs.drop k)).cell? ⟨N,o+j,ak⟩).isSome=aB:=by
 have hd:(cs.drop k).length=cs.length-k:=aU8;have s3:∀ j,j<[x].length->(W.cell? ⟨N,o+k+j,ak⟩).isSome=aB:=fun j hj=>by rw[aX9];exact hs _ (by simp at hj;omega)
 have s2:∀ j,j<c->((W.setCells N (o+k) [x]).cell? ⟨N,o+j,ak⟩).isSome=aB:=fun j hj=>uG N _ _ W s3 _ (hs j hj)
 have s1:∀ j,j<(cs.drop k).length->((W.setCells N (o+k) [x]).cell? ⟨N,o+(k+1)+j,ak⟩).isSome=aB:=fun j hj=>by rw[aX9];exact s2 _ (by omega)
 refine⟨fun j hj=>?_,fun j hj=>uG N _ _ _ s1 _ (s2 j hj)⟩
 rw[TP cs k x hk j];by_cases h1:j<k+1
 ·rw[World.cell?_setCells_out N _ _ (W.setCells N (o+k) [x]) ⟨N,o+j,ak⟩ (fun _ _=>by show o+j<o+(k+1)\/_;omega)]
  by_cases h2:j=k
  ·subst h2
   rw[if_neg (by omega),if_pos rfl]
   exact World.cell?_setCells_in N [x] (o+j) W s3 0 (by simp)
  ·rw[if_pos (by omega),World.cell?_setCells_out N [x] (o+k) W ⟨N,o+j,ak⟩ (fun _ _=>by show o+j<o+k\/_;omega)]
   exact h0 j (by omega)
 ·rw[if_neg (by omega),if_neg (by omega)]
  have:=World.cell?_setCells_in N (cs.drop k) (o+(k+1)) (W.setCells N (o+k) [x]) s1 (j-(k+1)) (by omega)
  rw[show o+(k+1)+(j-(k+1))=o+j by omega] at this
  rw[this,List.getElem_drop,bC (by omega)]
  congr 2
  omega
theorem ag1 (b off n c i vb:Nat) (cs:List aJ) (x:Int) (w:aI) (hi:i<n) (hroom:n+1<=c) (hc63:c<=9223372036854775807) (hvb:vb≠b) (hcl:cs.length=n)
  (hcs:∀ j v,cs[j]?=au v->w.cell? ⟨b,off+j,ak⟩=au v) (hsp:∀ j,j<n+1->(w.cell? ⟨b,off+j,ak⟩).isSome=aB) (hfz:∀ j,j<n+1->w.frozen? ⟨b,off+j,ak⟩=aC)
  (hvs:w.cell? ⟨vb,0,ak⟩=au (ah aA x)) (h1c:∀ v∈cs,v.oneCell'=aB) (tA tB:TypeId) (kA kB:Nat) (hsa:w.shape? vb=au (tA,kA)) (hsb:w.shape? b=au (tB,kB)) (hkB:kB≠0) (hfa:w.frozen? ⟨vb,0,ak⟩=aC) (hfe:w.frozen? ⟨vb,kA,ak⟩=aC) :
  ba3 aZ8 183 #[aj (au ⟨b,off,ak⟩) n c,ah aA (i:Int),aj (au ⟨vb,0,ak⟩) 1 1] w fun e w' =>
   e=aK (aj (au ⟨b,off,ak⟩) (n+1) c)/\w'=(w.drew.setCells b (off+(i+1)) (cs.drop i)).setCells b (off+i) [ah aA x]:=by
 have mixed:=iq;have hz2:¬ ((i:Int)=n):=by omega
 obtain⟨i0,hi0,hz0,hz1,hzb⟩:=ku Tryz.info2n;have hsz:(Tryz.prog.info? 2).map (·.size)=au 1:=by rw[hi0];simp[hz1]
 have hov:∀ lb cb,(callFunc 190 #[aj (au ⟨vb,0,ak⟩) 1 1,aj (au ⟨b,off+(i+1),ak⟩) lb cb]).run aZ8 w=.ok (.value (aF aC)) w:=fun lb cb=>by
  rw [run_callFunc_extern Tryz.func190 (by kernel_rfl) (by kernel_rfl) (by kernel_rfl) (e := Extern.SlicesOverlaps.overlaps #[41,41] #[4]) (by kernel_rfl),
   Lib.run_overlaps_apart w 41 4 2 dK 1 Tryz.sizeOf2 ⟨vb,0,ak⟩ ⟨b,off+(i+1),ak⟩ 1 1 lb cb hvb tA tB kA kB hsa hsb hkB hfa hfe]
  rfl
 have hdl:(cs.drop i).length=n-i:=by rw[aU8,hcl]
 have hw1:IntKind.i64.wrap ((i:Int)+1)=(i:Int)+1:=by rw[IntKind.wrap_i64];omega
 have hb1:(0:Int)<=(i:Int)+1:=by omega
 have hin:i<=n:=by omega
 have htn:((i:Int)+1).toNat=i+1:=by omega
 have hb2:¬ (c=i+1):=by omega
 have hb3:(i:Int)<=(n:Int)+1:=by omega
 have hb4:¬ (c=i):=by omega
 have hcp1:∀ dl sl ty dc sc,dl=n-i->sl=n+1-i->(Builtin.copy_ #[41,41] ty #[aj (au ⟨b,off+(i+1),ak⟩) dl dc,aj (au ⟨b,off+i,ak⟩) sl sc]).run aZ8 w.drew=.ok (goInt (cs.drop i).length) (w.drew.setCells b (off+(i+1)) (cs.drop i)):=fun dl sl ty dc sc e1 e2 =>
  run_copy_cells w.drew _ _ ty 2 b (off+(i+1)) dl dc ⟨b,off+i,ak⟩ sl sc (cs.drop i) dK hsz (by rw[hdl];simp only[Nat.min_def];split<;>omega)
   (fun j v hj=>by rw[Addr.add_lit,aX9];exact hcs (i+j) v (by rwa [dF] at hj))
   (fun j hj=>by rw[aX9];exact hsp _ (by omega)) (fun j hj=>by rw[aX9];exact hfz _ (by omega)) (fun v hv=>h1c v (bY hv))
 obtain⟨W1,hW1⟩:∃ W1,W1=w.drew.setCells b (off+(i+1)) (cs.drop i):=⟨_,rfl⟩
 have hsp1:∀ k,k<n+1->(W1.cell? ⟨b,off+k,ak⟩).isSome=aB:=fun k hk=>by
  rw[hW1];exact uG b _ _ _ (fun j hj=>by rw[aX9];exact hsp _ (by omega)) _ (hsp k hk)
 have hcp2:∀ (W:aI),(∀ x,W.cell? x=W1.cell? x)->(∀ x,W.frozen? x=W1.frozen? x)->∀ dl ty dc,dl=n+1-i->(Builtin.copy_ #[41,41] ty #[aj (au ⟨b,off+i,ak⟩) dl dc,aj (au ⟨vb,0,ak⟩) 1 1]).run aZ8 W=.ok (goInt [aZ9 aA x].length) (W.setCells b (off+i) [ah aA x]):=fun W hWc hWf dl ty dc e1 =>
  run_copy_cells W _ _ ty 2 b (off+i) dl dc ⟨vb,0,ak⟩ 1 1 [ah aA x] dK hsz (by simp only[Nat.min_def,aU6,aV8];split<;>omega)
   (fun j v hj => by
    rw[Addr.add_lit,hWc,hW1,World.cell?_setCells_out b _ _ _ _ (fun h _=>absurd h hvb)]
    match j,hj with
    | 0,hj=>simp at hj;rw[<- hj];exact hvs)
   (fun j hj=>by rw[hWc,aX9];exact hsp1 _ (by simp at hj;omega)) (fun j hj=>by rw[hWf,hW1,World.frozen?_setCells,aX9];exact hfz _ (by simp at hj;omega)) (by intro v hv;simp at hv;rw[hv];rfl)
 rw[<- hW1] at hcp1;clear hcs hsp hfz hvs h1c hsp1 hsa hsb hkB hfa hfe hi0 hz0 hz1 hzb hsz;go_enter Tryz.func183,Tryz.ntmps183
 go_wp2_with (simp only[hov])
 go_region_law_o (refine Hl rfl _ _ 41 41 rfl _ _ (by simp[Act.eval,Act.put]) (by simp[Act.eval,Act.put]) (hcp1 _ _ _ _ _ (by omega) (by omega)) ?_)
 go_wp2_with (at_builtin;refine Eo _ rfl _ _ 41 41 rfl _ _ rfl rfl (hcp2 _ (fun _=>rfl) (fun _=>rfl) _ _ _ (by omega)) ?_)
 go_ret
 first|exact⟨rfl,rfl⟩|exact⟨rfl,by rw[hW1]⟩
theorem ag2 (b off n c i vb:Nat) (cs:List aJ) (x:Int) (w:aI) (hi:i<n) (hnc:n<=c) (hroom:c<n+1) (hbig:(n+1)*8<=140737488355328) (hcl:cs.length=n)
  (hcs:∀ j v,cs[j]?=au v->w.cell? ⟨b,off+j,ak⟩=au v) (hvs:w.cell? ⟨vb,0,ak⟩=au (ah aA x)) (h1c:∀ v∈cs,v.oneCell'=aB) :
  ba3 aZ8 183 #[aj (au ⟨b,off,ak⟩) n c,ah aA (i:Int),aj (au ⟨vb,0,ak⟩) 1 1] w fun e w' =>
   e=aK (aj (au ⟨w.heap.size,0,ak⟩) (n+1) (grownCap w (n+1) c 2)) /\
   w'=(((w.alloc (aH ((cs.take i).toArray++dL (aZ9 aA 0).cells (n+1-i)++dL (aZ9 aA 0).cells (grownCap w (n+1) c 2-(n+1))) 2)).drew.setCells w.heap.size i [ah aA x]).drew).setCells w.heap.size (i+1) (cs.drop i):=by
 have mixed:=iq;obtain⟨i0,hi0,hz0,hzs,hzb⟩:=ku Tryz.info2n;have hz2:¬ ((i:Int)=n):=by omega
 have hz3:(c:Int)<(n:Int)+1:=by omega
 have hsz:(Tryz.prog.info? 2).map (·.size)=au 1:=by rw[hi0];simp[hzs]
 have hbw:b<w.heap.size:=bG _ _ (hcs 0 _ (bC (by omega)))
 have hvw:=bG _ _ hvs;have hkk:(n:Int)+1-(i:Int)=((n+1-i:Nat):Int):=by omega
 have hik:i+(n+1-i)=n+1:=by omega
 have hold:(Builtin.firstCells i0.size i (aj (au ⟨b,off,ak⟩) i c)).run aZ8 w.drew=.ok (cs.take i).toArray w.drew:=by
  rw[hzs]
  exact run_firstCells_some w.drew 1 i ⟨b,off,ak⟩ i c (cs.take i) (by rw [aU5];omega) (fun j v hj => by
   rw[Addr.add_lit];rw[dG] at hj
   split at hj
   ·exact hcs j v hj
   ·cases hj)
 have hrz:∀ ty,(Builtin.append_ #[41,3] ty #[aj (au ⟨b,off,ak⟩) i c,ah aA ((n:Int)+1-(i:Int))]).run aZ8 w =
   .ok (aj (au ⟨w.heap.size,0,ak⟩) (n+1) (grownCap w (n+1) c 2)) (w.drew.alloc (aH ((cs.take i).toArray++dL (aZ9 aA 0).cells (n+1-i)++dL (aZ9 aA 0).cells (grownCap w (n+1) c 2-(n+1))) 2)):=fun ty=>by
  have h:=Lib.run_append_grow_zeros w 41 3 ty 2 i0 _ aA aA dK Tryz.underlying3 hi0 hz0 (au ⟨b,off,ak⟩) i c (cs.take i) hold (n+1-i) (by omega) (by omega) (by omega) (by omega) (by rw[hzb];omega) (by rw[hzb,hik];exact growslice_fits hroom hbig)
  rw[hik] at h;rw[hkk];exact h
 obtain⟨G,hG⟩:∃ G,G=grownCap w (n+1) c 2:=⟨_,rfl⟩;obtain⟨ROW,hROW⟩:∃ ROW:Array aJ,ROW=(cs.take i).toArray++dL (aZ9 aA 0).cells (n+1-i)++dL (aZ9 aA 0).cells (G-(n+1)):=⟨_,rfl⟩;rw[<- hG] at hrz ⊢;rw[<- hROW] at hrz ⊢
 have hRl:n+1<=ROW.size:=by
  rw[hROW];simp[dL,Value.cells]
  omega
 obtain⟨W1,hW1⟩:∃ W1,W1=w.drew.alloc (aH ROW 2):=⟨_,rfl⟩;rw[<- hW1] at hrz
 have hN:∀ j,j<n+1->(W1.cell? ⟨w.heap.size,j,ak⟩).isSome=aB:=fun j hj=>by
  rw[hW1,World.cell?_alloc_at (w:=w.drew) ROW _ w.heap.size j rfl,Array.getElem?_eq_getElem (by omega)];rfl
 have hNf:∀ j,W1.frozen? ⟨w.heap.size,j,ak⟩=aC:=fun j=>by rw[hW1];exact World.frozen?_alloc_at (w:=w.drew) ROW _ w.heap.size j rfl
 have hOb:∀ j v,w.cell? ⟨b,j,ak⟩=au v->W1.cell? ⟨b,j,ak⟩=au v:=fun j v h=>by rw[hW1,World.cell?_alloc_past (w:=w.drew) _ b j hbw];exact h
 have hOv:∀ j v,w.cell? ⟨vb,j,ak⟩=au v->W1.cell? ⟨vb,j,ak⟩=au v:=fun j v h=>by rw[hW1,World.cell?_alloc_past (w:=w.drew) _ vb j hvw];exact h
 have hcpA:∀ (W:aI),(∀ x,W.cell? x=W1.cell? x)->(∀ x,W.frozen? x=W1.frozen? x)->∀ dl ty dc,dl=n+1-i->(Builtin.copy_ #[41,41] ty #[aj (au ⟨w.heap.size,i,ak⟩) dl dc,aj (au ⟨vb,0,ak⟩) 1 1]).run aZ8 W=.ok (goInt [aZ9 aA x].length) (W.setCells w.heap.size i [ah aA x]):=fun W hWc hWf dl ty dc e1 =>
  run_copy_cells W _ _ ty 2 w.heap.size i dl dc ⟨vb,0,ak⟩ 1 1 [ah aA x] dK hsz (by simp only[Nat.min_def,aU6,aV8];split<;>omega)
   (fun j v hj => by
    rw[Addr.add_lit,hWc]
    match j,hj with
    | 0,hj=>simp at hj;rw[<- hj];exact hOv _ _ hvs)
   (fun j hj=>by rw[hWc];exact hN _ (by simp at hj;omega)) (fun j hj=>by rw[hWf];exact hNf _) (by intro v hv;simp at hv;rw[hv];rfl)
 have hGn:n+1<=G:=by rw[hG];exact grownCap_ge w _ _ _
 have hG63:G<=9223372036854775807:=by
  have:=grownCap_le_maxLen w (n+1) c 2 (by unfold ba2;omega)
  rw[<- hG] at this;unfold ba2 at this;omega
 have hGi:¬ (G=i):=by omega
 have hGim:¬ (G=i+1):=by omega
 have hci:¬ (c=i):=by omega
 have hbN:b≠w.heap.size:=by omega
 have hdl:(cs.drop i).length=n-i:=by rw[aU8,hcl]
 have hcpB:∀ (W:aI),(∀ y,W.cell? y=(W1.setCells w.heap.size i [ah aA x]).cell? y)->(∀ y,W.frozen? y=(W1.setCells w.heap.size i [ah aA x]).frozen? y)->∀ dl sl ty dc sc,dl=n-i->sl=n-i->(Builtin.copy_ #[41,41] ty #[aj (au ⟨w.heap.size,i+1,ak⟩) dl dc,aj (au ⟨b,off+i,ak⟩) sl sc]).run aZ8 W=.ok (goInt (cs.drop i).length) (W.setCells w.heap.size (i+1) (cs.drop i)):=fun W hWc hWf dl sl ty dc sc e1 e2 =>
  run_copy_cells W _ _ ty 2 w.heap.size (i+1) dl dc ⟨b,off+i,ak⟩ sl sc (cs.drop i) dK hsz (by rw[hdl];simp only[Nat.min_def];split<;>omega)
   (fun j v hj => by
    rw[Addr.add_lit,hWc,World.cell?_setCells_out _ _ _ _ _ (fun h _=>absurd h hbN),aX9]
    exact hOb _ v (hcs (i+j) v (by rwa [dF] at hj)))
   (fun j hj=>by rw[hWc];exact uG _ _ _ _ (fun t ht=>hN _ (by simp at ht;omega)) _ (hN _ (by omega)))
   (fun j hj=>by rw[hWf,World.frozen?_setCells];exact hNf _) (fun v hv=>h1c v (bY hv))
 subst hW1;have hE1:∀ x,((w.alloc (aH ROW 2)).drew).cell? x=(w.drew.alloc (aH ROW 2)).cell? x:=fun x=>rfl
 have hE2:∀ x,((w.alloc (aH ROW 2)).drew).frozen? x=(w.drew.alloc (aH ROW 2)).frozen? x:=fun x=>rfl
 have hF1:∀ y,(((w.alloc (aH ROW 2)).drew.setCells w.heap.size i [ah aA x]).drew).cell? y=((w.drew.alloc (aH ROW 2)).setCells w.heap.size i [ah aA x]).cell? y:=fun y=>rfl
 have hF2:∀ y,(((w.alloc (aH ROW 2)).drew.setCells w.heap.size i [ah aA x]).drew).frozen? y=((w.drew.alloc (aH ROW 2)).setCells w.heap.size i [ah aA x]).frozen? y:=fun y=>rfl
 have hw1:IntKind.i64.wrap ((i:Int)+1)=(i:Int)+1:=by rw[IntKind.wrap_i64];omega
 have hb1:(0:Int)<=(i:Int)+1:=by omega
 have hin:i<=n:=by omega
 have htn:((i:Int)+1).toNat=i+1:=by omega
 have hb3:(i:Int)<=n:=by omega
 clear hkk hik hold hROW hG hRl hcs hvs h1c hN hNf hOb hOv hsz hi0 hz0 hzs hzb;go_enter Tryz.func183,Tryz.ntmps183
 go_wp2_with (first
  | (at_builtin;refine Lib.wpList_append_run _ rfl _ _ _ _ rfl _ _ rfl rfl _ _ (hrz _) ?_)
  | (at_builtin;refine Eo _ rfl _ _ 41 41 rfl _ _ rfl rfl (hcpA _ hE1 hE2 _ _ _ (by omega)) ?_))
 go_region_law_o (refine Hl rfl _ _ 41 41 rfl (aj (au ⟨w.heap.size,i+1,ak⟩) (n-i) (G-(i+1))) (aj (au ⟨b,off+i,ak⟩) (n-i) (c-i)) (by simp[Act.eval,Act.put]) (by simp[Act.eval,Act.put]) (hcpB _ hF1 hF2 (n-i) (n-i) 3 (G-(i+1)) (c-i) rfl rfl) ?_)
 go_wp2;go_ret
 exact⟨rfl,rfl⟩
theorem ag3 {j: Nat} {v: aJ} (h:w.cell? ⟨b,j,ak⟩=au v):∃ t k,w.shape? b=au (t,k)/\k≠0:=by
 unfold World.cell? at h;unfold World.shape?
 split at h
 ·rename_i c t fz hb
  refine⟨t,c.size,by rw[hb],fun e=>?_⟩
  simp only[Option.isSome_none,Bool.false_eq_true,if_false] at h;rw[Array.getElem?_eq_none (by omega)] at h
  cases h
 ·cases h
theorem TQ (T:List Int) (k:Nat) (x:Int):(T.take k++x::T.drop k).map (aZ9 aA)=(T.map (aZ9 aA)).take k++ah aA x::(T.map (aZ9 aA)).drop k:=by simp[List.map_take,List.map_drop]
theorem au9 (T:List Int) (k:Nat) (x:Int) (hk:k<=T.length):(T.take k++x::T.drop k).length=T.length+1:=by simp;omega
theorem DR (b:Nat):∀ (vs:List aJ) (o:Nat) (w:aI),(w.setCells b o vs).drew=w.drew.setCells b o vs
 | [],_,_=>rfl
 | v::r,o,w=>by rw[World.setCells,World.setCells,DR b r];rfl
def aP6 (w:aI) (f:Fp) (n:Nat) (Tx:List Int) (e:Ending) (w':aI):Prop:=∃ a' c' f',e=aK (aj a' (n+1) c')/\eF.ow w' (gQ Tx) (aj a' (n+1) c') f'/\(∀ b,f' b->f b\/w.heap.size<=b)/\eU f w w'
theorem ins_any (a:Option ba5) (c k:Nat) (T:List Int) (x:Int) (f:Fp) (w:aI) (h:eF.ow w (gQ T) (aj a T.length c) f) (hk:k<=T.length) (hm:T.length<=100) :
  ba3 aZ8 183 #[aj a T.length c,ah aA (k:Int),aj (au ⟨w.heap.size,0,ak⟩) 1 1] (w.alloc (aH #[ah aA x] 2)) fun e w'=>aP6 w f T.length (T.take k++x::T.drop k) e w':=by
 have h':=h;obtain⟨a1,c1,G,e,ho,hf⟩:=jv.1 h'
 cases e
 have hba:=dX w (aH #[ah aA x] 2);have hxv:=Bx.new w 2 #[ah aA x];by_cases hkl:k=T.length
 ·obtain⟨a2,c2,e2,hA⟩:=pO x h (aY2 hm (by decide))
  cases e2
  have hle:=ho.le;have hT:T.take k++x::T.drop k=T++[x]:=by rw[hkl,aV2,List.drop_length]
  rw[hT];subst hkl;have hpl:=ho.plain;have hcm:c<=9223372036854775807:=by have:=hle.2;unfold ba2 at this;omega
  clear h h' ho hf hxv hba hT;generalize T++[x]=Tx at *;generalize T.length=n at *;generalize hWv:w.alloc (aH #[ah aA x] 2)=Wv at *
  cases a with
  | none =>
   go_enter Tryz.func183,Tryz.ntmps183
   go_wp2_with (at_builtin;refine fJ (by rfl) _ _ _ _ (by rfl) _ _ (by rfl) (by rfl) hA ⟨rfl,rfl,rfl,rfl⟩ ?_;rintro v1 w1 ⟨a1,e1,f1,rfl,q1,q2,q3⟩;have HQ:aG (eF.ow w1 (gQ Tx) (aj a1 (n+1) e1) f1/\(∀ b,f1 b->f b\/w.heap.size<=b)/\eU f w w1):=⟨q1,q2,q3⟩;clear q1 q2 q3 hA)
   go_ret
   exact⟨a1,e1,f1,rfl,HQ.out⟩
  | some ad =>
   go_enter Tryz.func183,Tryz.ntmps183
   go_wp2_with (at_builtin;refine fJ (by rfl) _ _ _ _ (by rfl) _ _ (by rfl) (by rfl) hA ⟨rfl,rfl,rfl,rfl⟩ ?_;rintro v1 w1 ⟨a1,e1,f1,rfl,q1,q2,q3⟩;have HQ:aG (eF.ow w1 (gQ Tx) (aj a1 (n+1) e1) f1/\(∀ b,f1 b->f b\/w.heap.size<=b)/\eU f w w1):=⟨q1,q2,q3⟩;clear q1 q2 q3 hA)
   all_goals (go_ret;exact⟨a1,e1,f1,rfl,HQ.out⟩)
 have aF3:k<T.length:=by omega
 rcases ho with ⟨h0,_⟩|⟨g,off,rfl,ho,rfl⟩
 ·omega
 have hcl:(T.map (aZ9 aA)).length=T.length:=aV7 _;have hgl:=ho.blk;have e1:(w.alloc (aH #[ah aA x] 2)).heap[g]?=w.heap[g]?:=hba.block g hgl;have ho1:jk (w.alloc (aH #[ah aA x] 2)) 1 g off T.length c (T.map (aZ9 aA)):=ho.of_block e1 (dJ hgl hba.size)
 have hcs:∀ j v,(T.map (aZ9 aA))[j]?=au v->(w.alloc (aH #[ah aA x] 2)).cell? ⟨g,off+j,ak⟩=au v:=fun j v hj=>by
  have hjl:j<T.length:=by
   rcases aY6 j T.length with h|h
   ·exact h
   ·rw[bK (by omega)] at hj;cases hj
  rw[ho1.cell j (by omega)];exact hj
 have h1c:∀ v∈T.map (aZ9 aA),v.oneCell'=aB:=fun v hv=>by
  obtain⟨y,_,rfl⟩:=List.mem_map.1 hv
  rfl
 have hvs:=hxv.at 0 (v:=ah aA x) rfl;have hle:=ho.le;have hmx:=ho.max;have hne:w.heap.size≠g:=by omega
 have hfg:∀ b,f b↔b=g:=fun b=>(hf b).trans ⟨fun h=>by cases h;rfl,fun h=>by rw[h]⟩
 have GZ:=au9 T k x hk;by_cases hroom:T.length+1<=c
 ·obtain⟨tB,kB,hsb,hkB⟩:=ag3 (hcs 0 _ (bC (by omega)))
  have hsa:(w.alloc (aH #[ah aA x] 2)).shape? w.heap.size=au (2,1):=by unfold World.shape?;rw[show (w.alloc (aH #[ah aA x] 2)).heap[w.heap.size]?=_ from hxv];rfl
  refine (ag1 g off T.length c k w.heap.size (T.map (aZ9 aA)) x _ aF3 hroom (by unfold ba2 at hmx;omega) hne hcl hcs (fun j hj=>ho1.some j (by omega)) (fun j hj=>ho1.free j (by omega)) hvs h1c 2 tB 1 kB hsa hsb hkB (hxv.f 0) (hxv.f 1)).mono ?_
  rintro e w' ⟨rfl,rfl⟩;obtain⟨k1,k2⟩:=ag0 (w.alloc (aH #[ah aA x] 2)).drew g off k c (T.map (aZ9 aA)) (ah aA x) (by omega) (fun j hj=>ho1.cell j (by omega)) (fun j hj=>ho1.some j (by omega)) (by omega)
  have hW:eU (fun b=>b=g) (w.alloc (aH #[ah aA x] 2)).drew (((w.alloc (aH #[ah aA x] 2)).drew.setCells g (off+(k+1)) ((T.map (aZ9 aA)).drop k)).setCells g (off+k) [ah aA x]):=(eU.setCells g _ _ _).trans (eU.setCells g _ _ _) (fun _ _ h=>h)
  have hbd:=hba.trans ((Same.drewN _ 1).below.mono hba.size);refine⟨au ⟨g,off,ak⟩,c,f,rfl, ?_,fun b hb=>.inl hb,((eU.of_below hbd).trans hW (fun b _ hb=>(hfg b).2 hb))⟩
  rw[<- GZ];refine jv.2 ⟨au ⟨g,off,ak⟩,c,au g,rfl,.inr ⟨g,off,rfl, ?_,rfl⟩,hf⟩;rw[GZ];refine⟨by rw[aV7,GZ];omega,hroom,hmx,dJ (dJ hgl hbd.size) hW.size,fun j hj=>?_,fun j hj=>k2 j (by omega),fun j hj=>?_⟩
  ·rw[TQ];exact k1 j (by omega)
  ·rw[oP,oP];exact ho1.free j (by omega)
 ·refine (ag2 g off T.length c k w.heap.size (T.map (aZ9 aA)) x _ aF3 hle (by omega) (by omega) hcl hcs hvs h1c).mono ?_
  rintro e w' ⟨rfl,rfl⟩;have hGn:T.length+1<=grownCap (w.alloc (aH #[ah aA x] 2)) (T.length+1) c 2:=grownCap_ge _ _ _ _;have hGm:grownCap (w.alloc (aH #[ah aA x] 2)) (T.length+1) c 2<=ba2:=grownCap_le_maxLen _ _ _ _ (by unfold ba2;omega)
  generalize grownCap (w.alloc (aH #[ah aA x] 2)) (T.length+1) c 2=GG at *;generalize hWv:w.alloc (aH #[ah aA x] 2)=Wv at *;generalize hROW:((T.map (aZ9 aA)).take k).toArray++dL (aZ9 aA 0).cells (T.length+1-k)++dL (aZ9 aA 0).cells (GG-(T.length+1))=ROW at *
  have hRs:ROW.size=GG:=by
   rw[<- hROW];simp[dL,Value.cells]
   omega
  have hR0:∀ j,j<k->ROW[j]?=(T.map (aZ9 aA))[j]?:=fun j hj=>by
   rw[<- hROW,Array.getElem?_append_left (by simp[dL,Value.cells];omega),Array.getElem?_append_left (by simp;omega)]
   simp[dG,hj]
  have hxN:Bx (Wv.alloc (aH ROW 2)).drew Wv.heap.size 2 ROW:=Bx.new Wv 2 ROW;obtain⟨k1,k2⟩:=aF2 (Wv.alloc (aH ROW 2)).drew Wv.heap.size 0 k GG (T.map (aZ9 aA)) (ah aA x) (by omega) (fun j hj=>by rw[aY7,hxN.cell j];exact hR0 j hj) (fun j hj=>by rw[aY7,hxN.cell j,Array.getElem?_eq_getElem (by omega)];rfl) (by omega)
  simp only[aY7] at k1 k2;have hW:eU (fun b=>b=Wv.heap.size) (Wv.alloc (aH ROW 2)).drew ((((Wv.alloc (aH ROW 2)).drew.setCells Wv.heap.size k [ah aA x]).drew).setCells Wv.heap.size (k+1) ((T.map (aZ9 aA)).drop k)):=((eU.setCells _ _ _ _).trans (eU.of_below (Same.drewN _ 1).below) (fun _ _ h=>h)).trans (eU.setCells _ _ _ _) (fun _ _ h=>h)
  have hb2:Below Wv.heap.size Wv (Wv.alloc (aH ROW 2)).drew:=(dX Wv _).trans ((Same.drewN _ 1).below.mono (dX Wv _).size);have hbd:Below w.heap.size w (Wv.alloc (aH ROW 2)).drew:=eP hba hb2;have hB9:=hW.below hbd hbd.size (fun b hb=>by rw[hb];exact hba.size)
  refine⟨au ⟨Wv.heap.size,0,ak⟩,GG,fun b=>b=Wv.heap.size,rfl, ?_,fun b hb=>.inr (by rw[hb];exact hba.size),eU.of_below hB9⟩
  rw[<- GZ];refine jv.2 ⟨au ⟨Wv.heap.size,0,ak⟩,GG,au Wv.heap.size,rfl,.inr ⟨Wv.heap.size,0,rfl, ?_,rfl⟩,fun b=>⟨fun h=>by rw[h],fun h=>by cases h;rfl⟩⟩
  rw[GZ];refine⟨by rw[aV7,GZ];omega,hGn,hGm,dJ hxN.lt hW.size,fun j hj=>?_,fun j hj=>?_,fun j hj=>?_⟩
  ·rw[TQ,aY7,<- DR];exact k1 j (by omega)
  ·rw[aY7,<- DR];exact k2 j (by omega)
  ·rw[oP]
   show (((Wv.alloc (aH ROW 2)).drew.setCells Wv.heap.size k [ah aA x]).frozen? _)=aC
   rw[oP];exact hxN.f _
theorem Nb:∀ {l:List Int} {x:Int},l.Pairwise (·<·)->x∈l->gY l x=l
 | y::l,x,h,hx=>by
  obtain⟨h1,h2⟩:=List.pairwise_cons.1 h;rw[gY];rcases aX5.1 hx with e|hx
  ·rw[if_neg (by omega),if_pos e.symm]
  ·rw[if_pos (h1 x hx),Nb h2 hx]
def pW (i:Nat) (r:Rw) (S:List Int) (k:Nat):Rw:={ r with wed:=aB,dQ:=kP i r.dQ (S.take k) }
theorem av1 {nn: Nat} {r: Rw} (hr:iR r nn) (hS:∀ x∈S,0<=x/\x<(nn:Int)) (k:Nat):(pW i r S k).dQ.Pairwise (·<·)/\(∀ x∈(pW i r S k).dQ,0<=x/\x<(nn:Int))/\(pW i r S k).dQ.length<=5:=by
 have h1:(pW i r S k).dQ.Pairwise (·<·):=DC (lK.1 hr.pq)
 have h2:∀ x∈(pW i r S k).dQ,0<=x/\x<(nn:Int):=fun x hx=>by
  rcases wK.1 hx with h|⟨h,_⟩
  ·exact hr.dQ x h
  ·exact hS x (bZ h)
 have h5:=hr.n5;exact⟨h1,h2,aY2 (Bv (k:=nn) h1 h2) h5.2⟩
theorem Yr {Y: aI} {a: Option ba5} (h:Vec X a S.length S) (hb:∀ b o,a=au ⟨b,o,ak⟩->S≠[]->Y.heap[b]?=X.heap[b]?):Vec Y a S.length S:=by
 obtain⟨h1,h2,h3⟩:=h;refine⟨h1,h2, ?_⟩;rcases h3 with h3|⟨b,o,e,h3⟩
 ·exact .inl h3
 ·by_cases hn:S=[]
  ·exact .inl (by rw[hn];rfl)
  ·exact .inr ⟨b,o,e,fun j hj=>(bT (hb b o e hn)).trans (h3 j hj)⟩
theorem av2 (B i n g off c nn:Nat) (r:Rw) (f:Fp) (S:List Int) (a:Option ba5) (sc:Nat) (X:aI) (h:iO X g (off+i*8) (jr r) f) (hBg:B≠g) (hfB:¬ f B) (c0:X.cell? ⟨B,0,ak⟩=au (ah aA (i:Int))) (c1:X.cell? ⟨B,1,ak⟩=au (aj (au ⟨g,off,ak⟩) n c)) (hi:i<n)
  (hv:Vec X a S.length S) (hvb:∀ b o,a=au ⟨b,o,ak⟩->S≠[]->¬ f b/\b≠g) (hr:iR r nn) (hS:∀ x∈S,0<=x/\x<(nn:Int)) (hSl:S.length<=100) :
  ba3 aZ8 169 #[aO (au ⟨B,0,ak⟩),aj a S.length sc] X fun e w'=>e=aK (.tuple #[])/\fH X w' g (off+i*8) (jr (pW i r S S.length)) f:=by
 have ru:=oK B i n g off c X c0 c1 hi;have HP:=dP h;have HV:=dP hv;have HVB:=dP hvb;have wW:=dP c0;have HW:aG (∀ k,(pW i r S k).dQ.Pairwise (·<·)/\(∀ x∈(pW i r S k).dQ,0<=x/\x<(nn:Int))/\(pW i r S k).dQ.length<=5):=fun k=>av1 hr hS k
 have H5:=dP hr.n5;have yR:=dP hS;have hBlt:=bG _ _ c0;clear h hv hvb c0 c1 hr hS;go_enter Tryz.func169,Tryz.ntmps169
 go_wp2_with fail
 refine ru.mono ?_;rintro e XA ⟨rfl,wz⟩;obtain⟨u4,f4,Yt,hz4,⟨rfl,hf4⟩,hs4,hn4,am5⟩:=(HP.out.below wz).at (j:=4) rfl;obtain⟨_,_,B4,_⟩:=am5 XA (.v (aF aB)) (aF aB) (fun _=>False) (eU.refl _ _) ⟨rfl,fun _ h=>h⟩ (fun b hb=>hb.elim)
 have HB4:=dP (B4.first wz HP.out.lt HP.out.flt)
 clear am5 B4 hs4 hn4 hf4 ru;go_upto_region 3 with fail
 generalize XA.setCell ⟨g,off+i*8+4,ak⟩ (aF aB)=W4 at *;clear Yt hz4 wz
 go_loopw [16] (fun v wr=>∃ k:Nat,k<=S.length/\v=ah aA (k:Int)/\fH X wr g (off+i*8) (jr (pW i r S k)) f) (fun v _=>S.length-(ba4 v).toNat)
 case atStart=>exact⟨0,aZ1 _,rfl,HB4.out⟩
 case round =>
  obtain⟨k,hk,rfl,hB⟩:=hrel;have HB:=dP hB;clear HB4;by_cases hlt:k<S.length
  ·have hne:S≠[]:=fun e=>by rw[e] at hlt;simp at hlt
   have hvw := Yr HV.out (fun b o e hn => hB.wrt.block b (by
    rcases HV.out.2.2 with h|⟨b',o',e',h⟩
    ·omega
    ·rw[e'] at e;cases e;exact bG _ _ (h k hlt)) (fun kk=>by have:=HVB.out b o e hn;rcases kk with kk|kk;exact this.1 kk;exact this.2 kk))
   rcases hvw.2.2 with h0|⟨sb,so,rfl,hsc⟩
   ·omega
   have hck:=hsc k hlt;have b0:wr.cell? ⟨B,0,ak⟩=au (ah aA (i:Int)):=(bT (hB.wrt.block B hBlt (fun kk=>by rcases kk with kk|kk;exact hfB kk;exact hBg kk))).trans wW.out
   obtain⟨gI,hp1,hf1,hgo⟩:=hB.next;obtain⟨u,f3,hu,hz,how,hsub,hn3,hset⟩:=hp1.at (j:=3) rfl;have how':=how;obtain⟨sa,sac,_,rfl,_⟩:=jv.1 how';obtain⟨w1,w2,w3⟩:=HW.out k;have h5:=H5.out;have hfit:Fits (pW i r S k).dQ:=fun x hx=>by have:=w2 x hx;omega
   have hBs:=aF1 sa sac (pW i r S k).dQ (el S k) wr (mV how' hfit) (by omega) w1
   have hT:=Gz (id:=i) (s:=r.dQ) hlt;have k0:(0:Int)<=k:=by omega
   have k1:(k:Int)<S.length:=by omega
   have Ci:aG (el S k=(i:Int)->pW i r S (k+1)=pW i r S k):=fun e=>by rw[pW,hT,if_pos e];rfl
   have xq:aG (el S k≠(i:Int)->el S k∈(pW i r S k).dQ->pW i r S (k+1)=pW i r S k):=fun e hm=>by
    rw[pW,hT,if_neg e,show gY (kP i r.dQ (S.take k)) (el S k)=kP i r.dQ (S.take k) from Nb w1 hm]
    rfl
   have HN3:aG (el S k≠(i:Int)->pW i r S (k+1)={ pW i r S k with dQ:=gY (pW i r S k).dQ (el S k) }):=fun e=>by rw[pW,hT,if_neg e];rfl
   have hx0:0<=el S k/\el S k<5:=by have:=yR.out _ (kM hlt);omega
   have KT:aG (∀ (w1:aI) (c':eF) (u':aJ) (f':Fp),eU f3 wr w1->eF.ow w1 c' u' f'->(∀ b,f' b->f3 b\/wr.heap.size<=b)->w1.cell? ⟨g,off+i*8+3,ak⟩=au (aj sa (pW i r S k).dQ.length sac)/\w1.frozen? ⟨g,off+i*8+3,ak⟩=aC/\fH X (w1.setCell ⟨g,off+i*8+3,ak⟩ u') g (off+i*8) ((jr (pW i r S k)).set 3 c') f):=fun w1 c' u' f' q1 q2 q3=>by
    obtain⟨p1,p2,p3,_⟩:=hset w1 c' u' f' q1 q2 q3;exact⟨p1,p2,hgo _ _ (by simp) p3⟩
   have qp:=dP how';clear hvw hsc hB hp1 hf1 hgo hset how how' hsub hn3 hfit hT w1 w2;generalize hwd:pW i r S k=rk at *;generalize el S k=x at *;by_cases hin:x∈rk.dQ
   ·have HE:aG (pW i r S (k+1)=rk):=by
     by_cases e:x=(i:Int)
     ·exact Ci.out e
     ·exact xq.out e hin
    rw[decide_eq_true hin] at hBs;clear hin;go_wp2_with (go_at_call 182;refine hBs.mono ?_;rintro e w' ⟨kk,hkk,rfl,hw',_⟩;rw[hw'];clear hw')
    go_roundw
    case rel=>exact⟨k+1,by omega,by go_num,by rw[HE.out];exact HB.out⟩
    case measure=>simp[ba4];omega
   rw[decide_eq_false hin] at hBs;by_cases e:x=(i:Int)
   ·have HE:aG (pW i r S (k+1)=rk):=Ci.out e
    have e':(x != (i:Int))=aC:=by simp[e]
    clear hin e;go_wp2_with (go_at_call 182;refine hBs.mono ?_;rintro e w' ⟨kk,hkk,rfl,hw',_⟩;rw[hw'];clear hw')
    go_roundw
    case rel=>exact⟨k+1,by omega,by go_num,by rw[HE.out];exact HB.out⟩
    case measure=>simp[ba4];omega
   have HE:=dP (HN3.out e);have e':(x != (i:Int))=aB:=by simp[e]
   have Nc:=dP hin;have HM:aG (rk.dQ.length<=100):=by rw[aG];omega
   clear hin e;go_upto_region 7 with (go_at_call 182;refine hBs.mono ?_;rintro e w' ⟨kk,hkk,rfl,hw',hput⟩;rw[hw'];clear hw')
   have hpt:=hput Nc.out;have hIn:=ins_any sa sac kk rk.dQ x f3 wr qp.out hkk HM.out;rw[hpt] at hIn;clear hput hpt hBs;go_wp2_with (go_at_call 183;refine hIn.mono ?_;rintro e w9 ⟨a9,c9,f9,rfl,o9,p9,q9⟩;obtain⟨z1,z2,hB9⟩:=KT.out w9 (gQ (gY rk.dQ x)) (aj a9 (rk.dQ.length+1) c9) f9 q9 o9 p9;have FD:aG (fH X (w9.setCell ⟨g,off+i*8+3,ak⟩ (aj a9 (rk.dQ.length+1) c9)) g (off+i*8) ((jr rk).set 3 (gQ (gY rk.dQ x))) f):=hB9;clear o9 p9 q9 hB9 hIn hu hz)
   go_roundw
   case rel=>exact⟨k+1,by omega,by go_num,by rw[HE.out];exact FD.out⟩
   case measure=>simp[ba4];omega
  ·have k1:¬ ((k:Int)<S.length):=by omega
   obtain rfl:k=S.length:=by omega
   clear hB;go_wp2
   first|go_end0|go_ret
   exact⟨rfl,HB.out⟩
theorem Iw.own {m: Mb} {g: Nat} (h:Iw w X B m fp g off c) (hi:i<m.rows.length):∃ f,iO X g (off+i*8) (jr (dO m.rows i)) f/\B≠g/\¬ f B/\(∀ b,f b->b<X.heap.size)/\g<X.heap.size/\∀ (X1 Y:aI) (r:Rw),Below X.heap.size X X1->fH X1 Y g (off+i*8) (jr r) f->Iw w Y B { m with rows:=m.rows.set i r } fp g off c:=by
 obtain⟨gI,hp,hf1,hgo⟩:=h.iw.next;obtain⟨g',off',c',f,h1,hgB,hfg,hfs,hpl,hput⟩:=hp.el (F:=jr) jW (by omega) (j:=1) (L:=m.rows) rfl (iZ hi)
 have e:=aV4 (h1.symm.trans h.rws)
 cases e
 have hfB:¬ f B:=fun hb=>hp.nB (hfs B hb)
 refine⟨f,hpl,fun e=>hgB e.symm,hfB,hpl.flt,hpl.lt,fun X1 Y r hb hB=>?_⟩
 have hB1:=hB.first hb hpl.lt hpl.flt
 refine⟨hgo Y _ rfl (hput Y r hB1), ?_⟩;rw[bT (hB1.wrt.block B hp.lt (fun kk=>by rcases kk with kk|kk;exact hfB kk;exact hgB kk.symm)),h.rws]
 simp
def I64 (x:Int):Prop:=-9223372036854775808<=x/\x<=9223372036854775807
def Yu:Prop:=∀ (a:Option ba5) (len cap:Nat) (cs:List Int) (w:aI),Vec w a len cs->len<=cap->cap<=ba2->ba3 aZ8 58 #[aj a len cap] w fun e w'=>∃ Z,vZ cs Z/\Hr w w' e Z
theorem Yv (h:lX cs=aB):0<=rY cs/\rY cs<=800000/\vS cs (rY cs).toNat:=by
 obtain⟨hok,hall⟩:=uf h;have h18:=mJ hok;have hc0:=hall 0 (by omega)
 have m0:0<=(cs.length:Int)*el cs 0:=aW9 (by omega) hc0.1
 have m1:(cs.length:Int)*el cs 0<=8*100000:=Int.mul_le_mul (by omega) hc0.2 hc0.1 (by omega)
 have e:rY cs=dV cs cs.length ((cs.length:Int)*el cs 0):=by rw[rY,if_pos h]
 have hb:=Oc hall (by omega) (b:=(cs.length:Int)*el cs 0) ⟨m0,by omega⟩ cs.length (aZ0 _)
 rw[e];exact⟨hb.1,hb.2,VW h18.1 h18.2 hall⟩
theorem Yw {r: Nat} (h:lX cs=aB) (hr:vS cs r):rY cs=(r:Int):=by
 obtain⟨h0,_,h2⟩:=Yv h;have:=h2.unique hr;omega
theorem xX (n last:Int) (w:aI):ba3 aZ8 87 #[ah aA n,ah aA last] w fun e w'=>e=aK (aF (inB n 0 last))/\w'=w:=by
 by_cases h0:(0:Int)<=n
 ·have H:aG (inB n 0 last=decide (n<=last)):=by rw[aG,inB];simp[h0]
  go_enter Tryz.func87,Tryz.ntmps87
  go_wp2;go_ret
  exact⟨dZ (by rw[H.out]),rfl⟩
 ·have H:aG (inB n 0 last=aC):=by rw[aG,inB];simp[h0]
  go_enter Tryz.func87,Tryz.ntmps87
  go_wp2;go_ret
  exact⟨dZ (by rw[H.out]),rfl⟩
theorem sH (n:Int) (w:aI):ba3 aZ8 162 #[ah aA n] w fun e w'=>e=aK (aF (inB n 1 8))/\w'=w:=by
 by_cases h0:(1:Int)<=n
 ·have H:aG (inB n 1 8=decide (n<=8)):=by rw[aG,inB];simp[h0]
  go_enter Tryz.func162,Tryz.ntmps162
  go_wp2;go_ret
  exact⟨dZ (by rw[H.out]),rfl⟩
 ·have H:aG (inB n 1 8=aC):=by rw[aG,inB];simp[h0]
  go_enter Tryz.func162,Tryz.ntmps162
  go_wp2;go_ret
  exact⟨dZ (by rw[H.out]),rfl⟩
theorem DT (n q:Int) (w:aI):ba3 aZ8 128 #[ah aA n,ah aA q] w fun e w'=>e=aK (aF (vk n q))/\w'=w:=by
 cases e0:inB n 1 8 with
 | false =>
  have H:aG (vk n q=aC):=by rw[aG,vk,e0];rfl
  go_enter Tryz.func128,Tryz.ntmps128
  go_wp2_with (first|(go_at_call 162;refine (sH _ _).mono ?_;rintro e w' ⟨rfl,rfl⟩)|(go_at_call 87;refine (xX _ _ _).mono ?_;rintro e w' ⟨rfl,rfl⟩))
  go_ret
  exact⟨dZ (by rw[H.out]),rfl⟩
 | true =>
  have H:aG (vk n q=inB q 0 800000):=by rw[aG,vk,e0];rfl
  go_enter Tryz.func128,Tryz.ntmps128
  go_wp2_with (first|(go_at_call 162;refine (sH _ _).mono ?_;rintro e w' ⟨rfl,rfl⟩)|(go_at_call 87;refine (xX _ _ _).mono ?_;rintro e w' ⟨rfl,rfl⟩))
  go_ret
  exact⟨dZ (by rw[H.out]),rfl⟩
theorem ag4 (n s i:Int) (hn:I64 n) (w:aI):ba3 aZ8 136 #[ah aA n,ah aA s,ah aA i] w fun e w'=>e=aK (ah aA (zU n s i))/\w'=w:=by
 unfold I64 at hn
 cases e0:inB n 1 8 with
 | false =>
  have HZ:aG (zU n s i=-1):=by rw[aG,zU,seqB,e0];rfl
  go_enter Tryz.func136,Tryz.ntmps136
  go_wp2_with (first|(go_at_call 162;refine (sH _ _).mono ?_;rintro e w' ⟨rfl,rfl⟩)|(go_at_call 87;refine (xX _ _ _).mono ?_;rintro e w' ⟨rfl,rfl⟩))
  go_ret
  exact⟨lJ (by rw[HZ.out]),rfl⟩
 | true =>
  have hk:=iQ.1 e0
  cases e1:inB s 0 (n-1) with
  | false =>
   have HZ:aG (zU n s i=-1):=by rw[aG,zU,seqB,e0,e1];rfl
   go_enter Tryz.func136,Tryz.ntmps136
   go_wp2_with (first|(go_at_call 162;refine (sH _ _).mono ?_;rintro e w' ⟨rfl,rfl⟩)|(go_at_call 87;refine (xX _ _ _).mono ?_;rintro e w' ⟨rfl,rfl⟩))
   go_ret
   exact⟨lJ (by rw[HZ.out]),rfl⟩
  | true =>
   have hs:=iQ.1 e1
   cases e2:inB i 0 100000 with
   | false =>
    have HZ:aG (zU n s i=-1):=by rw[aG,zU,seqB,e0,e1,e2];rfl
    go_enter Tryz.func136,Tryz.ntmps136
    go_wp2_with (first|(go_at_call 162;refine (sH _ _).mono ?_;rintro e w' ⟨rfl,rfl⟩)|(go_at_call 87;refine (xX _ _ _).mono ?_;rintro e w' ⟨rfl,rfl⟩))
    go_ret
    exact⟨lJ (by rw[HZ.out]),rfl⟩
   | true =>
    have hi:=iQ.1 e2;have HZ:aG (zU n s i=n*i+s):=by rw[aG,zU,seqB,e0,e1,e2];rfl
    have m0:0<=n*i:=aW9 (by omega) hi.1
    have m1:n*i<=8*100000:=Int.mul_le_mul hk.2 hi.2 hi.1 (by omega)
    generalize hm:n*i=m at *;go_enter Tryz.func136,Tryz.ntmps136
    go_wp2_with (first|(go_at_call 162;refine (sH _ _).mono ?_;rintro e w' ⟨rfl,rfl⟩)|(go_at_call 87;refine (xX _ _ _).mono ?_;rintro e w' ⟨rfl,rfl⟩))
    go_ret
    exact⟨lJ (by rw[HZ.out]),rfl⟩
theorem Qy (n q:Int) (w:aI):ba3 aZ8 91 #[ah aA n,ah aA q] w fun e w'=>e=aK (ah aA (Hz n q))/\w'=w:=by
 cases e0:vk n q with
 | false =>
  have HZ:aG (Hz n q=-1):=by rw[aG,Hz,e0];rfl
  go_enter Tryz.func91,Tryz.ntmps91
  go_wp2_with (go_at_call 128;refine (DT _ _ _).mono ?_;rintro e w' ⟨rfl,rfl⟩)
  go_ret
  exact⟨lJ (by rw[HZ.out]),rfl⟩
 | true =>
  have hk:=EF.1 e0;have HZ:aG (Hz n q=q%n):=by rw[aG,Hz,e0];rfl
  have hne:(n==0)=aC:=by simp;omega
  have ht:q.tmod n=q%n:=Int.tmod_eq_emod_of_nonneg hk.2.1;have b0:0<=q%n:=Int.emod_nonneg _ (by omega)
  have b1:q%n<n:=Int.emod_lt_of_pos _ (by omega)
  go_enter Tryz.func91,Tryz.ntmps91
  go_wp2_with (go_at_call 128;refine (DT _ _ _).mono ?_;rintro e w' ⟨rfl,rfl⟩)
  go_ret
  exact⟨lJ (by rw[HZ.out]),rfl⟩
theorem Qz (n q:Int) (w:aI):ba3 aZ8 92 #[ah aA n,ah aA q] w fun e w'=>e=aK (ah aA (H6 n q))/\w'=w:=by
 cases e0:vk n q with
 | false =>
  have HZ:aG (H6 n q=-1):=by rw[aG,H6,e0];rfl
  go_enter Tryz.func92,Tryz.ntmps92
  go_wp2_with (go_at_call 128;refine (DT _ _ _).mono ?_;rintro e w' ⟨rfl,rfl⟩)
  go_ret
  exact⟨lJ (by rw[HZ.out]),rfl⟩
 | true =>
  have hk:=EF.1 e0;have HZ:aG (H6 n q=q/n):=by rw[aG,H6,e0];rfl
  have hne:(n==0)=aC:=by simp;omega
  have ht:q.tdiv n=q/n:=Int.tdiv_eq_ediv_of_nonneg hk.2.1;have b0:0<=q/n:=Int.ediv_nonneg hk.2.1 (by omega)
  have b1:q/n<=q:=Int.ediv_le_self n hk.2.1;go_enter Tryz.func92,Tryz.ntmps92
  go_wp2_with (go_at_call 128;refine (DT _ _ _).mono ?_;rintro e w' ⟨rfl,rfl⟩)
  go_ret
  exact⟨lJ (by rw[HZ.out]),rfl⟩
def gr (cs:List Int):Int:=hiL (el cs 0) cs.tail
theorem aF4 {x: Int}:∀ {xs:List Int},hiL x xs<=m↔x<=m/\∀ y∈xs,y<=m:=by
 intro xs
 induction xs generalizing x with
 | nil=>simp[hiL]
 | cons y ys ih =>
  show hiL (max x y) ys<=m↔_
  rw[ih];simp only[aX5]
  constructor
  ·rintro⟨h1,h2⟩
   exact⟨by omega,fun z hz=>by rcases hz with rfl|hz;omega;exact h2 z hz⟩
  ·rintro⟨h1,h2⟩
   exact⟨by have:=h2 y (.inl rfl);omega,fun z hz=>h2 z (.inr hz)⟩
theorem NS (h1:1<=cs.length):gr cs<=m↔∀ i,i<cs.length->el cs i<=m:=by
 cases cs with
 | nil=>simp at h1
 | cons c ds =>
  have e:gr (c::ds)=hiL c ds:=rfl;rw[e,aF4]
  constructor
  ·rintro⟨a,b⟩ i hi
   rw[uq hi];have:=aU7 hi;rcases aX5.1 this with h|h
   ·rw[h];exact a
   ·exact b _ h
  ·intro h
   refine⟨h 0 (by simp),fun y hy=>?_⟩
   obtain⟨i,hi,rfl⟩:=List.getElem_of_mem hy;have:=h (i+1) (by simp;omega)
   rw[uq (by simp;omega)] at this
   simpa using this
theorem am6 (hi:i<cs.length):el cs i<=gr cs:=(NS (by omega)).1 (Int.le_refl _) i hi
theorem av3 (h:okB cs=aB):lX cs=decide (gr cs<=100000):=by
 have h1:=(mJ h).1;rw[Bool.eq_iff_iff,decide_eq_true_eq,NS h1];exact⟨fun k=>fun i hi=>((uf k).2 i hi).2,fun k=>Ky h k⟩
theorem NJ (a:Option ba5) (len cap:Nat) (cs:List Int) (w:aI) (hv:Vec w a len cs) (hcap:len<=cap) (hm:cap<=ba2) :
  ba3 aZ8 101 #[aj a len cap] w fun e w'=>e=aK (aF (lX cs))/\∃ n,w'=w.drewN n:=by
 have hV:=Ux a len cap cs w hv hcap hm
 cases hb:okB cs with
 | false =>
  rw[hb] at hV;have HZ:aG (lX cs=aC):=by rw[aG,lX,hb];rfl
  clear hb;go_enter Tryz.func101,Tryz.ntmps101
  go_wp2_with (go_at_call 132;refine hV.mono ?_;rintro e w' ⟨rfl,n1,rfl⟩)
  go_ret
  exact⟨dZ (by rw[HZ.out]),_,rfl⟩
 | true =>
  rw[hb] at hV;have HZ:=dP (av3 hb);have h18:=mJ hb;clear hb;obtain⟨hlen,hf,hcs⟩:=hv
  have hG:aG (∀ n,ba3 aZ8 131 #[aj a len cap] (w.drewN n) fun e w'=>e=aK (ah aA (gr cs))/\∃ m,w'=(w.drewN n).drewN m):=by
   intro n;rcases hcs with h0|⟨b,off,rfl,hc⟩
   ·omega
   ·exact rO b off len cap cs _ hlen hf (fun k hk=>by rw[World.cell?_drewN];exact hc k hk) (by omega) hcap hm
  have HL:=dP hlen;clear hlen hcs hf h18;generalize gr cs=G at *;go_enter Tryz.func101,Tryz.ntmps101
  go_wp2_with (first|(go_at_call 132;refine hV.mono ?_;rintro e w' ⟨rfl,n1,rfl⟩)|(go_at_call 131;refine (hG.out _).mono ?_;rintro e w' ⟨rfl,n2,rfl⟩))
  go_ret
  exact⟨dZ (by rw[HZ.out]),_,rfl⟩
section
theorem TR {q: Nat} (hn:1<=n/\n<=5) (hq:q<=60):Hz (n:Int) (q:Int)=((q%n:Nat):Int)/\H6 (n:Int) (q:Int)=((q/n:Nat):Int):=by
 have ht:vk (n:Int) (q:Int)=aB:=EF.2 (by omega)
 unfold Hz H6;rw[ht];exact⟨by simp,by simp⟩
attribute [local irreducible] sv
theorem av4 (A:Ma) (m:Mb) (i n q:Nat) (w:aI) (hv:ug w A m) (ok:iP m i n) (hq:q<=60) :
  ba3 aZ8 49 #[iL A m,ah aA (q:Int)] w fun e w'=>((hadB m.rows n (q:Int)=aB/\e=aK (aN (sv (nH m.rows n (q:Int)))))\/(hadB m.rows n (q:Int)=aC/\Gu e))/\Below w.heap.size w w':=by
 have fU:=iq;have hba:=dX w (aH #[ah aA m.id,ah aA m.n,aj A.ra m.rows.length A.rc,aj A.sa m.dR.length A.sc,aF m.done] 47);have hx:=Bx.new w 47 #[ah aA m.id,ah aA m.n,aj A.ra m.rows.length A.rc,aj A.sa m.dR.length A.sc,aF m.done];have hv1:=hv.below hba;unfold iL ig;generalize rV:w.alloc (aH #[ah aA m.id,ah aA m.n,aj A.ra m.rows.length A.rc,aj A.sa m.dR.length A.sc,aF m.done] 47)=W1 at *;have hw0:w.alloc (aH #[ah aA m.id,ah aA m.n,aj A.ra m.rows.length A.rc,aj A.sa m.dR.length A.sc,aF m.done] 47)=W1:=rV;have HB:=dP hba;have jy:=ok.n5;obtain⟨k,hk⟩:∃ k,k=q%n:=⟨_,rfl⟩;have hkn:k<n:=by rw[hk];exact Nat.mod_lt _ (by omega)
 have hkl:k<m.rows.length:=by rw[ok.len];exact hkn
 obtain⟨d,hd⟩:∃ d,d=q/n:=⟨_,rfl⟩;have hdq:d<=60:=by rw[hd];exact aY2 (Nat.div_le_self _ _) hq
 obtain⟨e1,e2⟩:=TR jy hq;have hS:∀ qq:Bk W1,ba3 aZ8 91 #[ah aA (n:Int),ah aA (q:Int)] qq.w fun e w'=>e=aK (ah aA (k:Int))/\Below qq.w.heap.size qq.w w':=fun qq=>(Qy (n:Int) (q:Int) qq.w).mono (fun e w' h=>⟨by rw[h.1,e1,hk],by rw[h.2];exact aZ5 _ _⟩)
 have hI:∀ qq:Bk W1,ba3 aZ8 92 #[ah aA (n:Int),ah aA (q:Int)] qq.w fun e w'=>e=aK (ah aA (d:Int))/\Below qq.w.heap.size qq.w w':=fun qq=>(Qz (n:Int) (q:Int) qq.w).mono (fun e w' h=>⟨by rw[h.1,e2,hd],by rw[h.2];exact aZ5 _ _⟩)
 have HH:aG (hadB m.rows n (q:Int)=decide (d<(dO m.rows k).txt.length)):=by rw[aG,hadB,hk,hd];rfl
 have HX:aG (nH m.rows n (q:Int)=(dO m.rows k).txt.getD d []):=by rw[aG,nH,hk,hd];rfl
 obtain⟨g,off,Ak,hra,⟨⟨d0,d1,d2,d3⟩,d4,d5,d6,d7⟩,nD⟩:=hv1.row hkl;have hr:=ok.ok k hkn;have Tc:aG (∀ X,Below W1.heap.size W1 X->xg X Ak.ta (dO m.rows k).txt):=fun X hX=>(nD.below hX).txt.RP
 have rU:aG (∀ j,j<(dO m.rows k).txt.length->((dO m.rows k).txt.getD j []).length<=1048576):=fun j hj=>aY2 (hr.ts _ (by rw[List.getD_eq_getElem?_getD,bC hj];exact aU7 hj)) (by decide)
 have htl:=hr.tl;obtain⟨c0,c1,c2,c3,c4⟩:=Bx.r5 hx;rw[hra] at c2;rw[ok.hn] at c1;have T:∀ {x v},W1.cell? x=au v->∀ q:Bk W1,q.w.cell? x=au v:=fun h q=>fM q.h h
 have y1:=T c1;have y2:=T c2;have z1:=T d1;have k0:(0:Int)<=k:=by omega
 have k1:(k:Int)<m.rows.length:=by omega
 clear hra hv hba hx hv1 rV e1 e2 c0 c1 c2 c3 c4 d0 d1 d2 d3 d4 d5 d6 d7 nD T hk hd hr;generalize dO m.rows k=r at *;have HRR:=dP trivial;go_enter Tryz.func49,Tryz.ntmps49
 go_wp2_with fail
 clear hw0;refine jf ?_;repeat (go_big_quiet_step ((first|(go_at_call 91;exact eY _ (hS _))|(go_at_call 92;exact eY _ (hI _))|rfl)))
 refine aZ2 (iI fun wE eH=>?_)
 have HB1:=dP (eP HB.out eH);have hTx:=Tc.out wE eH;clear hS hI y1 y2 z1 eH Tc;by_cases hlt:d<r.txt.length
 ·have HZ:aG (hadB m.rows n (q:Int)=aB):=by rw[aG,HH.out,decide_eq_true hlt]
  rcases hTx with h0|⟨tb,tq,hta,htc⟩
  ·omega
  have hck:=htc d hlt;have l1:(d:Int)<r.txt.length:=by omega
  have l0:(0:Int)<=d:=by omega
  have hC:=clone_any (r.txt.getD d []) wE (rU.out d hlt);clear htc;rw[hta];have lM:=dP HX.out;generalize r.txt.getD d []=t at *;go_wp2_with (first|(go_at_call 86;refine fV (vF _) ?_)|(go_at_call 93;refine hC.mono ?_;rintro e w2 ⟨rfl,hb2⟩;have HB2:aG (Below w.heap.size w w2):=eP HB1.out hb2;clear hb2))
  go_ret
  exact⟨.inl ⟨HZ.out,by rw[lM.out];rfl⟩,HB2.out⟩
 ·have HZ:aG (hadB m.rows n (q:Int)=aC):=by rw[aG,HH.out,decide_eq_false hlt]
  have l1:¬ ((d:Int)<r.txt.length):=by omega
  go_wp2_with (go_at_call 86;refine (oZ _).mono ?_;rintro e w' ⟨⟨T,v,rfl⟩,hw'⟩;rw[hw'];clear hw')
  exact⟨rfl,.inr ⟨HZ.out,_,_,rfl⟩,HB1.out⟩
def VoR (m:Mb) (w0:aI) (b1 b2:Nat) (e:Ending) (w':aI):Prop:=(gZ m=aB/\m.dR.all (hadB m.rows m.k)=aB/\e=aK (.tuple #[])/\∃ a c f,w'.cell? ⟨b1,0,ak⟩=au (aj a (m.dR.map (nH m.rows m.k)).length c)/\eF.ow w' (ny (m.dR.map (nH m.rows m.k))) (aj a (m.dR.map (nH m.rows m.k)).length c) f/\∀ b,f b->w0.heap.size<=b/\b≠b1/\b≠b2)\/(¬ (gZ m=aB/\m.dR.all (hadB m.rows m.k)=aB)/\Gu e)
theorem ag5 (A:Ma) (m:Mb) (b0 b1 b2:Nat) (a0:Option ba5) (c0:Nat) (f0:Fp) (w0 X:aI) (hv:ug w0 A m) (hX:Below w0.heap.size w0 X) (h0:Bx X b0 47 #[ah aA m.id,ah aA m.n,aj A.ra m.rows.length A.rc,aj A.sa m.dR.length A.sc,aF m.done]) (h1:Bx X b1 42 #[aj a0 0 c0]) (hO:eF.ow X (ny []) (aj a0 0 c0) f0) (hf:∀ b,f0 b->w0.heap.size<=b/\b≠b1/\b≠b2) (hb:w0.heap.size<=b1) (hne:b0≠b1) (hf0:¬ f0 b0) (h2:b2<X.heap.size) :
  ba3 aZ8 47 #[aO (au ⟨b0,0,ak⟩),aO (au ⟨b1,0,ak⟩)] X fun e w'=>VoR m w0 b1 b2 e w'/\eU (fun x=>x=b1\/f0 x) X w':=by
 have fU:=iq;have JD:=Tj A m X (hv.below hX);have HX0:=dP hX;have HV:=dP hv;have H0:=dP h0;have H1:=dP h1;have HO:=dP hO;obtain⟨d0,d1,d2,d3,d4⟩:=Bx.r5 h0;have aS7:=h1.lt;have aS8:=h0.lt;unfold iL ig at JD;clear hv hX h0 h1 hO;by_cases hok:gZ m=aB
 case neg =>
  have HN:aG (¬ (gZ m=aB/\m.dR.all (hadB m.rows m.k)=aB)):=fun h=>hok h.1
  rw[Bool.eq_false_iff.2 hok] at JD;clear hok;go_enter Tryz.func47,Tryz.ntmps47
  go_wp2_with fail
  refine JD.mono ?_;rintro e w1 ⟨(⟨h,_⟩|⟨_,T,v,rfl⟩),hb1⟩
  ·cases h
  ·exact⟨rfl,.inr ⟨HN.out,_,_,rfl⟩,eU.of_below hb1⟩
 obtain⟨i,n,ok⟩:=lH.1 hok;have iE:=dP hok;have HKn:=dP ok.k;rw[hok] at JD;have hsl:=ok.sl;clear hok;go_enter Tryz.func47,Tryz.ntmps47
 go_wp2_with fail
 refine JD.mono ?_;rintro e w1 ⟨(⟨_,rfl⟩|⟨h,_⟩),hbw⟩
 case inr=>cases h
 have HW1:aG (eU (fun x=>x=b1\/f0 x) X w1):=eU.of_below hbw
 have HB1:aG (Below w0.heap.size w0 w1):=eP HX0.out hbw;have Na:aG (Bx w1 b0 47 #[ah aA m.id,ah aA m.n,aj A.ra m.rows.length A.rc,aj A.sa m.dR.length A.sc,aF m.done]):=H0.out.below hbw;have Ls:aG (Bx w1 b1 42 #[aj a0 0 c0]):=H1.out.below hbw;have HEO:aG (eF.ow w1 (ny []) (aj a0 0 c0) f0):=eF.gK HO.out hbw;have hbs:=hbw.size;clear d0 d1 d2 d3 d4 JD hbw H0 H1 HO;obtain⟨d0,d1,d2,d3,d4⟩:=Bx.r5 Na.out;go_wp2_with fail
 clear d0 d1 d2 d3 d4
 go_loopw [9] (fun v wr=>∃ (k:Nat) (a:Option ba5) (c:Nat) (Z:List (List UInt8)) (f:Fp),k<=m.dR.length/\v=ah aA (k:Int)/\aG (Z=(m.dR.take k).map (nH m.rows n))/\aG (∀ j,j<k->hadB m.rows n (el m.dR j)=aB)/\Bx wr b0 47 #[ah aA m.id,ah aA m.n,aj A.ra m.rows.length A.rc,aj A.sa m.dR.length A.sc,aF m.done]/\Bx wr b1 42 #[aj a Z.length c]/\eF.ow wr (ny Z) (aj a Z.length c) f/\(∀ b,f b->(w0.heap.size<=b/\b≠b1/\b≠b2/\b≠b0)/\(f0 b\/X.heap.size<=b))/\eU (fun x=>x=b1\/f0 x) X wr/\Below w0.heap.size w0 wr) (fun v _=>m.dR.length-(ba4 v).toNat)
 case atStart=>exact⟨0,a0,c0,[],f0,aZ1 _,rfl,rfl,(fun j hj=>absurd hj (aW3 _)),Na.out,Ls.out,HEO.out,fun b hb=>⟨⟨(hf b hb).1,(hf b hb).2.1,(hf b hb).2.2,fun e=>hf0 (e ▸ hb)⟩,.inl hb⟩,HW1.out,HB1.out⟩
 case round =>
  obtain⟨k,a,c,Z,f,hk,rfl,hZ,ag6,hx0,hx1,hO,Ep,hW,hB⟩:=hrel;have HY0:=dP hx0;have zn:=dP hx1;have HO:=dP hO;have HW:=dP hW;have HB:=dP hB;clear HW1 HB1 Na Ls HEO;by_cases hlt:k<m.dR.length
  ·have Az:=(HV.out.below hB).MP.dR
   rcases Az.2.2 with h0|⟨sb,so,hsa,hsc⟩
   ·omega
   have hck:=hsc k hlt;have hel:=ok.elem (kM hlt);obtain⟨q,hq⟩:∃ q:Nat,el m.dR k=(q:Int):=⟨(el m.dR k).toNat,by omega⟩
   rw[hq] at hck;have hT:=av4 A m i n q wr.drew ((HV.out.below hB).below (Same.drewN wr 1).below) ok (by omega)
   have HZ1:aG ((m.dR.take (k+1)).map (nH m.rows n)=Z++[nH m.rows n (q:Int)]):=by
    rw[aG,hZ.out,<- hq];exact ab5 (by rw[bC hlt];simp[el,hlt])
   have HA1:aG (hadB m.rows n (q:Int)=aB->∀ j,j<k+1->hadB m.rows n (el m.dR j)=aB):=fun h j hj=>by
    by_cases e:j=k
    ·rw[e,hq];exact h
    ·exact ag6.out j (by omega)
   have jY:aG (hadB m.rows n (q:Int)=aC->¬ (gZ m=aB/\m.dR.all (hadB m.rows m.k)=aB)):=fun h hh=>by
    have:=aU3.1 hh.2 _ (kM hlt);rw[HKn.out,hq,h] at this
    cases this
   have HZl:aG (Z.length<=1000000):=aY2 (by rw[hZ.out,aV7,aU5];omega:Z.length<=100) (by decide)
   have k0:(0:Int)<=k:=by omega
   have k1:(k:Int)<m.dR.length:=by omega
   have hbd:=(Same.drewN wr 1).below
   have KS:∀ X,Below wr.heap.size wr X->X.cell? ⟨b1,0,ak⟩=au (aj a Z.length c)/\X.cell? ⟨b0,0,ak⟩=au (ah aA m.id)/\X.cell? ⟨b0,1,ak⟩=au (ah aA m.n)/\X.cell? ⟨b0,2,ak⟩=au (aj A.ra m.rows.length A.rc)/\X.cell? ⟨b0,3,ak⟩=au (aj (au ⟨sb,so,ak⟩) m.dR.length A.sc)/\X.cell? ⟨b0,4,ak⟩=au (aF m.done):=fun X hX=>by
    obtain⟨e0,e1,e2,e3,e4⟩:=Bx.r5 (HY0.out.below hX);rw[hsa] at e3;exact⟨(zn.out.below hX).at 0 rfl,e0,e1,e2,e3,e4⟩
   have hl1:=hx1.lt;have hl0:=hx0.lt;have hfw:=eF.lg hO;have hws:=hW.size;unfold iL ig at hT;rw[hsa] at hT ⊢;have HSA:=dP hsa;clear hsa;clear Az hsc hx0 hx1 hO hW hB hel hq
   cases hh:hadB m.rows n (q:Int) with
   | false =>
    have HN:=jY.out hh;have xq:=dP HN;rw[hh] at hT;clear HN hh;go_wp2_with fail
    refine lG (S:=fun X:aI=>X.cell? ⟨b1,0,ak⟩=au (aj a Z.length c)/\X.cell? ⟨b0,0,ak⟩=au (ah aA m.id)/\X.cell? ⟨b0,1,ak⟩=au (ah aA m.n)/\X.cell? ⟨b0,2,ak⟩=au (aj A.ra m.rows.length A.rc)/\X.cell? ⟨b0,3,ak⟩=au (aj (au ⟨sb,so,ak⟩) m.dR.length A.sc)/\X.cell? ⟨b0,4,ak⟩=au (aF m.done)) 6 fU ((KS _ hbd)) fun hHeld=>?_
    refine fC (i:=0) rfl hHeld ?_;refine fC (i:=1) rfl hHeld ?_;refine fC (i:=2) rfl hHeld ?_;refine iy (i:=3) rfl fun K hK=>?_
    go_simp
    go_at_call 49
    refine hT.mono ?_;rintro e V1 ⟨(⟨h,_⟩|⟨_,T,v,rfl⟩),hb2⟩
    ·cases h
    ·exact⟨rfl,.inr ⟨xq.out,_,_,rfl⟩,HW.out.trans (eU.of_below (eP hbd hb2)) (fun _ _ h=>h)⟩
   | true =>
    have HA2:=dP (HA1.out hh);rw[hh] at hT;clear hh;generalize nH m.rows n (q:Int)=t at *;go_wp2_with fail
    refine lG (S:=fun X:aI=>X.cell? ⟨b1,0,ak⟩=au (aj a Z.length c)/\X.cell? ⟨b0,0,ak⟩=au (ah aA m.id)/\X.cell? ⟨b0,1,ak⟩=au (ah aA m.n)/\X.cell? ⟨b0,2,ak⟩=au (aj A.ra m.rows.length A.rc)/\X.cell? ⟨b0,3,ak⟩=au (aj (au ⟨sb,so,ak⟩) m.dR.length A.sc)/\X.cell? ⟨b0,4,ak⟩=au (aF m.done)) 6 fU ((KS _ hbd)) fun hHeld=>?_
    refine fC (i:=0) rfl hHeld ?_;refine fC (i:=1) rfl hHeld ?_;refine fC (i:=2) rfl hHeld ?_;refine iy (i:=3) rfl fun K hK=>?_
    go_simp
    go_at_call 49
    refine hT.mono ?_;rintro e V1 ⟨(⟨_,rfl⟩|⟨h,_⟩),hb2⟩
    case inr=>cases h
    have kT:=eP hbd hb2;obtain⟨ta',tc',et,hA⟩:=zG t (eF.gK HO.out kT) HZl.out
    cases et
    have hba:=dX V1 (aH #[aN (sv t)] 9);refine hK.out _ _ (KS _ kT) (fun eG=>?_)
    clear hK hHeld;have hHeld:=eG;try simp only[gW]
    refine iy (i:=4) rfl fun K hK=>?_
    go_simp;refine hK.out _ _ (KS _ (eP kT hba)) (fun eG=>?_)
    clear hK hHeld;have hHeld:=eG;try simp only[gW]
    refine iy (i:=5) rfl fun K hK=>?_
    refine jm (by rfl) _ _ _ _ (by rfl) (aj a Z.length c) _ (by rfl) (by rfl) hA ⟨rfl,rfl,rfl,rfl⟩ ?_
    rintro v9 w4 ⟨a9,c9,f9,rfl,o9,p9,q9⟩;have hs1:=kT.size;have hB0:Bx w4 b0 47 #[ah aA m.id,ah aA m.n,aj A.ra m.rows.length A.rc,aj A.sa m.dR.length A.sc,aF m.done]:=(HY0.out.below kT).wrt q9 (fun kk=>(Ep _ kk).1.2.2.2 rfl)
    have hB1:Bx w4 b1 42 #[aj a Z.length c]:=(zn.out.below kT).wrt q9 (fun kk=>(Ep _ kk).1.2.1 rfl)
    have hk9:w4.cell? ⟨b1,0,ak⟩=au (aj a Z.length c)/\w4.cell? ⟨b0,0,ak⟩=au (ah aA m.id)/\w4.cell? ⟨b0,1,ak⟩=au (ah aA m.n)/\w4.cell? ⟨b0,2,ak⟩=au (aj A.ra m.rows.length A.rc)/\w4.cell? ⟨b0,3,ak⟩=au (aj (au ⟨sb,so,ak⟩) m.dR.length A.sc)/\w4.cell? ⟨b0,4,ak⟩=au (aF m.done):=by
     obtain⟨e0,e1,e2,e3,e4⟩:=Bx.r5 hB0;rw[HSA.out] at e3;exact⟨hB1.at 0 rfl,e0,e1,e2,e3,e4⟩
    have z1:=hB1.f 0;refine hK.out _ _ hk9 (fun eG=>?_)
    clear hK hHeld;have hHeld:=eG;try simp only[gW]
    refine oH rfl fun K hK=>?_
    go_simp;refine hK.out _ _ ?_;have hWs:=eU.set w4 b1 0 (aj a9 (Z.length+1) c9);have HL:aG ((Z++[t]).length=Z.length+1):=by rw[aG,dB];rfl
    have HP0:aG (Bx (w4.setCell ⟨b1,0,ak⟩ (aj a9 (Z.length+1) c9)) b0 47 #[ah aA m.id,ah aA m.n,aj A.ra m.rows.length A.rc,aj A.sa m.dR.length A.sc,aF m.done]):=hB0.wrt hWs (fun e=>hne e)
    have HP1:aG (Bx (w4.setCell ⟨b1,0,ak⟩ (aj a9 (Z.length+1) c9)) b1 42 #[aj a9 (Z++[t]).length c9]):=by
     rw[aG,HL.out];simpa using hB1.lW 0 (aj a9 (Z.length+1) c9)
    have hf9:∀ b,f9 b->(w0.heap.size<=b/\b≠b1/\b≠b2/\b≠b0)/\(f0 b\/X.heap.size<=b):=fun b hb=>by
     rcases p9 b hb with kk|kk
     ·exact Ep b kk
     ·have:=HB.out.size
      exact⟨⟨by omega,by omega,by omega,by omega⟩,.inr (by omega)⟩
    have HP2:aG (eF.ow (w4.setCell ⟨b1,0,ak⟩ (aj a9 (Z.length+1) c9)) (ny (Z++[t])) (aj a9 (Z++[t]).length c9) f9):=by
     rw[aG,HL.out];exact eF.lC o9 hWs (fun b hb e=>(hf9 b hb).1.2.1 e)
    have HP3:=dP hf9;have Qs:eU (fun x=>x=b1\/f0 x) X w4:=(HW.out.trans (eU.of_below kT) (fun _ _ h=>h)).trans q9 (fun b hbl hb=>((Ep b hb).2).elim (fun h=>.inr h) (fun h=>absurd hbl (by omega)))
    have HP4:aG (eU (fun x=>x=b1\/f0 x) X (w4.setCell ⟨b1,0,ak⟩ (aj a9 (Z.length+1) c9))):=Qs.trans hWs (fun _ _ h=>.inl h)
    have HP5:aG (Below w0.heap.size w0 (w4.setCell ⟨b1,0,ak⟩ (aj a9 (Z.length+1) c9))):=hWs.below (q9.below (eP HB.out kT) (eP HB.out kT).size (fun b hb=>(Ep b hb).1.1)) (q9.below (eP HB.out kT) (eP HB.out kT).size (fun b hb=>(Ep b hb).1.1)).size (fun b e=>by omega)
    clear hHeld hK hk9 z1 hB0 hB1 o9 p9 q9 hA Qs hWs hf9 KS hbd kT hba hT;generalize w4.setCell ⟨b1,0,ak⟩ (aj a9 (Z.length+1) c9)=W9 at *;go_wp2;go_roundw
    case rel=>exact⟨k+1,a9,c9,Z++[t],f9,by omega,by go_num,HZ1.out.symm,HA2,by rw[<- HSA.out];exact HP0.out,HP1.out,HP2.out,HP3.out,HP4.out,HP5.out⟩
    case measure=>simp[ba4];omega
  ·have k1:¬ ((k:Int)<m.dR.length):=by omega
   have eZ:Z=m.dR.map (nH m.rows n):=by rw[hZ.out,show k=m.dR.length by omega,aV2]
   subst eZ
   have yS:aG (m.dR.all (hadB m.rows m.k)=aB):=by
    rw[aG,aU3,HKn.out];intro x hx;obtain⟨j,hj,rfl⟩:=bU.1 hx;have:=ag6.out j (by omega)
    simpa[el,hj] using this
   clear hx0 hO hW hB hZ ag6;have c1:=hx1.at 0 (v:=aj a (m.dR.map (nH m.rows n)).length c) rfl;have wS:=dP c1;clear c1 hx1;go_wp2
   first|go_end0|go_ret
   refine⟨.inl ⟨iE.out,yS.out,rfl,a,c,f, ?_⟩,HW.out⟩;rw[HKn.out];exact⟨wS.out,HO.out,fun b hb=>⟨(Ep b hb).1.1,(Ep b hb).1.2.1,(Ep b hb).1.2.2.1⟩⟩
end
end Go.Proofs.YtafimeakbdmkjaaGreat