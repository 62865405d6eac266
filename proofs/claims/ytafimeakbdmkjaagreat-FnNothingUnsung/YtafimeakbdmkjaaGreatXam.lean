/-
  Texts in one.
-/
import Derived.Test.YtafimeakbdmkjaaGreatXaa
import Derived.Test.YtafimeakbdmkjaaGreatXab
import Derived.Test.YtafimeakbdmkjaaGreatXal
import Derived.Test.YtafimeakbdmkjaaGreatXae
import Derived.Test.YtafimeakbdmkjaaGreatXaf
import Derived.Deep.CutRange
import Derived.Deep.Cut
import Derived.Deep.RegionHeld3
namespace Go.Proofs.YtafimeakbdmkjaaGreat
open Bool renaming false->aC,true->aB
open Go renaming Addr->dH,Calls->dF,Value->aJ,World->aI,bodyPost_ret->bY,maxLen->dD
open Go.Ending renaming returned->aK
open Go.IntKind renaming i64->aA
open Go.Obj renaming cells->aH
open Go.Proofs.Tryz renaming prog->dA
open Go.RowKit renaming Hid->aG,intOf->dG
open Go.RowKit.Below renaming refl->dw
open Go.Value renaming agg->aP,bool->aF,int->ah,int->dB,pointer->aO,slice->aj,string->aN
open Go.World renaming size_alloc->bH
open List renaming getD_eq_getElem?_getD->aS,getElem?_append_left->aU,length_append->bD,length_set->bQ,mem_cons_self->bF,replicate->bV
open Nat renaming le_refl->cO,zero_le->cZ
open Option renaming none->ak,some->au
set_option linter.unusedVariables false
set_option linter.unusedSimpArgs false
open Go.RowKit Go.Sort
set_option maxRecDepth 100000
set_option maxHeartbeats 12800000
variable {X w:aI} {cap f g i j len off:Nat} {o r:Rw} {R:List Rw}
section
def mX (l:List UInt8):List aJ:=l.map (fun b=>dB .u8 (b.toNat:Int))
theorem am4 (a b:List UInt8):mX (a++b)=mX a++mX b:=by simp[mX]
theorem Sr (l:List UInt8):(mX l).length=l.length:=by simp[mX]
def Bc (w:aI) (g off n cap:Nat) (l:List UInt8):Prop:=jE w 1 g off n cap (mX l)
theorem Bc.length {n: Nat} {l: List UInt8} (h:Bc w g off n cap l):l.length=n:=by have:=h.len;rw[Sr] at this;omega
theorem Bc.cellAt {n: Nat} {l: List UInt8} (h:Bc w g off n cap l) (hi:i<l.length):w.cell? ⟨g,off+i,ak⟩=au (ah .u8 (l[i].toNat:Int)):=by
 have hl:=h.length;rw[h.cell i (by omega)]
 simp[mX,hi]
theorem WS (w:aI) (T:TypeId):Bc (w.alloc (aH #[] T)) w.heap.size 0 0 0 [] :=
 ⟨rfl,cO _,cZ _,by simp,fun i hi=>by omega,fun i hi=>by omega,fun i hi=>by omega⟩
theorem am5 {n m: Nat} {l r: List UInt8} (h:jE w 1 g off (n+m) cap (mX l++mX r)):Bc w g off (n+m) cap (l++r):=by unfold Bc;rw[am4];exact h
theorem Bc.set {n: Nat} {l: List UInt8} (h:Bc w g off n cap l) (hi:i<n) (b:UInt8):Bc (w.setCell ⟨g,off+i,ak⟩ (ah .u8 (b.toNat:Int))) g off n cap (l.set i b):=by
 have hl:=h.length;have hc:=h.cellAt (i:=i) (by omega)
 refine⟨by rw[Sr];simp[hl],h.le,h.max,by simp[World.setCell];exact h.blk,fun j hj=>?_,fun j hj=>?_,fun j hj=>by rw[World.frozen?_setCell];exact h.free j hj⟩
 ·by_cases e:i=j
  ·subst e
   rw[World.cell?_setCell_same _ _ _ hc];simp[mX,show i<l.length by omega]
  ·rw[World.cell?_setCell_other _ _ _ _ (by simp[e]),h.cell j hj]
   simp[mX,e]
 ·by_cases e:i=j
  ·subst e
   rw[World.cell?_setCell_same _ _ _ hc];rfl
  ·rw[World.cell?_setCell_other _ _ _ _ (by simp[e])];exact h.some j hj
theorem Bc.str {l: List UInt8} (h:Bc w g off l.length cap l):(convert 22 9 (aj (au ⟨g,off,ak⟩) l.length cap)).run dA w=.ok (aN (sv l)) w :=
 run_convert_bytes_back (P:=dA) w 22 9 5 ⟨g,off,ak⟩ cap l Tryz.underlying22 Tryz.underlying5 Tryz.underlying9 (fun j hj=>by rw[zD];exact h.cellAt hj)
structure Lb (w wr:aI) (p:Nat) (a:Option dH) (len cap g f c:Nat) (l:List UInt8):Prop where
 out:Bc wr g f l.length c l
 new:w.heap.size<=g
 cur:jI wr p a len cap
 grown:w.grownBy wr (au p)
theorem Lb.step {wr wx: aI} {p: Nat} {a: Option dH} {c: Nat} {l: List UInt8} (h:Lb w wr p a len cap g f c l) (hpl:p<w.heap.size) (hc:jI wx p a len cap) (hg:wr.grownBy wx (au p)):Lb w wx p a len cap g f c l :=
 ⟨jE.grown h.out hg (by have:=h.new;simp;omega),h.new,hc,fP h.grown hg⟩
theorem Lb.yO {wr: aI} {p: Nat} {a: Option dH} {c: Nat} {l: List UInt8} {bs: Nat->Int} (h:Lb w wr p a len cap g f c l) (hv:nZ w a len bs) (hp:Eh a len p):nZ wr a len bs:=hv.grown h.grown hp
theorem Lb.push {wr w6: aI} {p: Nat} {a: Option dH} {c g6 f6 c6: Nat} {l r: List UInt8} (h:Lb w wr p a len cap g f c l) (hpl:p<w.heap.size) (o:Obj) (hO:jE w6 1 g6 f6 (l.length+r.length) c6 (mX l++mX r)) (hg:(wr.alloc o).grownBy w6 (au g)) (hat:g6=g\/g6=(wr.alloc o).heap.size):Lb w w6 p a len cap g6 f6 c6 (l++r):=by
 have hs:=h.grown.size;have hn:=h.new;refine⟨by rw[bD];exact am5 hO, ?_, ?_, ?_⟩
 ·rcases hat with e|e
  ·rw[e];exact h.new
  ·rw[e];simp;omega
 ·exact (h.cur.alloc o).grown hg (by simp;omega)
 ·exact zh (zh h.grown (World.grownBy_alloc wr o ak) (by simp)) hg (fun k hk=>by cases hk;exact h.new)
theorem Lb.set {w wr:aI} {p:Nat} {a:Option dH} {len cap g f c i:Nat} {l:List UInt8} (h:Lb w wr p a len cap g f c l) (hpl:p<w.heap.size) (hi:i<l.length) (b:UInt8):Lb w (wr.setCell ⟨g,f+i,ak⟩ (ah .u8 (b.toNat:Int))) p a len cap g f c (l.set i b) :=
 ⟨by rw[bQ];exact h.out.set hi b,h.new,h.cur.set (by have:=h.new;omega) _ _,Ei h.grown h.new _ _⟩
theorem ai7 {x: Int} (h0:0<=x) (h1:x<=255):((UInt8.ofNat x.toNat).toNat:Int)=x:=by rw[UInt8.toNat_ofNat'];omega
attribute [local irreducible] sv
theorem O9 (p:Nat) (a:Option dH) (len cap:Nat) (bs:Nat->Int) (most:Nat) (w:aI) (hcur:jI w p a len cap) (hv:nZ w a len bs) (hp:Eh a len p) (hl:len<=4096) (aM9:most<=1000) :
  dF dA 64 #[aO (au ⟨p,0,ak⟩),ah aA (most:Int)] w fun e w'=>∃ l:List UInt8,l.length<=most/\e=aK (aN (sv l))/\jI w' p a len cap/\w.grownBy w' (au p):=by
 obtain⟨i0,hi0,hz0,hz1,hz2⟩:=info_parts Tryz.info5;have hpl:=hcur.lt;have L0:Lb w (w.alloc (aH #[] 5)) p a len cap w.heap.size 0 0 []:=⟨WS w 5,cO _,hcur.alloc _,World.grownBy_alloc w _ _⟩;go_enter Tryz.func64,Tryz.ntmps64
 go_wp2_with fail
 refine (oO p a len cap bs ((most:Int)+1) _ L0.cur (L0.yO hv hp) hp hl (by omega)).mono ?_
 rintro e w1 ⟨x,rfl,hx0,hx1,_,hc1,hg1⟩;have hxm:=hx1 (by omega)
 obtain⟨N,hN⟩:∃ N:Nat,x=(N:Int):=⟨x.toNat,by omega⟩
 subst hN;have yX:=dP (L0.step hpl hc1 hg1);clear L0 hx0 hx1 hc1 hg1;go_wp2
 go_loopw [5,6] (fun b n wr=>∃ (l:List UInt8) (g f c M:Nat),n=ah aA (M:Nat)/\b=aj (au ⟨g,f,ak⟩) l.length c/\l.length+M<=most/\Lb w wr p a len cap g f c l) (fun _ n _=>(dG n).toNat)
 case atStart=>exact⟨[],w.heap.size,0,0,N,rfl,rfl,by simp;omega,yX.out⟩
 case round =>
  obtain⟨l,g,f,c,M,rfl,rfl,hlm,hL⟩:=hrel;have KL:=dP hL;clear hL yX;rcases Nat.eq_zero_or_pos M with h0|hpos
  ·subst h0
   go_wp2_with fail
   refine (Df p a len cap bs 7 wr KL.out.cur (KL.out.yO hv hp) hp hl (by omega)).mono ?_
   rintro e w2 ⟨x,rfl,hc2,hg2⟩;have K2:=dP (KL.out.step hpl hc2 hg2);clear hc2 hg2;by_cases hx:x=aB/\0<l.length
   ·obtain⟨rfl,hlp⟩:=hx
    have Gq:(0:Int)<l.length:=by omega
    go_wp2_with fail
    refine (oO p a len cap bs (l.length:Int) w2 K2.out.cur (K2.out.yO hv hp) hp hl (by omega)).mono ?_
    rintro e w3 ⟨y,rfl,hy0,hy1,_,hc3,hg3⟩;have hyl:=hy1 (by omega)
    obtain⟨k,hk⟩:∃ k:Nat,y=(k:Int):=⟨y.toNat,by omega⟩
    subst hk;have K3:=dP (K2.out.step hpl hc3 hg3);clear hy0 hy1 hc3 hg3;go_wp2_with fail
    refine (xB p a len cap bs w3 K3.out.cur (K3.out.yO hv hp) hp hl).mono ?_;rintro e w4 ⟨z,rfl,aJ6,aF7,hc4,hg4⟩;have K4:=dP (K3.out.step hpl hc4 hg4);have hkl:k<l.length:=by omega
    have c1:=K4.out.out.cellAt hkl;have f1:=K4.out.out.free k (by have:=K4.out.out.le;omega)
    have K5:=K4.out.set hpl hkl (UInt8.ofNat z.toNat);rw[ai7 aJ6 aF7] at K5;have hstr:=K5.out.str;rw[bQ] at hstr;have hyi:(0:Int)<=k:=by omega
    have K5':aG (jI (w4.setCell ⟨g,f+k,ak⟩ (ah .u8 z)) p a len cap/\w.grownBy (w4.setCell ⟨g,f+k,ak⟩ (ah .u8 z)) (au p)):=⟨K5.cur,K5.grown⟩;clear hc4 hg4 K5;go_wp2;go_ret
    exact⟨l.set k (UInt8.ofNat z.toNat),by rw[bQ];omega,rfl,K5'.out.1,K5'.out.2⟩
   ·have hstr:=K2.out.out.str
    have K2':aG (jI w2 p a len cap/\w.grownBy w2 (au p)):=⟨K2.out.cur,K2.out.grown⟩
    cases x
    ·clear hx
     go_wp2;go_ret
     exact⟨l,by omega,rfl,K2'.out.1,K2'.out.2⟩
    ·have Gq:l.length=0:=by
      rcases Nat.eq_zero_or_pos l.length with h|h
      ·exact h
      ·exact absurd ⟨rfl,h⟩ hx
     rw[Gq] at hstr;rw[Gq];clear hx;go_wp2;go_ret
     exact⟨l,by omega,rfl,K2'.out.1,K2'.out.2⟩
  ·have WT:(0:Int)<M:=by omega
   go_wp2_with fail
   refine (oO p a len cap bs 3 wr KL.out.cur (KL.out.yO hv hp) hp hl (by omega)).mono ?_
   rintro e w2 ⟨x,rfl,hx0,hx1,_,hc2,hg2⟩;have hx3:=hx1 (by omega)
   have K2:=dP (KL.out.step hpl hc2 hg2);have hu:=ai7 (x:=97+x) (by omega) (by omega)
   have I7:jE (w2.alloc (aH #[ah .u8 (97+x)] 5)) 1 g f l.length c (mX l):=jE.below K2.out.out ((dw _ _).alloc (cO _) _) K2.out.out.blk;clear hx1 hc2 hg2;go_wp2_with (at_builtin;refine iI _ rfl _ _ 22 rfl 5 i0 _ 1 1 Tryz.underlying22 hi0 hz0 hz1 hz2 rfl (by omega) g f l.length c _ rfl I7 ⟨w2.heap.size,0,ak⟩ 1 1 [ah .u8 (97+x)] rfl rfl (World.news_of_block (cs:=#[ah .u8 (97+x)]) (t:=5) (fr:=(0,0)) (heap_alloc_new _ _)) (by simp[Value.oneCell']) (by unfold dD;omega) (by omega) ?_;intro g6 f6 c6 w6 CB yY xM)
   have hO7:jE w6 1 g6 f6 (l.length+[UInt8.ofNat (97+x).toNat].length) c6 (mX l++mX [UInt8.ofNat (97+x).toNat]):=by
    have e:mX [UInt8.ofNat (97+x).toNat]=[ah .u8 (97+x)]:=by simp only[mX,List.map_cons,List.map_nil,hu]
    rw[e];exact CB
   have K7:=K2.out.push hpl _ hO7 yY xM;go_roundw
   case rel=>exact⟨l++[UInt8.ofNat (97+x).toNat],g6,f6,c6,M-1,by go_num,by rw[bD];rfl,by rw[bD];simp;omega,K7⟩
   case measure=>simp[dG];omega
end
section
theorem Dz (most:Nat) (n:Int) (hn:n=(most:Int)) (hm:most<=1000) {p: Nat} {a: Option dH} {bs: Nat->Int} (h:Cc w X p a len cap bs) :
  dF dA 64 #[aO (au ⟨p,0,ak⟩),ah aA n] X fun e w'=>∃ l:List UInt8,e=aK (aN (sv l))/\l.length<=most/\Cc w w' p a len cap bs/\X.grownBy w' (au p):=by
 subst hn;refine (O9 p a len cap bs most X h.cur h.yO h.off h.hl hm).mono ?_;rintro e w' ⟨l,h1,rfl,hc,hg⟩;exact⟨l,rfl,h1,h.drawn hg hc,hg⟩
theorem Jk {T: List (List UInt8)} {s: List UInt8} {n: Nat} (h:(∀ i,i<T.length->(T.getD i []).length<=n)) (hs:s.length<=n):∀ i,i<(T++[s]).length->((T++[s]).getD i []).length<=n:=fun i hi=>by
 rw[bD,List.length_singleton] at hi;by_cases e:i<T.length
 ·have:=h i e
  simpa[aS,aU e] using this
 ·obtain rfl:i=T.length:=by omega
  simpa[aS] using hs
theorem ZC (n:Nat) (hn:n<=1048576) (w:aI) :
  (Instr.makeSlice 22 (ah aA (n:Int)) (ah aA (n:Int))).run dA w=.ok (aj (au ⟨w.heap.size,0,ak⟩) n n) (w.alloc (aH (madeCells #[ah .u8 0] n) 5)):=by
 obtain⟨i,hi,hz,hs,hb⟩:=xW Tryz.info5;have hr:=run_make (P:=dA) w 22 5 i _ Tryz.underlying22 hi hz aA aA n n (by omega) (Int.le_refl _) (by rw[hb];omega) (by omega)
 simp only[Int.toNat_natCast,hs,Nat.mul_one] at hr;exact hr
theorem ZE (w:aI) (n:Nat) (hn:n<=1048576):(convert 22 9 (aj (au ⟨w.heap.size,0,ak⟩) n n)).run dA (w.alloc (aH (madeCells #[ah .u8 0] n) 5))=.ok (aN (sv (bV n 0))) (w.alloc (aH (madeCells #[ah .u8 0] n) 5)):=by
 have h:=Dp w #[ah .u8 0] 1 n 5 rfl (by omega) (by unfold dD;omega)
 have e:mX (bV n 0)=(bV n (#[dB .u8 0]:Array aJ).toList).flatten:=by
  simp only[mX,List.map_replicate]
  clear h hn
  induction n with
  | zero=>rfl
  | succ n ih=>rw[List.replicate_succ,List.replicate_succ,List.flatten_cons,<- ih];rfl
 rw[<- e,Nat.mul_one] at h;have h2:Bc (w.alloc (aH (madeCells #[ah .u8 0] n) 5)) w.heap.size 0 (bV n (0:UInt8)).length n (bV n 0):=by rw[List.length_replicate];exact h
 have h3:=h2.str;rw[List.length_replicate] at h3;exact h3
theorem am6 (xs:List Int) (n:Int):(gV xs n).length<=xs.length+1:=by
 induction xs with
 | nil=>simp[gV]
 | cons x l ih =>
  unfold gV
  split
  ·simp;omega
  ·split
   ·simp
   ·simp
theorem ZF {xs: List Int} {n: Int} (h:Fits xs) (hn:-9223372036854775808<=n/\n<=9223372036854775807):Fits (gV xs n):=fun x hx=>by
 rcases nC.1 hx with e|e
 ·rw[e];exact hn
 ·exact h x e
theorem WU (n:Int):(jS n).dQ.length=0:=by
 unfold jS
 split<;>rfl
theorem ZG (n:Int):uH (jS n)/\(jS n).txt.length=0:=by
 unfold jS
 split
 ·rename_i h
  have:=iZ.1 h;exact⟨⟨by simp,by simp,fun i hi=>by simp at hi,by simp;omega,fun x hx=>by have:=List.eq_of_mem_replicate hx;omega,by simp,fun x hx=>absurd hx List.not_mem_nil,by simp,fun x hx=>absurd hx List.not_mem_nil,by simp⟩,rfl⟩
 ·exact⟨⟨by simp[nJ],by simp[nJ],fun i hi=>by simp[nJ] at hi,by simp[nJ],fun x hx=>absurd hx List.not_mem_nil,by simp[nJ],fun x hx=>absurd hx List.not_mem_nil,by simp[nJ],fun x hx=>absurd hx List.not_mem_nil,by simp[nJ]⟩,rfl⟩
attribute [local irreducible] sv
theorem DC (N:Nat) (n:Int) (hN:n=(N:Int)) (Gs:N<=5) {p: Nat} {a: Option dH} {bs: Nat->Int} (h:Cc w X p a len cap bs) :
  dF dA 63 #[aO (au ⟨p,0,ak⟩),ah aA n] X fun e X'=>∃ (A:Ra) (r:Rw) (fp:Fp),e=aK (iK A r)/\uH r/\gB X' (jM r) (jr A r) fp/\(∀ b,fp b->X.heap.size<=b)/\Cc w X' p a len cap bs/\X.grownBy X' (au p):=by
 subst hN;have gq:Tryz.prog.follows .mixedOrders=aB:=by kernel_rfl
 obtain⟨i0,hi0,hz0,hz1,hz2⟩:=xW Tryz.info9;have b1:=dX X (aH #[ah aA 0,aj ak 0 0,aj ak 0 0,aj ak 0 0,aF aC,aF aC,ah aA 0,aj ak 0 0] 44);have c1:=h.step b1;have HR:aG (Bx (X.alloc (aH #[ah aA 0,aj ak 0 0,aj ak 0 0,aj ak 0 0,aF aC,aF aC,ah aA 0,aj ak 0 0] 44)) X.heap.size 44 #[ah aA 0,aj ak 0 0,aj ak 0 0,aj ak 0 0,aF aC,aF aC,ah aA 0,aj ak 0 0]):=Bx.new _ _ _;have hpl:=h.lt;have hC:=NK (N:Int) (X.alloc (aH #[ah aA 0,aj ak 0 0,aj ak 0 0,aj ak 0 0,aF aC,aF aC,ah aA 0,aj ak 0 0] 44));obtain⟨hsm,ht0⟩:=ZG (N:Int);have hu0:=WU (N:Int);generalize jS (N:Int)=r0 at *;have HT0:aG (r0.txt.length=0/\r0.dQ.length=0):=⟨ht0,hu0⟩;clear ht0 hu0;unfold Nb iK fQ at hC;have yK:aG (Cc w _ p a len cap bs):=c1;have HB1:aG (Below X.heap.size X _):=b1;clear c1 b1;go_enter Tryz.func63,Tryz.ntmps63
 go_wp2_with fail
 refine hC.mono ?_;rintro e X2 ⟨A0,rfl,yZ,ho0,hf0,hb0⟩
 have R0:RD w X (X2.alloc (aH #[ah aA r0.ver,aj A0.ta r0.txt.length A0.tc,aj A0.ga r0.got.length A0.gc,aj A0.sa r0.dQ.length A0.sc,aF r0.wed,aF r0.dV,ah aA r0.dW,aj A0.ma r0.dU.length A0.mc] 44)) p a len cap bs X2.heap.size qJ A0 r0 yZ:=by
  have hs2:=hb0.size;rw[bH] at hs2;have hb3:=dX X2 (aH (fQ A0 r0) 44);exact⟨(yK.out.step hb0).step hb3,(HR.out.below hb0).below hb3,Bx.new _ _ _,gG ho0 hb3,fun b hb=>⟨by have:=hf0 b hb;rw[bH] at this;omega,by have:=jd ho0 b hb;omega⟩,hpl,by omega,fP (World.grownBy_alloc X _ _) (fP ⟨hb0.os,hb0.tape,hb0.output,hb0.size,fun x hx _=>hb0.block x hx⟩ (World.grownBy_alloc _ _ _))⟩
 have hB1:=jP 6 6 rfl R0.cc (by omega) (by omega)
 have HR0:=dP R0;clear R0 hC yK HB1 HR ho0 hf0 hb0;go_wp2_with fail
 refine hB1.mono ?_;rintro e Y1 ⟨v,rfl,hv,c2,g1⟩;have R1:=HR0.out.drawn g1 c2;obtain⟨⟨x0,_⟩,_⟩:=R1.c8;have x1:=R1.fo 0;have R2:=R1.ver (v:Int);have hB2:=jP 4 4 rfl R2.cc (by omega) (by omega)
 obtain⟨r1,hr1⟩:∃ r1:Rw,aG (r1={ r0 with ver:=(v:Int) }):=⟨_,rfl⟩
 have HR2:aG (RD w X (Y1.setCell ⟨X2.heap.size,0,ak⟩ (ah aA (v:Int))) p a len cap bs X2.heap.size qJ A0 r1 yZ):=by rw[hr1.out];exact R2
 have HS2:aG (uH r1):=by rw[hr1.out];exact⟨by simp only;omega,hsm.tl,hsm.ts,hsm.gl,hsm.gf,hsm.sl,hsm.sf,hsm.ml,hsm.mf,hsm.mX⟩
 have HT2:aG (r1.txt.length=0/\r1.dQ.length=0):=by rw[hr1.out];exact HT0.out
 clear R1 R2 hB1 c2 g1 HR0 hsm HT0;go_wp2_with fail
 refine hB2.mono ?_;rintro e Y2 ⟨m,rfl,hm,c3,g2⟩;have HR3:=dP (HR2.out.drawn g2 c3);clear hB2 c3 g2 HR2 x0 x1;clear hr1;generalize X2.heap.size=o at *;go_wp2_with fail
 go_loopw [6] (fun i wr=>∃ (k:Nat) (A:Ra) (r:Rw) (fp:Fp),k<=m/\i=ah aA k/\RD w X wr p a len cap bs o qJ A r fp/\uH r/\r.txt.length+k<=3/\r.dQ.length=0) (fun i _=>(dG i).toNat)
 case atStart=>exact⟨m,A0,r1,yZ,cO _,rfl,HR3.out,HS2.out,by have:=HT2.out.1;omega,HT2.out.2⟩
 case round =>
  obtain⟨k,A,r,fp,hk,rfl,hR,hS,hTk,hU⟩:=hrel;have HS:=dP hS;have HU:=dP hU;clear hS hU;by_cases hlt:0<k
  ·have k0:(0:Int)<k:=by omega
   have hR1:=hR.drewN 1;have hT:=Dz 3 3 rfl (by omega) hR1.cc
   have x1:=hR.c8.1.2.1;have hlen:r.txt.length<=1000:=by omega
   have HR:=dP hR1;clear hR hR1;go_wp2_with fail
   refine lU (S:=fun X:aI=>X.cell? ⟨o,1,ak⟩=au (aj A.ta r.txt.length A.tc)) 7 gq (x1) fun hHeld=>?_
   refine fC (i:=0) rfl hHeld ?_;refine fC (i:=1) rfl hHeld ?_;refine fE (i:=2) rfl ?_;refine iJ (i:=3) rfl fun K hK=>?_
   go_simp
   go_at_call 64
   refine hT.mono ?_;rintro e Y3 ⟨s,rfl,hs,c4,g4⟩;have R3:=HR.out.drawn g4 c4;refine hK.out _ _ R3.c8.1.2.1 (fun zU=>?_)
   clear hK hHeld;have hHeld:=zU;try simp only[iC]
   refine iJ (i:=4) rfl fun K hK=>?_
   go_simp;refine hK.out _ _ (R3.step (dX Y3 (aH #[aN (sv s)] 9))).c8.1.2.1 (fun EW=>?_)
   clear hK hHeld;have hHeld:=EW;try simp only[iC]
   refine iJ (i:=5) rfl fun K hK=>?_
   refine jH (by rfl) _ _ _ _ (by rfl) (aj A.ta r.txt.length A.tc) _ (by rfl) (by rfl) (R3.app i0 hi0 hz0 hz1 hz2 s hlen) ⟨rfl,rfl,rfl,rfl⟩ ?_
   rintro v' w4 ⟨a',c',rfl,q1,q2,fp',EH⟩;refine hK.out _ _ q1 (fun Pg=>?_)
   clear hK hHeld;have hHeld:=Pg;try simp only[iC]
   refine fC (i:=6) rfl hHeld ?_;have HRn:=dP EH;clear R3 EH c4 g4 hT;refine oV rfl fun K hK=>?_
   go_simp;refine hK.out _ _ ?_;go_wp2;go_roundw
   case rel=>exact⟨k-1,_,_,fp',by omega,by go_num,HRn.out,⟨HS.out.ver,by simp;omega,Jk HS.out.ts (by omega),HS.out.gl,HS.out.gf,HS.out.sl,HS.out.sf,HS.out.ml,HS.out.mf,HS.out.mX⟩,by simp;omega,HU.out⟩
   case measure=>simp[dG];omega
  ·obtain rfl:k=0:=by omega
   have HR:=dP hR;have Gm:aG (r.txt.length<=3):=by rw[aG];omega
   obtain⟨G,hG⟩:∃ G,aG (r.got.length=G):=⟨_,rfl⟩;have aJ7:G<=16:=by have:=hG.out;have:=HS.out.gl;omega
   clear hR hTk hlt hk;go_wp2_with fail
   go_loopw [7] (fun i wx=>∃ (k:Nat) (A:Ra) (r:Rw) (fp:Fp),k<=G/\i=ah aA k/\RD w X wx p a len cap bs o qJ A r fp/\uH r/\(r.txt.length<=3/\r.dQ.length=0)/\r.got.length=G) (fun i _=>G-(dG i).toNat)
   case atStart=>exact⟨0,A,r,fp,cZ _,rfl,HR.out,HS.out,⟨Gm.out,HU.out⟩,hG.out⟩
   case round =>
    clear HR HS Gm hG HU;obtain⟨k,A,r,fp,hk,rfl,hR,hS,⟨hT3,hU⟩,hGl⟩:=hrel;have HU:=dP hU;clear hU;have HS:=dP hS;have HT3:=dP hT3;have DX:=dP hGl;clear hS hT3;by_cases hlt:k<G
    ·have k1:(k:Int)<r.got.length:=by omega
     have k0:(0:Int)<=k:=by omega
     have hR1:=hR.drewN 1;have hB:=jP 4 4 rfl hR1.cc (by omega) (by omega)
     have x1:=hR.c8.1.2.2.1;have HR:=dP hR1;obtain⟨ta,tc,ga,gc,sa,sc,ma,mc⟩:=A;obtain⟨g,off,hga,_⟩:=hR.ai6 (show k<r.got.length by omega)
     simp only at hga
     subst hga;clear hR hR1 hGl;simp only at x1
     go_wp2_with fail
     refine lU (S:=fun X:aI=>X.cell? ⟨o,2,ak⟩=au (aj (au ⟨g,off,ak⟩) r.got.length gc)) 6 gq (x1) fun hHeld=>?_
     refine fC (i:=0) rfl hHeld ?_;refine fC (i:=1) rfl hHeld ?_;refine fE (i:=2) rfl ?_;refine fE (i:=3) rfl ?_;refine iJ (i:=4) rfl fun K hK=>?_
     go_simp
     go_at_call 27
     refine hB.mono ?_;rintro e Y3 ⟨z,rfl,hz,c4,g4⟩;have R3:=HR.out.drawn g4 c4;refine hK.out _ _ R3.c8.1.2.2.1 (fun zU=>?_)
     clear hK hHeld;have hHeld:=zU;try simp only[iC]
     obtain⟨g2,off2,ax6,⟨y1,y2⟩,hput⟩:=R3.ai6 (i:=k) (by have:=DX.out;omega)
     simp only at ax6
     cases ax6
     obtain⟨fp2,EH⟩:=hput (z:Int);have HRn:=dP EH;clear EH hput R3 c4 g4 hB HR;refine fE (i:=5) rfl ?_;refine oV rfl fun K hK=>?_
     go_simp;refine hK.out _ _ ?_;go_wp2;go_roundw
     case rel=>(repeat apply Exists.intro);exact⟨⟨k+1,_,_,fp2,by omega,by go_num,HRn.out,⟨HS.out.ver,HS.out.tl,HS.out.ts,by simp only[bQ];exact HS.out.gl,Ny HS.out.gf k (by omega),HS.out.sl,HS.out.sf,HS.out.ml,HS.out.mf,HS.out.mX⟩,⟨HT3.out,HU.out⟩,by simp only[bQ];exact DX.out⟩,rfl⟩
     case measure=>simp[dG];omega
    ·obtain rfl:k=G:=by omega
     have x2:=hR.c8.1.2.2.1;have kn:¬ ((k:Int)<r.got.length):=by omega
     have hO:=uq 3 hR.cc (by omega)
     have HR:=dP hR;clear hR hGl hlt hk aJ7;go_upto_region 11 with fail
     go_cut [44] from 39 to 44 (fun s44 wx=>∃ b:Bool,s44=aF b/\(b=aB->0<N)/\RD w X wx p a len cap bs o qJ A r fp)
     case first =>
      go_wp2_with fail
      refine hO.mono ?_;rintro e Y4 ⟨t,rfl,c5,g5⟩;have HR4:=dP (HR.out.drawn g5 c5);clear hO c5 g5 HR x2 kn
      cases t with
      | false =>
       go_wp2;go_meet
       case rel=>exact⟨false,rfl,fun h=>(by cases h),HR4.out⟩
      | true =>
       by_cases hNp:0<N
       ·have hNi:(0:Int)<N:=by omega
        go_wp2;go_meet
        case rel=>exact⟨true,rfl,fun _=>hNp,HR4.out⟩
       ·have hNi:¬ ((0:Int)<N):=by omega
        go_wp2;go_meet
        case rel=>exact⟨false,rfl,fun h=>(by cases h),HR4.out⟩
     case rest =>
      obtain⟨bb,rfl,hbN,VL⟩:=hcut;have HR4:=dP VL;have Pj:=dP hbN;clear VL hbN HR hO x2 kn;generalize wc=Y4 at *
      go_upto_if 44 with fail
      go_cut [44] from 45 to 64 (fun _ wx=>∃ (A:Ra) (r:Rw) (fp:Fp),RD w X wx p a len cap bs o qJ A r fp/\uH r/\r.txt.length<=3)
      case first =>
       cases bb with
       | false =>
        go_wp2;go_meet
        case rel=>exact⟨A,r,fp,HR4.out,HS.out,HT3.out⟩
       | true =>
        have hNp:0<N:=Pj.out rfl;have hNi:(0:Int)<N:=by omega
        have y0:=HR4.out.c8.2.1;have y1:=HR4.out.fo 4;have R5:=HR4.out.wed aB;have R6:=R5.drewN 1;have hB:=jP N (N:Int) rfl R6.cc (by omega) (by omega)
        have z1:=R5.c8.1.2.2.2;have HR6:=dP R6;clear R5 R6;go_wp2_with fail
        refine lU (S:=fun X:aI=>X.cell? ⟨o,3,ak⟩=au (aj A.sa r.dQ.length A.sc)) 7 gq (z1) fun hHeld=>?_
        refine fC (i:=0) rfl hHeld ?_;refine fC (i:=1) rfl hHeld ?_;refine fE (i:=2) rfl ?_;refine fE (i:=3) rfl ?_;refine iJ (i:=4) rfl fun K hK=>?_
        go_simp
        go_at_call 27
        refine hB.mono ?_;rintro e Y5 ⟨u,rfl,hu,c6,g6⟩;have R7:=HR6.out.drawn g6 c6;have ZH:=R7.aJ5 HS.out.sf (by have:=HS.out.sl;simp only;omega) (u:Int)
        simp only at ZH
        refine hK.out _ _ R7.c8.1.2.2.2 (fun zU=>?_)
        clear hK hHeld;have hHeld:=zU;try simp only[iC]
        refine iJ (i:=5) rfl fun K hK=>?_
        go_simp
        go_at_call 106
        refine ZH.mono ?_;rintro e Y6 ⟨a6,c6b,rfl,hb6,KW,R8⟩;have R7b:=R7.step hb6;refine hK.out _ _ R7b.c8.1.2.2.2 (fun EW=>?_)
        clear hK hHeld;have hHeld:=EW;try simp only[iC]
        have q1:=R7b.c8.1.2.2.2;have q2:=R7b.fo 3;refine fC (i:=6) rfl hHeld ?_;have Sv:=dP R8;have zV:aG (uH { r with wed:=aB,dQ:=gV r.dQ (u:Int) }):=⟨HS.out.ver,HS.out.tl,HS.out.ts,HS.out.gl,HS.out.gf,by have:=am6 r.dQ (u:Int);have:=HU.out;simp only;omega,ZF HS.out.sf (by omega),HS.out.ml,HS.out.mf,HS.out.mX⟩
        clear R7 R7b hB ZH R8 c6 g6 hb6 HR6;refine oV rfl fun K hK=>?_
        go_simp;refine hK.out _ _ ?_;have hO:=uq 2 Sv.out.cc (by omega)
        clear hK hHeld z1 y0 y1 q1 q2;generalize (Y6.setCell ⟨o,3,ak⟩ (aj a6 (gV r.dQ (u:Int)).length c6b))=Y7 at *;obtain⟨A7,r7,Sz,hS7,HT8⟩:∃ (A7:Ra) (r7:Rw),RD w X Y7 p a len cap bs o qJ A7 r7 KW/\uH r7/\aG (r7.txt.length<=3):=⟨_,_,Sv.out,zV.out,HT3.out⟩;clear Sv zV;have Sv:=dP Sz;have zV:=dP hS7;clear Sz hS7;go_wp2_with fail
        refine hO.mono ?_;rintro e Y8 ⟨t2,rfl,c7,g7⟩;have EF:=dP (Sv.out.drawn g7 c7);clear hO c7 g7 Sv
        cases t2 with
        | false =>
         go_wp2;go_meet
         case rel=>exact⟨_,_,_,EF.out,zV.out,HT8.out⟩
        | true =>
         have y0:=EF.out.c8.2.2.1;have y1:=EF.out.fo 5;have R10:=EF.out.dV aB;have hB:=jP N (N:Int) rfl R10.cc (by omega) (by omega)
         have ax7:=dP R10;clear R10 EF;go_wp2_with fail
         refine hB.mono ?_;rintro e Y9 ⟨u2,rfl,hu2,c8,g8⟩;obtain⟨i2,hi2,hw0,hw1,hw2⟩:=jX Tryz.info2n;have R11:=ax7.out.drawn g8 c8;have z0:=R11.c8.2.2.2.1;have z1:=R11.fo 6;have R12:=R11.dW (u2:Int);clear hB ax7 R11 c8 g8 y0 y1;go_upto_region 17 with fail
         clear z0 z1;generalize Y9.setCell ⟨o,6,ak⟩ (ah aA (u2:Int))=Y10 at *;have hA:=R12.aF6 zV.out.gf (by have:=zV.out.gl;simp only;omega) i2 hi2 hw0 hw1 hw2
         have z2:=R12.c8.1.2.2.1;have R13:=R12.step (dX _ (aH #[] 2));have z3:=R13.c8.1.2.2.1;clear R12 R13;simp only at hA z2 z3
         go_wp2_with (at_builtin;refine fG (by rfl) _ _ _ _ (by rfl) _ _ (by rfl) (by rfl) hA ⟨rfl,rfl,rfl,rfl⟩ ?_;rintro v14 w14 ⟨a14,c14,rfl,q1,q2,aN8,ax8⟩;have aJ8:aG (∃ (A:Ra) (r:Rw) (fp:Fp),RD w X (w14.setCell ⟨o,7,ak⟩ (aj a14 r7.got.length c14)) p a len cap bs o qJ A r fp/\uH r/\r.txt.length<=3):=⟨_,_,_,ax8,⟨zV.out.ver,zV.out.tl,zV.out.ts,zV.out.gl,zV.out.gf,zV.out.sl,zV.out.sf,zV.out.gl,zV.out.gf,by simp only;omega⟩,HT8.out⟩;clear ax8 hA z2 z3)
         go_meet
         case rel=>exact aJ8.out
      case rest =>
       clear HS HT3 HU DX HR4 Pj;obtain⟨A,r,fp,hR,hS,hT⟩:=hcut;have HS:=dP hS;have HT:=dP hT;have hO:=uq 12 hR.cc (by omega)
       have HR:=dP hR;clear hR hS hT;go_wp2_with fail
       refine hO.mono ?_;rintro e Z1 ⟨t,rfl,c5,g5⟩;have HR1:=dP (HR.out.drawn g5 c5);clear hO c5 g5 HR
       go_upto_if 66 with fail
       go_cut [66] from 67 to 112 (fun _ wx=>∃ (A:Ra) (r:Rw) (fp:Fp),RD w X wx p a len cap bs o qJ A r fp/\uH r)
       case first =>
        cases t with
        | false =>
         go_wp2;go_meet
         case rel=>exact⟨A,r,fp,HR1.out,HS.out⟩
        | true =>
         have hB:=jP 6 6 rfl HR1.out.cc (by omega) (by omega)
         go_wp2_with fail
         refine hB.mono ?_;rintro e Z2 ⟨y,rfl,hy,c6,g6⟩;have R2:=HR1.out.drawn g6 c6;clear hB c6 g6 HR1;obtain rfl|rfl|rfl|rfl|rfl|rfl:y=0\/y=1\/y=2\/y=3\/y=4\/y=5:=by omega
         ·have R3:=R2.step (dX Z2 (aH #[ah aA (-1),ah aA 1000000,ah aA 1000001] 2))
          have hB3:=jP 3 3 rfl R3.cc (by omega) (by omega)
          have hq:=Bx.new Z2 2 #[ah aA (-1),ah aA 1000000,ah aA 1000001];have hpZ:=R2.cc.lt;have HR3:=dP R3;clear R2 R3;go_wp2_with fail
          refine hB3.mono ?_;rintro e Z3 ⟨z,rfl,hz,c7,g7⟩;have R4:=HR3.out.drawn g7 c7;have hq7:=hq.grown g7 (by simp;omega)
          have d0:=R4.c8.1.1;have d2:=R4.fo 0;have HR4:=dP R4;clear hB3 c7 g7 HR3 hq R4;obtain rfl|rfl|rfl:z=0\/z=1\/z=2:=by omega
          ·have hqc:Z3.cell? ⟨Z2.heap.size,0,ak⟩=au (ah aA (-1)):=hq7.at 0 rfl
           clear hq7;go_wp2;go_meet
           case rel=>exact⟨A,_,fp,HR4.out.ver (-1),⟨by simp only;omega,HS.out.tl,HS.out.ts,HS.out.gl,HS.out.gf,HS.out.sl,HS.out.sf,HS.out.ml,HS.out.mf,HS.out.mX⟩⟩
          ·have hqc:Z3.cell? ⟨Z2.heap.size,1,ak⟩=au (ah aA 1000000):=hq7.at 1 rfl
           clear hq7;go_wp2;go_meet
           case rel=>exact⟨A,_,fp,HR4.out.ver 1000000,⟨by simp only;omega,HS.out.tl,HS.out.ts,HS.out.gl,HS.out.gf,HS.out.sl,HS.out.sf,HS.out.ml,HS.out.mf,HS.out.mX⟩⟩
          ·have hqc:Z3.cell? ⟨Z2.heap.size,2,ak⟩=au (ah aA 1000001):=hq7.at 2 rfl
           clear hq7;go_wp2;go_meet
           case rel=>exact⟨A,_,fp,HR4.out.ver 1000001,⟨by simp only;omega,HS.out.tl,HS.out.ts,HS.out.gl,HS.out.gf,HS.out.sl,HS.out.sf,HS.out.ml,HS.out.mf,HS.out.mX⟩⟩
         ·have R3:=R2.drewN 1
          have WV:=jP 2 2 rfl R3.cc (by omega) (by omega)
          have x1:=R2.c8.1.2.1;have hlen:r.txt.length<=1000:=by have:=HT.out;omega
          have HR3:=dP R3;clear R2 R3;go_wp2_with fail
          refine lU (S:=fun X:aI=>X.cell? ⟨o,1,ak⟩=au (aj A.ta r.txt.length A.tc)) 10 gq (x1) fun hHeld=>?_
          refine fC (i:=0) rfl hHeld ?_;refine fC (i:=1) rfl hHeld ?_;refine fE (i:=2) rfl ?_;refine iJ (i:=3) rfl fun K hK=>?_
          go_simp
          go_at_call 27
          refine WV.mono ?_;rintro e Y6 ⟨z,rfl,hz,c7,g7⟩;have L7:=HR3.out.drawn g7 c7;refine hK.out _ _ L7.c8.1.2.1 (fun zU=>?_)
          clear hK hHeld;have hHeld:=zU;try simp only[iC]
          obtain⟨MM,hM⟩:∃ MM:Nat,20+z=MM:=⟨_,rfl⟩;have WT:IntKind.i64.wrap ((20:Int)+(z:Int))=(MM:Int):=by rw[IntKind.wrap_i64];omega
          have hmk:=ZC MM (by omega)
          have hst:=ZE Y6 MM (by omega)
          have hml:(bV MM (0:UInt8)).length<=21:=by rw[List.length_replicate];omega
          generalize bV MM (0:UInt8)=s at *;refine fE (i:=4) rfl ?_;refine iJ (i:=5) rfl fun K hK=>?_
          go_simp;have L8:=L7.step (dX Y6 (aH (madeCells #[ah .u8 0] MM) 5));refine hK.out _ _ L8.c8.1.2.1 (fun EW=>?_)
          clear hK hHeld;have hHeld:=EW;try simp only[iC]
          refine iJ (i:=6) rfl fun K hK=>?_
          go_simp;refine hK.out _ _ L8.c8.1.2.1 (fun Pg=>?_)
          clear hK hHeld;have hHeld:=Pg;try simp only[iC]
          refine iJ (i:=7) rfl fun K hK=>?_
          go_simp;refine hK.out _ _ (L8.step (dX _ (aH #[aN (sv s)] 9))).c8.1.2.1 (fun ax9=>?_)
          clear hK hHeld;have hHeld:=ax9;try simp only[iC]
          have hA:=L8.app i0 hi0 hz0 hz1 hz2 s hlen;rw[bH] at hA;refine iJ (i:=8) rfl fun K hK=>?_
          refine jH (by rfl) _ _ _ _ (by rfl) (aj A.ta r.txt.length A.tc) _ (by rfl) (by rfl) hA ⟨rfl,rfl,rfl,rfl⟩ ?_
          rintro v' w4 ⟨a',c',rfl,q1,q2,fp',EH⟩;refine hK.out _ _ q1 (fun ay0=>?_)
          clear hK hHeld;have hHeld:=ay0;try simp only[iC]
          refine fC (i:=9) rfl hHeld ?_;have HRn:aG (∃ (A:Ra) (r:Rw) (fp:Fp),RD w X _ p a len cap bs o qJ A r fp/\uH r):=⟨_,_,fp',EH,⟨HS.out.ver,by have:=HT.out;simp;omega,Jk HS.out.ts hml,HS.out.gl,HS.out.gf,HS.out.sl,HS.out.sf,HS.out.ml,HS.out.mf,HS.out.mX⟩⟩
          clear L7 L8 EH hA c7 g7 WV;refine oV rfl fun K hK=>?_
          go_simp;refine hK.out _ _ ?_;go_wp2;go_meet
          case rel=>exact HRn.out
         ·have hV:=aF5 N (N:Int) rfl (by omega) R2.cc
          have HR2:=dP R2;clear R2;go_wp2_with fail
          refine hV.mono ?_;rintro e Z3 ⟨a',c',zs,f',rfl,ho',hf',hfz,aJ9,c7,g7⟩;have R3:=HR2.out.drawn g7 c7;have hs7:=g7.size;have hol:=HR2.out.own.lt;have hXo:=HR2.out.ho;have d1:=R3.c8.1.2.2.1;have d2:=R3.fo 2;obtain⟨fp',R4⟩:=R3.got ho' (fun b hb=>by have:=hf' b hb;omega) (fun b hb hfp=>by have:=hf' b hb;have:=jd HR2.out.ls b hfp;omega)
          have HR4:aG (∃ (A:Ra) (r:Rw) (fp:Fp),RD w X (Z3.setCell ⟨o,2,ak⟩ (aj a' zs.length c')) p a len cap bs o qJ A r fp/\uH r):=⟨_,_,fp',R4,⟨HS.out.ver,HS.out.tl,HS.out.ts,aJ9,hfz,HS.out.sl,HS.out.sf,HS.out.ml,HS.out.mf,HS.out.mX⟩⟩;clear R3 R4 hV ho' hf' hfz c7 g7 HR2;go_wp2;go_meet
          case rel=>exact HR4.out
         ·have d1:=R2.c8.2.2.1
          have d2:=R2.fo 5;have HR2:=dP R2;clear R2;go_wp2;go_meet
          case rel=>exact⟨A,_,fp,HR2.out.dV (!r.dV),⟨HS.out.ver,HS.out.tl,HS.out.ts,HS.out.gl,HS.out.gf,HS.out.sl,HS.out.sf,HS.out.ml,HS.out.mf,HS.out.mX⟩⟩
         ·have hF:=Ir (-1) 7 (by omega) (by omega) (by omega) R2.cc
          have HR2:=dP R2;clear R2;go_wp2_with fail
          refine hF.mono ?_;rintro e Z3 ⟨x,rfl,hx0,hx1,c7,g7⟩;have R3:=HR2.out.drawn g7 c7;have d1:=R3.c8.2.2.2.1;have d2:=R3.fo 6;have HR3:=dP R3;clear R3 hF c7 g7 HR2;go_wp2;go_meet
          case rel=>exact⟨A,_,fp,HR3.out.dW x,⟨HS.out.ver,HS.out.tl,HS.out.ts,HS.out.gl,HS.out.gf,HS.out.sl,HS.out.sf,HS.out.ml,HS.out.mf,⟨hx0,hx1⟩⟩⟩
         ·have WV:=jP 2 2 rfl R2.cc (by omega) (by omega)
          have HR2:=dP R2;clear R2;go_wp2_with fail
          refine WV.mono ?_;rintro e Z3 ⟨z,rfl,hz,c7,g7⟩;have R3:=HR2.out.drawn g7 c7;have hoY:=R3.own.lt;have hXo:=R3.ho;obtain⟨MM,hM⟩:∃ MM:Nat,12+z=MM:=⟨_,rfl⟩;obtain⟨T',aK1,hOS,hsm⟩:∃ T':List (List UInt8),T'.length=MM/\OS (Z3.alloc (aH (madeCells #[.string ⟨#[]⟩] MM) 9)) Z3.heap.size 0 MM MM T'/\∀ i,i<T'.length->(T'.getD i []).length<=21:=⟨bV MM [],by simp,ak5 Z3 MM (by unfold dD;omega),fun i hi=>by simp[aS,List.getElem?_replicate];split<;>simp⟩
          subst aK1;have hmk:=run_make_row' (P:=dA) 42 9 (.string ⟨#[]⟩) 16 Tryz.underlying42 Tryz.info9 rfl aA aA T'.length (by omega) (by omega)
          have WT:(12:Int)+(z:Int)=T'.length:=by omega
          have hwm:wrap64 (T'.length:Int)=T'.length:=by unfold wrap64;omega
          have fU:=dP WT;have jk:=dP hwm;clear WT hwm;have R4:=R3.step (dX Z3 (aH (madeCells #[.string ⟨#[]⟩] T'.length) 9));have d1:=R4.c8.1.2.1;have d2:=R4.fo 1;obtain⟨fp',R5⟩:=R4.txt (a':=au ⟨Z3.heap.size,0,ak⟩) (c':=T'.length) (Z:=T') (f':=fun b=>b=Z3.heap.size) (uN.2 ⟨_,_,au Z3.heap.size,rfl,iQ.of hOS,fun b=>by simp[eq_comm]⟩) (fun b hb=>by omega) (fun b hb hfp=>by have:=jd R3.ls b hfp;omega)
          have HR5:aG (∃ (A:Ra) (r:Rw) (fp:Fp),RD w X ((Z3.alloc (aH (madeCells #[.string ⟨#[]⟩] T'.length) 9)).setCell ⟨o,1,ak⟩ (aj (au ⟨Z3.heap.size,0,ak⟩) T'.length T'.length)) p a len cap bs o qJ A r fp/\uH r):=⟨_,_,fp',R5,⟨HS.out.ver,by simp only;omega,hsm,HS.out.gl,HS.out.gf,HS.out.sl,HS.out.sf,HS.out.ml,HS.out.mf,HS.out.mX⟩⟩
          clear WV c7 g7 HR2 R3 R4 R5 hOS hsm hM hz;generalize hVV:Z3.alloc (aH (madeCells #[.string ⟨#[]⟩] T'.length) 9)=V at *;have WT:=fU.out;have hwm:=jk.out;go_wp2;go_meet
          case rel=>exact HR5.out
       case rest =>
        clear HS HT HR1;obtain⟨A,r,fp,hR,hS⟩:=hcut;have HS:=dP hS;clear hS;obtain⟨⟨e0,e1,e2,e3⟩,e4,e5,e6,e7⟩:=hR.c8;obtain⟨⟨r0b,r1b,r2b,r3b⟩,r4b,r5b,r6b,r7b⟩:=hR.r8;obtain⟨⟨f0,f1,f2,f3⟩,f4,f5,f6,f7⟩:=hR.f8;have HR:=dP hR;clear hR;go_wp2;refine bY (v:=aP #[ah aA r.ver,aj A.ta r.txt.length A.tc,aj A.ga r.got.length A.gc,aj A.sa r.dQ.length A.sc,aF r.wed,aF r.dV,ah aA r.dW,aj A.ma r.dU.length A.mc]) (by simp[results,Tryz.results63,go_sem, *]) rfl ?_
        exact⟨A,r,fp,rfl,HS.out,HR.out.ans⟩
end
theorem CG {T:List (List UInt8)} {m:Nat} (h:∀ i,i<T.length->(T.getD i []).length<=m):∀ k,k<=T.length->Bz T k<=k*m
 | 0,_=>by simp[Bz]
 | k+1,hk=>by
  have:=CG h k (by omega)
  have:=h k (by omega)
  rw[Bz,Nat.add_mul];omega
theorem uH.sz (h:uH r):kH r<=1048576:=by
 have h1:=CG h.ts r.txt.length (cO _);have:=h.tl;have:=h.gl;have:=h.sl;have:=h.ml;have h2:=Nat.mul_le_mul_right 21 h.tl;unfold kH;omega
theorem uH.fit (h:uH r):qo r:=⟨h.gf,h.sf,h.mf⟩
theorem uH.i64 (h:uH r):sQ r:=⟨⟨by have:=h.ver;omega,by have:=h.ver;omega⟩,by have:=h.mX;omega,by have:=h.mX;omega⟩
theorem zW {cs: List dY} {vs: List aJ} {fp: Fp} (h:gB w cs vs fp) {lo: Nat} (hl:∀ b,fp b->lo<=b):It w cs vs lo w.heap.size:=⟨fp,h,fun b hb=>⟨hl b hb,jd h b hb⟩⟩
theorem am7 {B: Nat} {T: TypeId} {y0 y1 y2 y3 y4 y5 y6 y7 x0 x1 x2 x3 x4 x5 x6 x7: aJ} (h:Bx w B T #[y0,y1,y2,y3,y4,y5,y6,y7]):Bx ((((((((w.setCell ⟨B,0,ak⟩ x0).setCell ⟨B,1,ak⟩ x1).setCell ⟨B,2,ak⟩ x2).setCell ⟨B,3,ak⟩ x3).setCell ⟨B,4,ak⟩ x4).setCell ⟨B,5,ak⟩ x5).setCell ⟨B,6,ak⟩ x6).setCell ⟨B,7,ak⟩ x7) B T #[x0,x1,x2,x3,x4,x5,x6,x7]:=by
 have:=(((((((h.lK 0 x0).lK 1 x1).lK 2 x2).lK 3 x3).lK 4 x4).lK 5 x5).lK 6 x6).lK 7 x7;simpa using this
def jZ (R:List Rw) (o:Rw) (n j:Nat):List Int:=(List.range n).map (fun k=>if k<j then max (el o.got k) ((dO R k).txt.length:Int) else el o.got k)
theorem rF (R:List Rw) (o:Rw) (n j:Nat):(jZ R o n j).length=n:=by simp[jZ]
theorem SA {n k: Nat} (hk:k<n):el (jZ R o n j) k=if k<j then max (el o.got k) ((dO R k).txt.length:Int) else el o.got k:=by
 unfold jZ el;simp[hk]
theorem LP {n: Nat} (h:o.got.length=n):jZ R o n 0=o.got:=by
 refine List.ext_getElem (by rw[rF,h]) (fun k h1 h2=>?_)
 simp[jZ,el,h2]
theorem Pm {n: Nat}:jZ R o n n=oI R o n:=by
 unfold jZ oI;refine List.map_congr_left (fun k hk=>?_)
 rw[if_pos (List.mem_range.1 hk)]
theorem LQ {n: Nat} (hj:j<n):(jZ R o n j).set j (max (el o.got j) ((dO R j).txt.length:Int))=jZ R o n (j+1):=by
 refine List.ext_getElem (by simp[rF]) (fun k h1 h2=>?_)
 rw[rF] at h2;rw[List.getElem_set];by_cases e:j=k
 ·subst e
  simp[jZ]
 ·rw[if_neg e]
  simp only[jZ,List.getElem_map,List.getElem_range]
  by_cases hk:k<j
  ·rw[if_pos hk,if_pos (by omega)]
  ·rw[if_neg hk,if_neg (by omega)]
structure Stg (m:Mb) (i n:Nat):Prop where
 e1:fD m=learn m.rows i (dO m.rows i) (fA n (dO m.rows i).dQ)
 ok1:iO { m with rows:=m.rows.set i (fD m) } i n
 uw:(fD m).wed=aC->gW m={ fD m with got:=oI m.rows (fD m) n }/\iO { m with rows:=m.rows.set i (gW m) } i n/\iT m=lF (m.rows.set i (gW m)) n (60-m.dR.length) m.dR
 wd:(fD m).wed=aB->gW m=fD m/\iT m=m.dR
 ok2:iO { m with rows:=m.rows.set i (gW m),dR:=iT m } i n
 F5:iO { m with rows:=m.rows.set i (iF m),dR:=iT m } i n
 qp:iO { m with rows:=m.rows.set i (fB m),dR:=iT m } i n
 ay1:(iF m).wed=(gW m).wed
 eL:jR m=fA n (gW m).dQ
 mem:i∈jR m
 e3:iF m=if (gW m).wed=aB/\n<2*(jR m).length/\(jR m).head?=au i then lead (m.rows.set i (gW m)) i (gW m) (jR m) else gW m
 e4:fB m=if (iF m).wed=aB/\(jR m).head?≠au i then adopt (m.rows.set i (iF m)) i (iF m) ((jR m).headD 0) else iF m
 eE:jK m=((fB m).dV&&(decide (n<2*(jR m).length)&&ends (m.rows.set i (fB m)) i (fB m) (jR m)))
 e5:kN m=if lQ (dO m.rows i) (fB m)=aB then fB m else { fB m with ver:=(fB m).ver+1 }
 ver:(fB m).ver=(dO m.rows i).ver
theorem DF {m: Mb} {n: Nat} (M:iO m i n) (hd:m.done=aC):Stg m i n:=by
 have hi:=M.i;have hk:=M.k;have hown:=M.own;have hlt:=M.lt;have ok:=M.ok i hlt;have hov:=ok.ver;have hlen:i<m.rows.length:=by rw[M.len];exact hlt
 have hs0:∀ q,q<m.dR.length->el m.dR q=(q:Int):=fun q hq=>(M.sg q hq).2 hd
 have e1:fD m=learn m.rows i (dO m.rows i) (fA n (dO m.rows i).dQ):=by rw[fD,hi,hk,hown]
 have L1:zH (dO m.rows i) (fD m):=by rw[e1];exact qN _ _ _ _
 have AQ:∀ x∈(fD m).dQ,(0<=x/\x<(n:Int))/\x≠(i:Int):=fun x hx=>by
  rw[e1] at hx;rcases AA _ _ _ _ hx with hx|⟨k,k1,k2,k3,k4⟩
  ·exact⟨ok.dQ x hx,fun e=>M.self (e ▸ hx)⟩
  ·exact⟨(M.ok k (jh.1 k1).1).dQ x k3,k4⟩
 have ok1 : iR (fD m) n := ⟨ok.n5,by rw [L1.ver];exact ok.ver,by rw [L1.txt];exact ok.tl,by rw [L1.txt];exact ok.ts,by rw [L1.got];exact ok.got,by rw [L1.got];exact ok.gl,by rw [L1.got];exact ok.g12,fun x hx => (AQ x hx).1,kZ.2 (by rw [e1];exact AP _ _ _ _ (kZ.1 ok.oL)),fun hr => by
  rw[L1.dV] at hr;obtain⟨a1,a2⟩:=ok.dV hr;rw[L1.dW,L1.dU];exact⟨L1.wed a1,a2⟩,fun hr=>by rw[L1.dV] at hr;rw[L1.dW,L1.dU];exact ok.not hr⟩
 have uy:(i:Int)∉(fD m).dQ:=fun hx=>(AQ _ hx).2 rfl
 have toM:∀ (o:Rw),iR o n->(i:Int)∉o.dQ->el o.got i=(o.txt.length:Int)->iO { m with rows:=m.rows.set i o } i n:=fun o h1 h2 h3=>by
  have:=M.to (o':=o) (lZ:=m.dR) (done':=m.done) h1 h2 h3 M.sl M.oL M.sg (fun h=>(by rw[hd] at h;cases h))
  exact this
 have UJ:el (fD m).got i=((fD m).txt.length:Int):=by rw[L1.got,L1.txt];exact M.nO
 have ZI:=toM (fD m) ok1 uy UJ
 cases hw1:(fD m).wed with
 | false =>
  have hr1:=ok1.VE hw1;have e2:gW m={ fD m with got:=oI m.rows (fD m) n }:=by rw[gW,if_neg (by rw[hw1];simp),hk]
  have hg2:∀ j,j<n->el (gW m).got j=max (el (dO m.rows i).got j) ((dO m.rows j).txt.length:Int):=fun j hj=>by rw[e2];simp only;rw[Hg hj,L1.got]
  have BD:(gW m).got.length=n:=by rw[e2];simp[oI]
  have hr2:(gW m).dV=aC:=by rw[e2];exact hr1
  have hw2:(gW m).wed=aC:=by rw[e2];exact hw1
  have ht2:(gW m).txt=(dO m.rows i).txt:=by rw[e2];exact L1.txt
  have hsm:=(jF ok.n5 BD).2 (fun j hj=>by rw[hg2 j hj];have:=ok.g j hj;have:=(M.ok j hj).tl;omega)
  have ok2:iR (gW m) n:=⟨ok.n5,by rw[e2];exact ok1.ver,by rw[e2];exact ok1.tl,by rw[e2];exact ok1.ts,hsm.1,BD,hsm.2,by rw[e2];exact ok1.dQ,by rw[e2];exact ok1.oL,fun h=>(by rw[hr2] at h;cases h),fun _=>by rw[e2];exact ok1.not hr1⟩
  have Dq:(i:Int)∉(gW m).dQ:=by rw[e2];exact uy
  have ai8:el (gW m).got i=((gW m).txt.length:Int):=by rw[hg2 i hlt,ht2,M.nO];omega
  have e3:iF m=gW m:=by rw[iF,if_neg (by rw[hw2];simp)]
  have e4:fB m=gW m:=by rw[fB,e3,if_neg (by rw[hw2];simp)]
  have eS:iT m=lF (m.rows.set i (gW m)) n (60-m.dR.length) m.dR:=by rw[iT,if_neg (by rw[hw1];simp),hi,hk]
  obtain⟨s1,s2⟩:(iT m).length<=60/\(∀ q,q<(iT m).length->el (iT m) q=(q:Int)):=by
   rw[eS];have:=M.sl;obtain⟨q1,q2,q3,q4⟩:=AB (m.rows.set i (gW m)) n (60-m.dR.length) m.dR hs0;exact⟨by omega,q3⟩
  have okS:iO { m with rows:=m.rows.set i (gW m),dR:=iT m } i n:=by
   have:=M.to (o':=gW m) (lZ:=iT m) (done':=m.done) ok2 Dq ai8 s1 (zl s2) (fun q hq=>⟨by rw[s2 q hq];omega,fun _=>s2 q hq⟩) (fun h=>(by rw[hd] at h;cases h))
   exact this
  exact⟨e1,ZI,fun _=>⟨e2,toM _ ok2 Dq ai8,eS⟩,fun h=>(by rw[hw1] at h;cases h),okS,by rw[e3];exact okS,by rw[e4];exact okS,by rw[e3],by rw[jR,hk],by rw[jR,hk];exact jh.2 ⟨hlt,Dq⟩,by rw[iF,hi,hk],by rw[fB,hi],by rw[jK,hi,hk],by rw[kN,hown],by rw[e4,e2];exact L1.ver⟩
 | true =>
  have e2:gW m=fD m:=by rw[gW,if_pos hw1]
  have eL:jR m=fA n (fD m).dQ:=by rw[jR,e2,hk]
  have eS:iT m=m.dR:=by rw[iT,if_pos hw1]
  have hiL:i∈fA n (fD m).dQ:=jh.2 ⟨hlt,uy⟩;have N9:fA n (fD m).dQ≠[]:=fun e=>by rw[e] at hiL;cases hiL
  have hrow:∀ {o:Rw},iR o n->∀ j,j<n->iR (dO (m.rows.set i o) j) n:=fun {o} ho j hj=>by
   rw[gY hlen]
   split
   ·exact ho
   ·exact M.ok j hj
  obtain⟨F5,k1,k2,k3,k4,k5⟩:iR (iF m) n/\(iF m).dQ=(fD m).dQ/\(iF m).wed=aB/\(iF m).got=(fD m).got/\(iF m).txt=(fD m).txt/\(iF m).ver=(fD m).ver:=by
   by_cases c:(gW m).wed=aB/\m.k<2*(jR m).length/\(jR m).head?=au m.i
   ·have e3:iF m=lead (m.rows.set i (fD m)) i (fD m) (fA n (fD m).dQ):=by rw[iF,if_pos c,e2,eL,hi]
    obtain⟨a1,a2,a3,a4,a5⟩:=yE (m.rows.set i (fD m)) i (fD m) (fA n (fD m).dQ);obtain⟨b1,b2⟩:=Dt (R:=m.rows.set i (fD m)) ok1 hw1 hlt N9 (fun k hk=>hrow ok1 k (jh.1 hk).1)
    rw[e3];exact⟨b1,a1,by rw[a2];exact hw1,a3,a4,a5⟩
   ·have e3:iF m=fD m:=by rw[iF,if_neg c,e2]
    rw[e3];exact⟨ok1,rfl,hw1,rfl,rfl,rfl⟩
  obtain⟨qp,l1,l2,l3,l4,l5⟩:iR (fB m) n/\(fB m).dQ=(fD m).dQ/\(fB m).wed=aB/\(fB m).got=(fD m).got/\(fB m).txt=(fD m).txt/\(fB m).ver=(fD m).ver:=by
   by_cases c:(iF m).wed=aB/\(jR m).head?≠au m.i
   ·have e4:fB m=adopt (m.rows.set i (iF m)) i (iF m) ((fA n (fD m).dQ).headD 0):=by rw[fB,if_pos c,eL,hi]
    have hf:(fA n (fD m).dQ).headD 0<n:=by
     cases eh:fA n (fD m).dQ with
     | nil=>exact absurd eh N9
     | cons f t=>exact (jh.1 (show f∈fA n (fD m).dQ by rw[eh];exact bF)).1
    obtain⟨a1,a2,a3,a4,a5⟩:=wM (m.rows.set i (iF m)) i (iF m) ((fA n (fD m).dQ).headD 0);obtain⟨b1,b2⟩:=KT (i:=i) (R:=m.rows.set i (iF m)) F5 k2 hf (hrow F5 _ hf);rw[e4];exact⟨b1,a1.trans k1,a2.trans k2,a3.trans k3,a4.trans k4,a5.trans k5⟩
   ·have e4:fB m=iF m:=by rw[fB,if_neg c]
    rw[e4];exact⟨F5,k1,k2,k3,k4,k5⟩
  exact⟨e1,ZI,fun h=>(by rw[hw1] at h;cases h),fun _=>⟨e2,eS⟩,by rw[e2,eS];exact ZI,by rw[eS];exact toM _ F5 (by rw[k1];exact uy) (by rw[k3,k4];exact UJ),by rw[eS];exact toM _ qp (by rw[l1];exact uy) (by rw[l3,l4];exact UJ),by rw[k2,e2,hw1],by rw[eL,e2],by rw[eL];exact hiL,by rw[iF,hi,hk],by rw[fB,hi],by rw[jK,hi,hk],by rw[kN,hown],by rw[l5];exact L1.ver⟩
theorem LU {L: List Nat} (h:i∈L):0<L.length/\(L.head?=au i↔L.getD 0 0=i)/\L.headD 0=L.getD 0 0/\L.getD 0 0∈L:=by
 cases L with
 | nil=>cases h
 | cons x t=>simp
end Go.Proofs.YtafimeakbdmkjaaGreat