/-
  Texts in one.
-/
import Derived.Test.YtafimeakbdmkjaaGreatWac
import Derived.Test.YtafimeakbdmkjaaGreatWaa
import Derived.StillTail
import Derived.Deep.Quiet
import Derived.BigQuiet
namespace Go.Proofs.YtafimeakbdmkjaaGreat
open Bool renaming and_eq_true->aU2,false->aC,true->aB
open Go renaming Calls->ba3,Value->aJ,World->aI,bodyPost_ret->aY1,maxLen->ba2,wpQuiet_nil->aZ2
open Go.Builtin renaming append_->aV5
open Go.Ending renaming returned->aK
open Go.IntKind renaming i64->aA
open Go.Obj renaming cells->aH
open Go.Proofs.Tryz renaming prog->aZ8,underlying26->aT9
open Go.Region renaming binds->aY8,ready->aY9
open Go.RowKit renaming Hid->aG,intOf->ba4
open Go.RowKit.Below renaming refl->aZ5
open Go.Value renaming bool->aF,int->ah,pointer->aO,slice->aj
open Go.World renaming block_lt_of_cell?->bG,cell?_of_block->bT,size_alloc->aU1
open Int renaming toNat_natCast->dM
open List renaming drop_succ_cons->cZ,drop_zero->aX0,getD->ba0,getElem?_eq_getElem->bC,length_cons->aU6,length_nil->aV8,length_set->aV3,length_take->aU5,mem_iff_getElem->bU,mem_of_getElem?->bW,nil_append->aW1,range->aZ6,range_succ->aW2,replicate->aW5,set_set->aY4,take_of_length_le->bJ,take_succ_cons->dA,take_succ_eq_append_getElem->aS,take_zero->aX2
open Nat renaming add_zero->aY5,le_refl->aZ0,le_trans->aY2,lt_of_lt_of_le->dJ,zero_add->aY7,zero_le->aZ1
open Option renaming none->ak,some->au
open Option.some renaming inj->aV4
set_option linter.unusedVariables false
set_option linter.unusedSimpArgs false
open Go.RowKit Go.Sort
set_option maxRecDepth 100000
set_option maxHeartbeats 12800000
variable {f fr:Fp} {W X1 Y w w':aI} {B bb c i j k lc off rb:Nat} {x:Ml} {a b v0 v2 vr x0 x1 x2 x3 x4 x5 x6 x7:aJ} {id n:Int} {m:Mb} {Ar:Ra} {r:Rw}
theorem Tryz.infoMl:(Tryz.prog.info? 68).map (fun i=>(i.zero,i.size,i.bytes))=au (au (.agg #[ah aA 0,ah aA 0,ah aA 0,aj ak 0 0,aj ak 0 0,aj ak 0 0,aF aC,aF aC,ah aA 0,aj ak 0 0]),10,136):=by kernel_rfl
theorem nZ {b: Nat} {v: aJ} (hw:eU f w w') (hn:¬ f b) (h:w.cell? ⟨b,i,ak⟩=au v):w'.cell? ⟨b,i,ak⟩=au v:=(bT (hw.block b (bG _ _ h) hn)).trans h
def yM (x:Ml) (A:Ra):Array aJ:=#[ah aA x.fr,ah aA x.to,ah aA x.row.ver,aj A.ta x.row.txt.length A.tc,aj A.ga x.row.got.length A.gc,aj A.sa x.row.dQ.length A.sc,aF x.row.wed,aF x.row.dV,ah aA x.row.dW,aj A.ma x.row.dU.length A.mc]
theorem Ku {A: Ra} (h:gq w (jL x.row) (jw A x.row) f):gq w (jU x) (yM x A).toList f:=vC (vC (EP h))
theorem Gw.UY {X: aI} {o: Nat} {g: Gr} {fp: Fp} {la: Option Addr} (how:eF.ow X (iF 10 jU g.dS) (aj la g.dS.length lc) f) (hfl:∀ b,f b->b<X.heap.size)
  (hput:∀ (X1:aI) (L:List Ml) (u':aJ) (f':Fp),eU f X X1->eF.ow X1 (iF 10 jU L) u' f'->(∀ b,f' b->f b\/X.heap.size<=b)->X1.cell? ⟨B,o+2,ak⟩=au (aj la g.dS.length lc)/\X1.frozen? ⟨B,o+2,ak⟩=aC/\Gw w (X1.setCell ⟨B,o+2,ak⟩ u') B o { g with dS:=L } fp bb off c)
  (hb:Below X.heap.size X X1) {x:Ml} {Ar:Ra} {fr:Fp} (hr:gq X1 (jL x.row) (jw Ar x.row) fr) (hfr:∀ b,fr b->X.heap.size<=b) (hl:g.dS.length<=1000000) :
  ∀ Y,Same Y (X1.alloc (aH (yM x Ar) 68))->∃ v' w4,(aV5 #[26,26] 26 #[aj la g.dS.length lc,aj (au ⟨X1.heap.size,0,ak⟩) 1 1]).run aZ8 Y=.ok v' w4 /\
   ∃ a' c',v'=aj a' (g.dS.length+1) c'/\eU f X w4/\w4.cell? ⟨B,o+2,ak⟩=au (aj la g.dS.length lc)/\w4.frozen? ⟨B,o+2,ak⟩=aC/\Gw w (w4.setCell ⟨B,o+2,ak⟩ (aj a' (g.dS.length+1) c')) B o { g with dS:=g.dS++[x] } fp bb off c:=by
 intro Y hY;have lQ:=(dX X1 _).trans (hY.below.mono (dX X1 _).size);have tN:=eP hb lQ;have I7:=hb.size;have uU:=Ku (gy hr lQ);obtain⟨a',c',w4,fp',k1,k2,k3,k4⟩:=tK (P:=aZ8) ng (w:=Y) 26 26 68 _ 136 aT9 Tryz.infoMl rfl (by omega) (x:=x) (eF.gK how tN) uU (fun b h1 h2=>by have:=hfl b h1;have:=hfr b h2;omega) (rH uU (xK x)) X1.heap.size 68 (by rw[hY.heap];exact heap_alloc_new X1 _) (by unfold ba2;omega) (by omega)
 have hw:eU f X w4:=(eU.of_below (f:=f) tN).trans k3 (fun _ _ h=>h)
 obtain ⟨q1,q2,q3⟩ := hput w4 (g.dS ++ [x]) (aj a' (g.dS.length + 1) c') fp' hw k2 (fun b hb1 => by
  rcases k4 b hb1 with k|k|k
  ·exact .inl k
  ·exact .inr (hfr b k)
  ·right
   have:=tN.size
   omega)
 exact⟨_,w4,k1,a',c',rfl,hw,q1,q2,q3⟩
def PS (B o bb i rb j:Nat) (v2 v0 vr x0 x1 x2 x3 x4 x5 x6 x7:aJ) (X:aI):Prop:=X.cell? ⟨B,o+2,ak⟩=au v2/\X.cell? ⟨B,o,ak⟩=au v0/\X.cell? ⟨bb,i,ak⟩=au vr/\X.cell? ⟨rb,j,ak⟩=au x0/\X.cell? ⟨rb,j+1,ak⟩=au x1/\X.cell? ⟨rb,j+2,ak⟩=au x2/\X.cell? ⟨rb,j+3,ak⟩=au x3/\X.cell? ⟨rb,j+4,ak⟩=au x4/\X.cell? ⟨rb,j+5,ak⟩=au x5/\X.cell? ⟨rb,j+6,ak⟩=au x6/\X.cell? ⟨rb,j+7,ak⟩=au x7
theorem PS.wrt {o: Nat} {X: aI} (h:PS B o bb i rb j v2 v0 vr x0 x1 x2 x3 x4 x5 x6 x7 X) (hw:eU f X Y) (h1:¬ f B) (h2:¬ f bb) (h3:¬ f rb):PS B o bb i rb j v2 v0 vr x0 x1 x2 x3 x4 x5 x6 x7 Y:=by
 obtain⟨a,b,c,d0,d1,d2,d3,d4,d5,d6,d7⟩:=h;exact⟨nZ hw h1 a,nZ hw h1 b,nZ hw h2 c,nZ hw h3 d0,nZ hw h3 d1,nZ hw h3 d2,nZ hw h3 d3,nZ hw h3 d4,nZ hw h3 d5,nZ hw h3 d6,nZ hw h3 d7⟩
theorem PS.below {o: Nat} {X: aI} (h:PS B o bb i rb j v2 v0 vr x0 x1 x2 x3 x4 x5 x6 x7 X) (hb:Below X.heap.size X Y):PS B o bb i rb j v2 v0 vr x0 x1 x2 x3 x4 x5 x6 x7 Y:=h.wrt (f:=fun _=>False) (eU.of_below hb) id id id
theorem LH (B o:Nat) (g:Gr) (n a b:Nat) (fp:Fp) (w:aI) (h:iO w B o (fK g) fp) (ok:OkG g n) (ha:a<n) :
  ba3 aZ8 99 #[aO (au ⟨B,o,ak⟩),ah aA (a:Int),ah aA (b:Int)] w fun e w'=>e=aK (.tuple #[])/\fH w w' B o (fK (iT g (a:Int) (b:Int))) fp:=by
 have fU:=iq;have jy:=ok.n5;have hal:a<g.mem.length:=by rw[ok.ml];exact ha
 have M:=ok.mem a ha;have har:a<(dY g a).rows.length:=by rw[M.len];exact ha
 have R:=M.ok a ha;have Dx:=ok.pF;obtain⟨bb,off,c,G0⟩:=Gw.start h (by omega)
 obtain⟨u,f,f0,hu,hfz,how,hfB,hBl,hfl,hmem,hap,hput⟩:=G0.full;have how':=how;obtain⟨la,lc,_,_,_,rfl,_⟩:=how';obtain⟨rb,ro,rc,Ak,p1,p2,p3,⟨⟨d0,d1,d2,d3⟩,d4,d5,d6,d7⟩,hrs⟩:=ap0 hmem (sG hal) har R.fit;have c0:=G0.mem;have oN:=dP G0;have Ah:=dP hput;have qp:=dP how;have Jf:=dP hfl;have LJ:aG (¬ f B/\¬ f bb/\¬ f rb):=⟨hfB,(hap _ p1).1,(hap _ p2).1⟩;have OM:aG (iT g (a:Int) (b:Int)=if g.dS.length<200 then { g with dS:=g.dS++[⟨(a:Int),(b:Int),dO (dY g a).rows a⟩] } else g):=by rw[aG,iT];simp only[dM]
 have hln:=R.ln;have Jb:=dP hrs;clear hput how hfl hap hmem h hrs p1 p2 hfB G0;by_cases hlt:g.dS.length<200;rotate_left
 ·have g2:¬ ((g.dS.length:Int)<200):=by omega
  have HZ:aG (iT g (a:Int) (b:Int)=g):=by rw[aG,OM.out,if_neg hlt]
  clear d0 d1 d2 d3 d4 d5 d6 d7 p3;go_enter Tryz.func99,Tryz.ntmps99
  go_wp2;go_end0;exact⟨rfl,by rw[HZ.out];exact oN.out.iw⟩
 have g2:(g.dS.length:Int)<200:=by omega
 have HZ:aG (iT g (a:Int) (b:Int)={ g with dS:=g.dS++[⟨(a:Int),(b:Int),dO (dY g a).rows a⟩] }):=by rw[aG,OM.out,if_pos hlt]
 have a0:(0:Int)<=a:=by omega
 have a1:(a:Int)<g.mem.length:=by omega
 have a2:(a:Int)<((dY g a).rows.length:Int):=by omega
 have hS0:PS B o bb (off+a*5+2) rb (ro+a*8) (aj la g.dS.length lc) (aj (au ⟨bb,off,ak⟩) g.mem.length c) (aj (au ⟨rb,ro,ak⟩) (dY g a).rows.length rc) (ah aA (dO (dY g a).rows a).ver) (aj Ak.ta (dO (dY g a).rows a).txt.length Ak.tc) (aj Ak.ga (dO (dY g a).rows a).got.length Ak.gc) (aj Ak.sa (dO (dY g a).rows a).dQ.length Ak.sc) (aF (dO (dY g a).rows a).wed) (aF (dO (dY g a).rows a).dV) (ah aA (dO (dY g a).rows a).dW) (aj Ak.ma (dO (dY g a).rows a).dU.length Ak.mc) w:=⟨hu,c0,p3,d0,d1,d2,d3,d4,d5,d6,d7⟩;have Gt:=dP hS0;generalize hrr:dO (dY g a).rows a=r at *;have hbd:=(Same.drewN w 1).below;clear d0 d1 d2 d3 d4 d5 d6 d7 p3 c0 OM hrr M R;go_enter Tryz.func99,Tryz.ntmps99
 go_wp2_with fail
 clear hu;refine lG (S:=PS B o bb (off+a*5+2) rb (ro+a*8) (aj la g.dS.length lc) (aj (au ⟨bb,off,ak⟩) g.mem.length c) (aj (au ⟨rb,ro,ak⟩) (dY g a).rows.length rc) (ah aA r.ver) (aj Ak.ta r.txt.length Ak.tc) (aj Ak.ga r.got.length Ak.gc) (aj Ak.sa r.dQ.length Ak.sc) (aF r.wed) (aF r.dV) (ah aA r.dW) (aj Ak.ma r.dU.length Ak.mc)) 24 fU ((hS0.below hbd)) fun hHeld=>?_
 refine fE (i:=0) rfl ?_;refine fE (i:=1) rfl ?_;refine fE (i:=2) rfl ?_;refine fE (i:=3) rfl ?_;refine fC (i:=4) rfl hHeld ?_;refine fE (i:=5) rfl ?_;refine fE (i:=6) rfl ?_;refine fE (i:=7) rfl ?_;refine fE (i:=8) rfl ?_;refine fE (i:=9) rfl ?_;refine fC (i:=10) rfl hHeld ?_;refine fE (i:=11) rfl ?_;refine fE (i:=12) rfl ?_;refine fE (i:=13) rfl ?_;refine fC (i:=14) rfl hHeld ?_;refine fE (i:=15) rfl ?_;refine fE (i:=16) rfl ?_;refine fC (i:=17) rfl hHeld ?_;refine iy (i:=18) rfl fun K hK=>?_
 go_simp
 go_at_call 76
 refine (yL Ak r _ (Jb.out.below hbd) hln.1 hln.2.1 hln.2.2.1 hln.2.2.2).mono ?_;rintro e w1 ⟨Ar,rfl,fr,hr1,hr2,hr3⟩;have hb1:=eP hbd hr3;have hA:=Gw.UY (x:=⟨(a:Int),(b:Int),r⟩) qp.out Jf.out Ah.out hb1 hr1 (fun b hb=>hr2 b hb) (by omega)
 refine hK.out _ _ (Gt.out.below hb1) (fun eG=>?_)
 clear hK hHeld;have hHeld:=eG;try simp only[gW]
 unfold iK;unfold fP;unfold yM at hA;refine fE (i:=19) rfl ?_;refine iy (i:=20) rfl fun K hK=>?_
 go_simp;refine hK.out _ _ (Gt.out.below (hb1.trans ((dX w1 _).mono hb1.size))) (fun eG=>?_)
 clear hK hHeld;have hHeld:=eG;try simp only[gW]
 refine iy (i:=21) rfl fun K hK=>?_
 refine jm (by rfl) _ _ _ _ (by rfl) (aj la g.dS.length lc) _ (by rfl) (by rfl) hA ⟨rfl,rfl,rfl,rfl⟩ ?_
 rintro v9 w4 ⟨a9,c9,rfl,hw4,q1,q2,EU⟩;refine hK.out _ _ (Gt.out.wrt hw4 LJ.out.1 LJ.out.2.1 LJ.out.2.2) (fun eG=>?_)
 clear hK hHeld;have hHeld:=eG;try simp only[gW]
 refine fE (i:=22) rfl ?_;refine fE (i:=23) rfl ?_;refine oH rfl fun K hK=>?_
 go_simp;refine hK.out _ _ ?_;have HG9:=dP EU;clear EU hA hr1 hr2 hr3 q1 q2 hw4;generalize w4.setCell ⟨B,o+2,ak⟩ (aj a9 (g.dS.length+1) c9)=W9 at *;go_wp2;go_end0;exact⟨rfl,by rw[HZ.out];exact HG9.out.iw⟩
def oO (g:Gr) (a:Int) (k:Nat):Gr:=(aZ6 k).foldl (fun g (i:Nat)=>if (i:Int)=a then g else iT g a (i:Int)) g
theorem yN (g:Gr) (a:Int) (k:Nat):oO g a (k+1)=if (k:Int)=a then oO g a k else iT (oO g a k) a (k:Int):=by
 unfold oO;rw[aW2,List.foldl_append]
 rfl
theorem Kv {g:Gr} {n a:Nat} (ok:OkG g n) (ha:a<n):∀ k,k<=n->OkG (oO g (a:Int) k) n
 | 0,_=>ok
 | k+1,hk=>by
  have ih:=Kv ok ha k (by omega)
  rw[yN]
  split
  ·exact ih
  ·rename_i hne
   exact (ih.push ha (by omega) (fun e=>hne (by rw[e]))).1
theorem LK (B o:Nat) (g:Gr) (n a:Nat) (fp:Fp) (w:aI) (h:iO w B o (fK g) fp) (ok:OkG g n) (ha:a<n) :
  ba3 aZ8 78 #[aO (au ⟨B,o,ak⟩),ah aA (a:Int)] w fun e w'=>e=aK (.tuple #[])/\fH w w' B o (fK (kS g (a:Int))) fp:=by
 have jy:=ok.n5;have HZ:aG (kS g (a:Int)=oO g (a:Int) n):=by rw[aG,kS,oO,ok.ml]
 have H0:=dP (fH.refl h);have iE:=dP (Kv ok ha)
 have HP:aG (∀ (k:Nat) (wr:aI),k<n->fH w wr B o (fK (oO g (a:Int) k)) fp->ba3 aZ8 99 #[aO (au ⟨B,o,ak⟩),ah aA (a:Int),ah aA (k:Int)] wr fun e w'=>e=aK (.tuple #[])/\fH w w' B o (fK (iT (oO g (a:Int) k) (a:Int) (k:Int))) fp):=fun k wr hk hb=>by
  obtain⟨gI,hp,_,hgo⟩:=hb.next;exact (LH B o _ n a k gI wr hp (iE.out k (by omega)) ha).mono (fun e w' ⟨e1,e2⟩=>⟨e1,hgo _ _ rfl e2⟩)
 clear h;go_enter Tryz.func78,Tryz.ntmps78
 go_wp2
 go_loopw [4] (fun i wr=>∃ k:Nat,k<=n/\i=ah aA (k:Int)/\fH w wr B o (fK (oO g (a:Int) k)) fp) (fun i _=>n-(ba4 i).toNat)
 case atStart=>exact⟨0,aZ1 _,rfl,H0.out⟩
 case round =>
  obtain⟨k,hk,rfl,hb⟩:=hrel;obtain⟨gI,hp,_,_⟩:=hb.next;have Jg:=iE.out k hk;obtain⟨bb,off,c,G0⟩:=Gw.start hp (by rw[Jg.ml];omega)
  have c0:=G0.mem;rw[Jg.ml] at c0;have HB:=dP hb;clear hb hp G0 Jg;by_cases hlt:k<n
  ·have k1:(k:Int)<n:=by omega
   have WT:=HP.out k wr hlt HB.out;by_cases hka:(k:Int)=a
   ·have g1:((k:Int) != (a:Int))=aC:=by simpa using hka
    have HN:aG (fH w wr B o (fK (oO g (a:Int) (k+1))) fp):=by rw[aG,yN,if_pos hka];exact HB.out
    clear hka WT;go_wp2;go_roundw
    case rel=>exact⟨k+1,by omega,by go_num,HN.out⟩
    case measure=>simp[ba4];omega
   ·have g1:((k:Int) != (a:Int))=aB:=by simpa using hka
    have HM:aG (iT (oO g (a:Int) k) (a:Int) (k:Int)=oO g (a:Int) (k+1)):=by rw[aG,yN,if_neg hka]
    clear hka;go_wp2_with (go_at_call 99;refine WT.mono ?_;rintro e w1 ⟨rfl,hb1⟩;have HB1:aG (fH w w1 B o (fK (oO g (a:Int) (k+1))) fp):=(by rw[aG,<- HM.out];exact hb1);clear hb1)
    go_roundw
    case rel=>exact⟨k+1,by omega,by go_num,HB1.out⟩
    case measure=>simp[ba4];omega
  ·have k1:¬ ((k:Int)<n):=by omega
   have e:k=n:=by omega
   have HF:aG (fH w wr B o (fK (kS g (a:Int))) fp):=by rw[aG,HZ.out,<- e];exact HB.out
   clear e;go_wp2;go_end0;exact⟨rfl,HF.out⟩
theorem OO (h:inB n 1 5=aC\/inB id 0 (n-1)=aC):kN id n=(kY,aC):=by
 unfold kN;rw[if_neg];rintro⟨h1,h2⟩;rcases h with h|h
 ·rw[h] at h1;cases h1
 ·rw[h] at h2;cases h2
theorem WU (h1:inB n 1 5=aB) (h2:inB id 0 (n-1)=aB):kN id n=(⟨id,n,aW5 n.toNat (jV n),[],aC⟩,aB):=by
 unfold kN;rw[if_pos ⟨h1,h2⟩]
theorem ZQ (w:aI) (id n:Int):MO w ((w.alloc (aH #[ah aA 0,ah aA 0,aj ak 0 0,aj ak 0 0,aF aC] 47)).alloc (aH #[ah aA id,ah aA n,aj ak 0 0,aj ak 0 0,aF aC] 47)) (w.heap.size+1) ⟨ak,0,ak,0⟩ ⟨id,n,[],[],aC⟩ (fun _=>False):=by
 have x1:=Bx.new (w.alloc (aH #[ah aA 0,ah aA 0,aj ak 0 0,aj ak 0 0,aF aC] 47)) 47 #[ah aA id,ah aA n,aj ak 0 0,aj ak 0 0,aF aC];rw[aU1] at x1;exact⟨x1,WA _,fun b h=>h.elim,by omega,(dX w _).trans ((dX _ _).mono (dX w _).size)⟩
theorem OQ (id n:Int) (w:aI) :
  ba3 aZ8 41 #[ah aA id,ah aA n] w fun e w'=>I8 w w' e (kN id n).1 (kN id n).2:=by
 have fU:=iq;have hb0:=dX w (aH #[ah aA 0,ah aA 0,aj ak 0 0,aj ak 0 0,aF aC] 47);have hx:=Bx.new w 47 #[ah aA 0,ah aA 0,aj ak 0 0,aj ak 0 0,aF aC];have T0:=ZQ w id n;have HR0:aG (Bx ((w.alloc (aH #[ah aA 0,ah aA 0,aj ak 0 0,aj ak 0 0,aF aC] 47)).alloc (aH #[ah aA id,ah aA n,aj ak 0 0,aj ak 0 0,aF aC] 47)) w.heap.size 47 #[ah aA 0,ah aA 0,aj ak 0 0,aj ak 0 0,aF aC]):=hx.alloc _
 cases e1:inB n 1 5 with
 | false =>
  have HZ:aG (kN id n=(kY,aC)):=OO (.inl e1);generalize hW:w.alloc (aH #[ah aA 0,ah aA 0,aj ak 0 0,aj ak 0 0,aF aC] 47)=W at *;have HB0:aG (Below w.heap.size w W):=hb0;obtain⟨c0,c1,c2,c3,c4⟩:=Bx.r5 hx;obtain⟨f0,f1,f2,f3,f4⟩:=hx.f5;clear hx hb0 T0 HR0;go_enter Tryz.func41,Tryz.ntmps41
  go_wp2_with (go_at_call 40;refine fV (gG _ _ _ _) ?_)
  refine aY1 (v:=.tuple #[iL ⟨ak,0,ak,0⟩ kY,aF aC]) (by simp[results,Tryz.results41,go_sem,iL,ig,kY, *]) rfl ?_
  rw[HZ.out];exact⟨_,rfl,ER ((qN W w.heap.size).below HB0.out HB0.out.size (fun b h=>by rw[h];exact aZ0 _))⟩
 | true =>
 have jy:=iQ.1 e1;have wn:wrap64 (n-1)=n-1:=by unfold wrap64;omega
 cases e2:inB id 0 (n-1) with
 | false =>
  have HZ:=dP (OO (.inr e2));generalize hW:w.alloc (aH #[ah aA 0,ah aA 0,aj ak 0 0,aj ak 0 0,aF aC] 47)=W at *;have HB0:aG (Below w.heap.size w W):=hb0;obtain⟨c0,c1,c2,c3,c4⟩:=Bx.r5 hx;obtain⟨f0,f1,f2,f3,f4⟩:=hx.f5;clear hx hb0 T0 HR0;go_enter Tryz.func41,Tryz.ntmps41
  go_wp2_with (go_at_call 40;refine fV (gG _ _ _ _) ?_)
  refine aY1 (v:=.tuple #[iL ⟨ak,0,ak,0⟩ kY,aF aC]) (by simp[results,Tryz.results41,go_sem,iL,ig,kY, *]) rfl ?_
  rw[HZ.out];exact⟨_,rfl,ER ((qN W w.heap.size).below HB0.out HB0.out.size (fun b h=>by rw[h];exact aZ0 _))⟩
 | true =>
 obtain⟨N,rfl⟩:∃ N:Nat,n=(N:Int):=⟨n.toNat,by omega⟩
 have HZ:aG (kN id (N:Int)=(⟨id,(N:Int),aW5 N (jV (N:Int)),[],aC⟩,aB)):=by rw[aG,WU e1 e2];rfl
 have HT0:=dP T0;clear hx hb0 T0;go_enter Tryz.func41,Tryz.ntmps41
 go_wp2_with (go_at_call 40;refine fV (gG _ _ _ _) ?_)
 clear e1 e2 wn
 go_loopw [7] (fun i wr=>∃ k:Nat,k<=N/\i=ah aA (k:Int)/\∃ A R fp,aG (R=aW5 k (jV (N:Int)))/\MO w wr (w.heap.size+1) A ⟨id,(N:Int),R,[],aC⟩ fp/\Bx wr w.heap.size 47 #[ah aA 0,ah aA 0,aj ak 0 0,aj ak 0 0,aF aC]) (fun i _=>N-(ba4 i).toNat)
 case atStart=>exact⟨0,aZ1 _,rfl,_,[],_,rfl,HT0.out,HR0.out⟩
 case round =>
  obtain⟨k,hk,rfl,A,R,fp,hR,M,hres⟩:=hrel;by_cases hlt:k<N
  ·have k1:(k:Int)<N:=by omega
   have hRl:R.length<=1000000:=by rw[hR.out,List.length_replicate];omega
   have BN:=dP hres;have HM:=dP M;have c2:wr.drew.cell? ⟨w.heap.size+1,2,ak⟩=au (aj A.ra R.length A.rc):=M.own.at 2 rfl;have hbd:=(Same.drewN wr 1).below;clear M hres;go_wp2_with fail
   refine lG (S:=fun X:aI=>X.cell? ⟨w.heap.size+1,2,ak⟩=au (aj A.ra R.length A.rc)) 7 fU (c2) fun hHeld=>?_
   refine fC (i:=0) rfl hHeld ?_;refine fC (i:=1) rfl hHeld ?_;refine fE (i:=2) rfl ?_;refine iy (i:=3) rfl fun K hK=>?_
   go_simp
   go_at_call 80
   refine (Og _ _).mono ?_;rintro e w1 ⟨Ar,rfl,fr,hr1,hr2,hr3⟩;have hb1:=eP hbd hr3;have hA:=HM.out.push hb1 hr1 (fun b hb=>hr2 b hb) hRl
   have d2:w1.cell? ⟨w.heap.size+1,2,ak⟩=au (aj A.ra R.length A.rc):=(HM.out.own.below hb1).at 2 rfl;have d3:=((HM.out.own.below hb1).alloc (aH (fP Ar (jV (N:Int))) 44)).at 2 rfl;refine hK.out _ _ d2 (fun eG=>?_)
   clear hK hHeld;have hHeld:=eG;try simp only[gW]
   unfold iK;unfold fP at hA d3 ⊢;refine iy (i:=4) rfl fun K hK=>?_
   go_simp;refine hK.out _ _ d3 (fun eG=>?_)
   clear hK hHeld;have hHeld:=eG;try simp only[gW]
   refine iy (i:=5) rfl fun K hK=>?_
   refine jm (by rfl) _ _ _ _ (by rfl) (aj A.ra R.length A.rc) _ (by rfl) (by rfl) hA ⟨rfl,rfl,rfl,rfl⟩ ?_
   rintro v9 w4 ⟨a9,c9,rfl,q1,q2,b4,b5,fp9,vW⟩;refine hK.out _ _ q1 (fun eG=>?_)
   clear hK hHeld;have hHeld:=eG;try simp only[gW]
   refine fC (i:=6) rfl hHeld ?_;refine oH rfl fun K hK=>?_
   go_simp;refine hK.out _ _ ?_;have jK:=dP vW;have Dv:aG (Bx (w4.setCell ⟨w.heap.size+1,2,ak⟩ (aj a9 (R.length+1) c9)) w.heap.size 47 #[ah aA 0,ah aA 0,aj ak 0 0,aj ak 0 0,aF aC]):=(b5.block w.heap.size (Nat.lt_succ_self _)).trans BN.out;have Cj:aG (R++[jV (N:Int)]=aW5 (k+1) (jV (N:Int))):=by rw[aG,hR.out,List.replicate_succ']
   clear vW hA d2 d3 hr1 hr2 hr3;generalize w4.setCell ⟨w.heap.size+1,2,ak⟩ (aj a9 (R.length+1) c9)=W9 at *;go_wp2;go_roundw
   case rel=>exact⟨k+1,by omega,by go_num,_,_,_,Cj,jK.out,Dv.out⟩
   case measure=>simp[ba4];omega
  ·have k1:¬ ((k:Int)<N):=by omega
   have e:k=N:=by omega
   have HRN:aG (R=aW5 N (jV (N:Int))):=by rw[aG,hR.out,e]
   clear e;obtain⟨o0,o1,o2,o3,o4⟩:=Bx.r5 M.own;obtain⟨r0,r1,r2,r3,r4⟩:=Bx.r5 hres;obtain⟨f0,f1,f2,f3,f4⟩:=hres.f5;have HA:aG (kW w (((((wr.setCell ⟨w.heap.size,0,ak⟩ (ah aA id)).setCell ⟨w.heap.size,1,ak⟩ (ah aA (N:Int))).setCell ⟨w.heap.size,2,ak⟩ (aj A.ra R.length A.rc)).setCell ⟨w.heap.size,3,ak⟩ (aj A.sa 0 A.sc)).setCell ⟨w.heap.size,4,ak⟩ (aF aC)) (jA ⟨id,(N:Int),R,[],aC⟩) (jB A ⟨id,(N:Int),R,[],aC⟩)):=M.ans (aZ0 _) (Nat.le_succ _);simp only[aV8] at o0 o1 o2 o3 o4;clear M hres hR;go_wp2;refine aY1 (v:=.tuple #[iL A ⟨id,(N:Int),R,[],aC⟩,aF aB]) (by simp[results,Tryz.results41,go_sem,iL,ig, *]) rfl ?_
   rw[HZ.out,<- HRN.out];exact⟨_,rfl,HA.out⟩
theorem Tryz.infoMb:(Tryz.prog.info? 47).map (fun i=>(i.zero,i.size,i.bytes))=au (au (.agg #[ah aA 0,ah aA 0,aj ak 0 0,aj ak 0 0,aF aC]),5,72):=by kernel_rfl
theorem Tryz.infoBo:(Tryz.prog.info? 4).map (fun i=>(i.zero,i.size,i.bytes))=au (au (aF aC),1,1):=by kernel_rfl
def Gv (b:Bool):List eF:=[.v (aF b)]
theorem Kw (b:Bool):(Gv b).length=1:=rfl
theorem Sm (b:Bool):∀ c∈Gv b,c.one:=by
 intro c hc;rw[List.mem_singleton.1 hc]
 rfl
theorem xO (L:List Bool):vX L=iF 1 Gv L:=by
 unfold vX iF
 congr 1
 induction L with
 | nil=>rfl
 | cons b L ih =>
  rw[List.flatMap_cons,<- ih]
  rfl
structure GO (w X:aI) (o:Nat) (A:Ga) (g:Gr) (fp:Fp):Prop where
 own:Bx X o 28 (jH A g)
 ls:gq X (fK g) (jC A g) fp
 kJ:∀ b,fp b->w.heap.size+2<=b/\b≠o
 lo:w.heap.size<=o
 sz:w.heap.size+2<=X.heap.size
 below:Below w.heap.size w X
theorem GO.step {X X': aI} {o: Nat} {A: Ga} {g: Gr} {fp: Fp} (h:GO w X o A g fp) (hb:Below X.heap.size X X'):GO w X' o A g fp:=⟨h.own.below hb,gy h.ls hb,h.kJ,h.lo,aY2 h.sz hb.size,eP h.below hb⟩
theorem GO.put {X: aI} {o: Nat} {A: Ga} {g: Gr} {fp: Fp} (h:GO w X o A g fp) {c: eF} (hj:(fK g)[j]?=au c):∃ u f,(jC A g)[j]?=au u/\eF.ow X c u f/\(∀ b,f b->(w.heap.size+2<=b/\b≠o)/\b<X.heap.size) /\
  ∀ (X1:aI) (c':eF) (u':aJ) (f':Fp) (A':Ga) (g':Gr),eU f X X1->eF.ow X1 c' u' f'->(∀ b,f' b->f b\/X.heap.size<=b)->(fK g).set j c'=fK g'->(jC A g).set j u'=jC A' g'->(jH A g).setIfInBounds j u'=jH A' g' ->
   Bx X1 o 28 (jH A g)/\((∀ b,b<w.heap.size+2->b≠o->X1.heap[b]?=X.heap[b]?)/\Below w.heap.size w X1)/\(∀ b,b<w.heap.size+2->b≠o->(X1.setCell ⟨o,j,ak⟩ u').heap[b]?=X.heap[b]?)/\∃ fp',GO w (X1.setCell ⟨o,j,ak⟩ u') o A' g' fp':=by
 obtain⟨u,f,hu,hc,hs,hp⟩:=zT h.ls hj;have hlt:=jh h.ls;have hol:=h.own.lt;have hsz:=h.sz;have hlo:=h.lo;have hfo:∀ b,f b->(w.heap.size+2<=b/\b≠o)/\b<X.heap.size:=fun b hb=>⟨h.kJ b (hs b hb),hlt b (hs b hb)⟩
 refine⟨u,f,hu,hc,hfo,fun X1 c' u' f' A' g' hw hc' hf' e1 e2 e3=>?_⟩
 have ho1:Bx X1 o 28 (jH A g):=h.own.wrt hw (fun hb=>(hfo o hb).1.2 rfl)
 have hw2:=eU.set X1 o j u';have hws:=hw.size;have aR6:=hw2.size
 have aA7:∀ b,f' b->w.heap.size+2<=b/\b≠o:=fun b hb=>by
  rcases hf' b hb with k|k
  ·exact (hfo b k).1
  ·omega
 have k1 := hp (X1.setCell ⟨o,j,ak⟩ u') c' u' f' (aY2 hw.size hw2.size) (eF.lC hc' hw2 (fun b hb e => (aA7 b hb).2 e)) (fun b hb hn => (hw2.block b (dJ (hlt b hb) hw.size) (h.kJ b hb).2).trans (hw.block b (hlt b hb) hn)) (fun b hb hb2 => by
  rcases hf' b hb with k|k
  ·exact k
  ·have:=hlt b hb2;omega)
 rw[e1,e2] at k1;have hb1:Below w.heap.size w X1:=hw.below h.below h.below.size (fun b hb=>by have:=(hfo b hb).1.1;omega)
 refine⟨ho1,⟨fun b hb hne=>hw.block b (by omega) (fun k=>by have:=(hfo b k).1.1;omega),hb1⟩,fun b hb hne=>(hw2.block b (by omega) hne).trans (hw.block b (by omega) (fun k=>by have:=(hfo b k).1.1;omega)),_, ?_,k1,fun b hb=>?_,h.lo,by omega, ?_⟩
 ·have:=ho1.lW j u'
  rw[e3] at this;exact this
 ·rcases hb with hb|hb
  ·exact aA7 b hb
  ·exact h.kJ b hb.1
 ·exact hw2.below hb1 (by omega) (fun b e=>by rw[e];exact hlo)
theorem GO.al9 {X: aI} {o: Nat} {A: Ga} {g: Gr} {fp: Fp} (h:GO w X o A g fp) (hb:Below X.heap.size X X1) {Am: Ma} (hr:gq X1 (jA m) (jB Am m) fr) (hfr:∀ b,fr b->X.heap.size<=b) (hl:g.mem.length<=1000000) :
  ∀ Y,Same Y (X1.alloc (aH (ig Am m) 47))->∃ v' w4,(aV5 #[24,24] 24 #[aj A.ma g.mem.length A.mc,aj (au ⟨X1.heap.size,0,ak⟩) 1 1]).run aZ8 Y=.ok v' w4 /\
   ∃ a' c',v'=aj a' (g.mem.length+1) c'/\Bx w4 o 28 (jH A g)/\((∀ b,b<w.heap.size+2->b≠o->w4.heap[b]?=X.heap[b]?)/\Below w.heap.size w w4)/\(∀ b,b<w.heap.size+2->b≠o->(w4.setCell ⟨o,0,ak⟩ (aj a' (g.mem.length+1) c')).heap[b]?=X.heap[b]?)/\∃ fp',GO w (w4.setCell ⟨o,0,ak⟩ (aj a' (g.mem.length+1) c')) o ⟨a',c',A.ua,A.uc,A.la,A.lc⟩ { g with mem:=g.mem++[m] } fp':=by
 intro Y hY;have lQ:=(dX X1 _).trans (hY.below.mono (dX X1 _).size);have tN:=eP hb lQ;have I7:=hb.size;obtain⟨u,f,hu,hc,hfo,hput⟩:=h.put (j:=0) (c:=iF 5 kC g.mem) rfl;have hu':=(aV4 hu).symm;subst hu';have uU:=I4 (gy hr lQ);obtain⟨a',c',w4,fp',k1,k2,k3,k4⟩:=tK (P:=aZ8) uF (w:=Y) 24 24 47 _ 72 Tryz.underlying24 Tryz.infoMb rfl (by omega) (x:=m) (eF.gK hc tN) uU (fun b h1 h2=>by have:=(hfo b h1).2;have:=hfr b h2;omega) (rH uU (Sl m)) X1.heap.size 47 (by rw[hY.heap];exact heap_alloc_new X1 _) (by unfold ba2;omega) (by omega)
 have hw:eU f X w4:=(eU.of_below (f:=f) tN).trans k3 (fun _ _ h=>h)
 obtain ⟨q1,q2,q3,q4⟩ := hput w4 (iF 5 kC (g.mem ++ [m])) (aj a' (g.mem.length + 1) c') fp' ⟨a',c',A.ua,A.uc,A.la,A.lc⟩ { g with mem := g.mem ++ [m] } hw k2 (fun b hb1 => by
  rcases k4 b hb1 with k|k|k
  ·exact .inl k
  ·exact .inr (hfr b k)
  ·right;have:=tN.size;omega) rfl (by simp[jC]) (by simp[jH])
 exact⟨_,w4,k1,a',c',rfl,q1,q2,q3,q4⟩
theorem GO.aJ3 {X: aI} {o: Nat} {A: Ga} {g: Gr} {fp: Fp} (h:GO w X o A g fp) (hb:Below X.heap.size X X1) (b:Bool) (hl:g.up.length<=1000000) :
  ∀ Y,Same Y (X1.alloc (aH #[aF b] 4))->∃ v' w4,(aV5 #[25,25] 25 #[aj A.ua g.up.length A.uc,aj (au ⟨X1.heap.size,0,ak⟩) 1 1]).run aZ8 Y=.ok v' w4 /\
   ∃ a' c',v'=aj a' (g.up.length+1) c'/\Bx w4 o 28 (jH A g)/\((∀ b,b<w.heap.size+2->b≠o->w4.heap[b]?=X.heap[b]?)/\Below w.heap.size w w4)/\(∀ b,b<w.heap.size+2->b≠o->(w4.setCell ⟨o,1,ak⟩ (aj a' (g.up.length+1) c')).heap[b]?=X.heap[b]?)/\∃ fp',GO w (w4.setCell ⟨o,1,ak⟩ (aj a' (g.up.length+1) c')) o ⟨A.ma,A.mc,a',c',A.la,A.lc⟩ { g with up:=g.up++[b] } fp':=by
 intro Y hY;have lQ:=(dX X1 _).trans (hY.below.mono (dX X1 _).size);have tN:=eP hb lQ;have I7:=hb.size;obtain⟨u,f,hu,hc,hfo,hput⟩:=h.put (j:=1) (c:=vX g.up) rfl;have hu':=(aV4 hu).symm;subst hu';rw[xO] at hc;have uU:gq Y (Gv b) [aF b] (fun _=>False):=vC ⟨rfl,fun _ h=>h⟩
 obtain⟨a',c',w4,fp',k1,k2,k3,k4⟩:=tK (P:=aZ8) Kw (w:=Y) 25 25 4 _ 1 Tryz.underlying25 Tryz.infoBo rfl (by omega) (x:=b) (eF.gK hc tN) uU (fun b h1 h2=>h2) (rH uU (Sm b)) X1.heap.size 4 (by rw[hY.heap];exact heap_alloc_new X1 _) (by unfold ba2;omega) (by omega)
 have hw:eU f X w4:=(eU.of_below (f:=f) tN).trans k3 (fun _ _ h=>h)
 rw[<- xO] at k2
 obtain ⟨q1,q2,q3,q4⟩ := hput w4 (vX (g.up ++ [b])) (aj a' (g.up.length + 1) c') fp' ⟨A.ma,A.mc,a',c',A.la,A.lc⟩ { g with up := g.up ++ [b] } hw k2 (fun b hb1 => by
  rcases k4 b hb1 with k|k|k
  ·exact .inl k
  ·exact k.elim
  ·right;have:=tN.size;omega) rfl (by simp[jC]) (by simp[jH])
 exact⟨_,w4,k1,a',c',rfl,q1,q2,q3,q4⟩
theorem GO.aJ4 {X: aI} {o: Nat} {A: Ga} {g: Gr} {fp: Fp} (h:GO w X o A g fp) (hb:Below X.heap.size X X1) (hr:gq X1 (jL x.row) (jw Ar x.row) fr) (hfr:∀ b,fr b->X.heap.size<=b) (hl:g.dS.length<=1000000) :
  ∀ Y,Same Y (X1.alloc (aH (yM x Ar) 68))->∃ v' w4,(aV5 #[26,26] 26 #[aj A.la g.dS.length A.lc,aj (au ⟨X1.heap.size,0,ak⟩) 1 1]).run aZ8 Y=.ok v' w4 /\
   ∃ a' c',v'=aj a' (g.dS.length+1) c'/\Bx w4 o 28 (jH A g)/\((∀ b,b<w.heap.size+2->b≠o->w4.heap[b]?=X.heap[b]?)/\Below w.heap.size w w4)/\(∀ b,b<w.heap.size+2->b≠o->(w4.setCell ⟨o,2,ak⟩ (aj a' (g.dS.length+1) c')).heap[b]?=X.heap[b]?)/\∃ fp',GO w (w4.setCell ⟨o,2,ak⟩ (aj a' (g.dS.length+1) c')) o ⟨A.ma,A.mc,A.ua,A.uc,a',c'⟩ { g with dS:=g.dS++[x] } fp':=by
 intro Y hY;have lQ:=(dX X1 _).trans (hY.below.mono (dX X1 _).size);have tN:=eP hb lQ;have I7:=hb.size;obtain⟨u,f,hu,hc,hfo,hput⟩:=h.put (j:=2) (c:=iF 10 jU g.dS) rfl;have hu':=(aV4 hu).symm;subst hu';have uU:=Ku (gy hr lQ);obtain⟨a',c',w4,fp',k1,k2,k3,k4⟩:=tK (P:=aZ8) ng (w:=Y) 26 26 68 _ 136 aT9 Tryz.infoMl rfl (by omega) (x:=x) (eF.gK hc tN) uU (fun b h1 h2=>by have:=(hfo b h1).2;have:=hfr b h2;omega) (rH uU (xK x)) X1.heap.size 68 (by rw[hY.heap];exact heap_alloc_new X1 _) (by unfold ba2;omega) (by omega)
 have hw:eU f X w4:=(eU.of_below (f:=f) tN).trans k3 (fun _ _ h=>h)
 obtain ⟨q1,q2,q3,q4⟩ := hput w4 (iF 10 jU (g.dS ++ [x])) (aj a' (g.dS.length + 1) c') fp' ⟨A.ma,A.mc,A.ua,A.uc,a',c'⟩ { g with dS := g.dS ++ [x] } hw k2 (fun b hb1 => by
  rcases k4 b hb1 with k|k|k
  ·exact .inl k
  ·exact .inr (hfr b k)
  ·right;have:=tN.size;omega) rfl (by simp[jC]) (by simp[jH])
 exact⟨_,w4,k1,a',c',rfl,q1,q2,q3,q4⟩
def zH (w w':aI) (e:Ending) (g:Gr):Prop:=∃ A:Ga,e=aK (jc A g)/\kW w w' (fK g) (jC A g)
def aJ5 (w w':aI) (e:Ending) (g:Gr) (b:Bool):Prop:=∃ A:Ga,e=aK (.tuple #[jc A g,aF b])/\kW w w' (fK g) (jC A g)
theorem WW (w:aI):gq w (fK kQ) (jC ⟨ak,0,ak,0,ak,0⟩ kQ) (fun _=>False) :=
 vO (qE (xJ w 5 kC) (qE (by rw[show vX kQ.up=iF 1 Gv [] from xO []];exact xJ w 1 Gv) (qE (xJ w 10 jU) (⟨rfl,fun _ h=>h⟩:gq w [] [] (fun _=>False)) (fun _ _ h=>h)) (fun _ h=>absurd h id)) (fun _ h=>absurd h id)) (fun b=>by simp)
theorem EW (hb:Below w.heap.size w w'):kW w w' (fK kQ) (jC ⟨ak,0,ak,0,ak,0⟩ kQ):=⟨_,WW w',fun b h=>absurd h id,hb⟩
theorem qF (w:aI) (g:Nat) {c: aJ}:eU (fun x=>x=g) w (((w.setCell ⟨g,0,ak⟩ a).setCell ⟨g,1,ak⟩ b).setCell ⟨g,2,ak⟩ c) :=
 ((eU.set w g 0 a).trans (eU.set _ g 1 b) (fun _ _ h=>h)).trans (eU.set _ g 2 c) (fun _ _ h=>h)
theorem Bx.f3 {T: TypeId} {cs: Array aJ} (h:Bx w B T cs):w.frozen? ⟨B,0,ak⟩=aC/\w.frozen? ⟨B,1,ak⟩=aC/\w.frozen? ⟨B,2,ak⟩=aC:=⟨h.f 0,h.f 1,h.f 2⟩
theorem GO.ans {X: aI} {o r: Nat} {A: Ga} {g: Gr} {fp: Fp} (h:GO w X o A g fp) (hr:w.heap.size<=r) (hro:r<w.heap.size+2) {c: aJ} :
  kW w (((X.setCell ⟨r,0,ak⟩ a).setCell ⟨r,1,ak⟩ b).setCell ⟨r,2,ak⟩ c) (fK g) (jC A g) :=
 ⟨fp,gU h.ls (qF X r) (fun b hb e=>by have:=(h.kJ b hb).1;omega),fun b hb=>by have:=(h.kJ b hb).1;omega,(qF X r).below h.below h.below.size (fun b e=>by omega)⟩
theorem ZR (w:aI):GO w ((w.alloc (aH #[aj ak 0 0,aj ak 0 0,aj ak 0 0] 28)).alloc (aH #[aj ak 0 0,aj ak 0 0,aj ak 0 0] 28)) (w.heap.size+1) ⟨ak,0,ak,0,ak,0⟩ kQ (fun _=>False):=by
 have x1:=Bx.new (w.alloc (aH #[aj ak 0 0,aj ak 0 0,aj ak 0 0] 28)) 28 #[aj ak 0 0,aj ak 0 0,aj ak 0 0];rw[aU1] at x1;exact⟨x1,WW _,fun b h=>h.elim,by omega,by simp only[aU1];omega,(dX w _).trans ((dX _ _).mono (dX w _).size)⟩
def BP (n:Int) (k:Nat):Gr:=⟨(aZ6 k).map (fun (i:Nat)=>(kN (i:Int) n).1),aW5 k aB,[]⟩
theorem WX (n:Int) (k:Nat):BP n (k+1)=⟨(BP n k).mem++[(kN (k:Int) n).1],(BP n k).up++[aB],[]⟩:=by
 unfold BP;simp only[aW2,List.map_append,List.map_cons,List.map_nil,List.replicate_succ']
theorem Ig (n:Int) (w:aI) :
  ba3 aZ8 12 #[ah aA n] w fun e w'=>aJ5 w w' e (jg n).1 (jg n).2:=by
 have hb0:=dX w (aH #[aj ak 0 0,aj ak 0 0,aj ak 0 0] 28);have hx:=Bx.new w 28 #[aj ak 0 0,aj ak 0 0,aj ak 0 0];have T0:=ZR w
 cases e1:inB n 1 5 with
 | false =>
  have HZ:aG (jg n=(kQ,aC)):=by rw[aG,jg,e1];rfl
  generalize hW:w.alloc (aH #[aj ak 0 0,aj ak 0 0,aj ak 0 0] 28)=W at *;have HB0:=dP hb0;obtain⟨c0,c1,c2⟩:=Bx.g3 hx;obtain⟨f0,f1,f2⟩:=hx.f3;clear hx hb0 T0;go_enter Tryz.func12,Tryz.ntmps12
  go_wp2_with (go_at_call 40;refine fV (gG _ _ _ _) ?_)
  refine aY1 (v:=.tuple #[jc ⟨ak,0,ak,0,ak,0⟩ kQ,aF aC]) (by simp[results,Tryz.results12,go_sem,jc,jH,kQ, *]) rfl ?_
  rw[HZ.out];exact⟨_,rfl,EW ((qF W w.heap.size).below HB0.out HB0.out.size (fun b h=>by rw[h];exact aZ0 _))⟩
 | true =>
 have jy:=iQ.1 e1;obtain⟨N,rfl⟩:∃ N:Nat,n=(N:Int):=⟨n.toNat,by omega⟩
 have HZ:aG (jg (N:Int)=(BP (N:Int) N,aB)):=by rw[aG,jg,e1];rfl
 have HT0:aG (GO w ((w.alloc (aH #[aj ak 0 0,aj ak 0 0,aj ak 0 0] 28)).alloc (aH #[aj ak 0 0,aj ak 0 0,aj ak 0 0] 28)) (w.heap.size+1) ⟨ak,0,ak,0,ak,0⟩ kQ (fun _=>False)):=T0
 have HR0:aG (Bx ((w.alloc (aH #[aj ak 0 0,aj ak 0 0,aj ak 0 0] 28)).alloc (aH #[aj ak 0 0,aj ak 0 0,aj ak 0 0] 28)) w.heap.size 28 #[aj ak 0 0,aj ak 0 0,aj ak 0 0]):=hx.alloc _;clear hx hb0 T0;go_enter Tryz.func12,Tryz.ntmps12
 go_wp2_with (go_at_call 40;refine fV (gG _ _ _ _) ?_)
 clear e1
 go_loopw [5] (fun i wr=>∃ k:Nat,k<=N/\i=ah aA (k:Int)/\∃ A g fp,aG (g=BP (N:Int) k)/\GO w wr (w.heap.size+1) A g fp/\Bx wr w.heap.size 28 #[aj ak 0 0,aj ak 0 0,aj ak 0 0]) (fun i _=>N-(ba4 i).toNat)
 case atStart=>exact⟨0,aZ1 _,rfl,_,kQ,_,rfl,HT0.out,HR0.out⟩
 case round =>
  obtain⟨k,hk,rfl,A,g,fp,hg,M,hres⟩:=hrel;by_cases hlt:k<N
  ·have k1:(k:Int)<N:=by omega
   have hml:g.mem.length<=1000000:=by rw[hg.out,BP];simp;omega
   have Gn:g.up.length<=1000000:=by rw[hg.out,BP];simp;omega
   have BN:=dP hres;have HM:=dP M;have zi:aG (BP (N:Int) (k+1)=⟨g.mem++[(kN (k:Int) (N:Int)).1],g.up++[aB],g.dS⟩):=by rw[aG,WX,hg.out];rfl
   clear M hres hg;have hN:=OQ (k:Int) (N:Int) wr;generalize (kN (k:Int) (N:Int)).1=m at *;generalize (kN (k:Int) (N:Int)).2=fl at *;unfold I8 iL ig at hN;go_upto_region 8 with (go_at_call 41;refine hN.mono ?_;rintro e w1 ⟨Am,rfl,fr,hr1,hr2,hr3⟩)
   have hbn:=dX w1 (aH #[ah aA m.id,ah aA m.n,aj Am.ra m.rows.length Am.rc,aj Am.sa m.dR.length Am.sc,aF m.done] 47);have hxn:=Bx.new w1 47 #[ah aA m.id,ah aA m.n,aj Am.ra m.rows.length Am.rc,aj Am.sa m.dR.length Am.sc,aF m.done];generalize hWn:w1.alloc (aH #[ah aA m.id,ah aA m.n,aj Am.ra m.rows.length Am.rc,aj Am.sa m.dR.length Am.sc,aF m.done] 47)=Wn at *;have hbW:=eP hr3 hbn;have hA:=HM.out.al9 (m:=m) (Am:=Am) hbW (gy hr1 hbn) hr2 hml;unfold ig at hA;obtain⟨y0,y1,y2,y3,y4⟩:=Bx.r5 hxn;have Sr:=HM.out.step hbW;have o0:=Sr.own.at 0 rfl;have HRn:=dP (BN.out.below hbW);clear hr1 hr2 hr3 hN hbn hxn Sr;go_upto_region 9 with (at_builtin;refine fJ (by rfl) _ _ _ _ (by rfl) _ _ (by rfl) (by rfl) hA ⟨rfl,rfl,rfl,rfl⟩ ?_;rintro v2 w2 ⟨a2,e2,rfl,q1,_,q3,fp2,hM2⟩;clear o0;have o0:=q1.at 0 rfl;have oz:=q1.f 0)
   have ji:=dP hM2;have HR2:aG (Bx (w2.setCell ⟨w.heap.size+1,0,ak⟩ (aj a2 (g.mem.length+1) e2)) w.heap.size 28 #[aj ak 0 0,aj ak 0 0,aj ak 0 0]):=(q3 w.heap.size (by omega) (by omega)).trans BN.out
   clear hM2 q1 q3 hA o0 oz y0 y1 y2 y3 y4;generalize w2.setCell ⟨w.heap.size+1,0,ak⟩ (aj a2 (g.mem.length+1) e2)=W2 at *;have hA3:=ji.out.aJ3 (aZ5 _ _) aB Gn;have o1:=ji.out.own.at 1 rfl;simp only at hA3 o1
   go_wp2_with (at_builtin;refine fJ (by rfl) _ _ _ _ (by rfl) _ _ (by rfl) (by rfl) hA3 ⟨rfl,rfl,rfl,rfl⟩ ?_;rintro v3 w3 ⟨a3,e3,rfl,q1,_,q3,lS,Gy⟩;clear o1;have o1:=q1.at 1 rfl;have oz:=q1.f 1;have lT:aG (GO w (w3.setCell ⟨w.heap.size+1,1,ak⟩ (aj a3 (g.up.length+1) e3)) (w.heap.size+1) ⟨a2,e2,a3,e3,A.la,A.lc⟩ ⟨g.mem++[m],g.up++[aB],g.dS⟩ lS):=Gy;have HR3:aG (Bx (w3.setCell ⟨w.heap.size+1,1,ak⟩ (aj a3 (g.up.length+1) e3)) w.heap.size 28 #[aj ak 0 0,aj ak 0 0,aj ak 0 0]):=((q3 w.heap.size (by omega) (by omega)).trans HR2.out);clear Gy q1 q3 hA3)
   go_roundw
   case rel=>exact⟨k+1,by omega,by go_num,_,_,_,zi.out.symm,lT.out,HR3.out⟩
   case measure=>simp[ba4];omega
  ·have k1:¬ ((k:Int)<N):=by omega
   have e:k=N:=by omega
   have HGN:aG (g=BP (N:Int) N):=by rw[aG,hg.out,e]
   clear e hg;obtain⟨o0,o1,o2⟩:=Bx.g3 M.own;obtain⟨r0,r1,r2⟩:=Bx.g3 hres;obtain⟨f0,f1,f2⟩:=hres.f3;have HA:aG (kW w (((wr.setCell ⟨w.heap.size,0,ak⟩ (aj A.ma g.mem.length A.mc)).setCell ⟨w.heap.size,1,ak⟩ (aj A.ua g.up.length A.uc)).setCell ⟨w.heap.size,2,ak⟩ (aj A.la g.dS.length A.lc)) (fK g) (jC A g)):=M.ans (aZ0 _) (by omega)
   clear M hres;go_wp2;refine aY1 (v:=.tuple #[jc A g,aF aB]) (by simp[results,Tryz.results12,go_sem,jc,jH, *]) rfl ?_
   rw[HZ.out,<- HGN.out];exact⟨_,rfl,HA.out⟩
def LnG (g:Gr):Prop:=g.mem.length<=1000000/\g.up.length<=1000000/\g.dS.length<=1000000/\(∀ m∈g.mem,LnM m)/\∀ x∈g.dS,WE x.row
theorem OkG.ln {g:Gr} {n:Nat} (h:OkG g n):LnG g:=by
 have h5:=h.n5;refine⟨by rw[h.ml];omega,by rw[h.ul];omega,by have:=h.pF;omega,fun m hm=>?_,fun x hx=>?_⟩
 ·obtain⟨j,hj,rfl⟩:=bU.1 hm
  have:=(h.mem j (by rw[<- h.ml];exact hj)).ln
  simpa[dY,ba0,hj] using this
 ·obtain⟨_,_,_,_,_,_,_,R⟩:=h.jZ x hx
  exact R.ln
theorem OkG.fit {g : Gr} {n : Nat} (h : OkG g n) : Dw g := ⟨fun m hm => by
  obtain⟨j,hj,rfl⟩:=bU.1 hm;have:=(h.mem j (by rw[<- h.ml];exact hj)).fit
  simpa[dY,ba0,hj] using this,fun y hy=>by obtain⟨_,_,_,_,_,_,_,R⟩:=h.jZ y hy;exact R.fit⟩
theorem ap1 (L:List Bool):L.flatMap Gv=pl (L.map Value.bool):=by
 have:=xO L;unfold vX iF at this
 injection this with _ _ h
 exact h.symm
theorem EX {a: Option Addr} (ha:sU a) {x: Option Addr} {L: List Bool} (hv:Jd w x L) (hm:L.length<=1000000) :
  ∃ a' c' w' fp',(aV5 #[25,25] 25 #[aj a 0 0,aj x L.length c]).run aZ8 w=.ok (aj a' L.length c') w'/\eF.ow w' (vX L) (aj a' L.length c') fp'/\eU (fun _=>False) w w'/\∀ b,fp' b->b=w.heap.size:=by
 have e0:eF.ow w (iF 1 Gv []) (aj a 0 0) (fun _=>False):=⟨a,0,[],ak,fun _=>False,rfl,iV.nil _ _ ha,⟨rfl,fun _ h=>h⟩,fun _ _ h=>h,fun b=>by simp⟩
 have hd:gq w (L.flatMap Gv) (L.map Value.bool) (fun _=>False):=by rw[ap1];exact rP.2 ⟨rfl,fun _ h=>h⟩
 obtain ⟨a',c',w',fp',k1,k2,k3,k4⟩ := Kr (P := aZ8) Kw Sm (w := w) 25 25 4 _ 1 Tryz.underlying25 Tryz.infoBo rfl (by omega) (L := []) (M := L) e0 hd (fun _ h => h.elim) x c (by
  rcases hv with h|⟨b,off,rfl,hc⟩
  ·exact .inl h
  ·refine .inr ⟨_,rfl,fun j u hu=>?_⟩
   have hj:j<L.length:=by
    rcases Nat.lt_or_ge j L.length with h|h
    ·exact h
    ·rw[List.getElem?_eq_none (by simpa using h)] at hu;cases hu
   have hcj:=hc j hj;have e:(⟨b,off,ak⟩:Addr).add j=⟨b,off+j,ak⟩:=by by_cases hz:j=0<;>simp[Addr.add,hz]
   rw[e,hcj,<- hu];simp[ba0,hj]) (by simp only[aV8];unfold ba2;omega) (by simp only[aV8];omega)
 simp only[aV8,aY7,aW1] at k1 k2;rw[<- xO] at k2
 exact ⟨a',c',w',fp',k1,k2,k3,fun b hb => by
  rcases k4 b hb with k|k|k
  ·exact k.elim
  ·exact k.elim
  ·exact k⟩
theorem WY {g: Gr} {A: Ga} (hs:w.heap.size+2<=W.heap.size) (hb:Below w.heap.size w W) (hv:Jd w A.ua g.up) (hl:g.up.length<=1000000) :
  ∀ Z,Same Z (W.alloc (aH #[] 4))->∃ v' w4,(aV5 #[25,25] 25 #[aj (au ⟨W.heap.size,0,ak⟩) 0 0,aj A.ua g.up.length A.uc]).run aZ8 Z=.ok v' w4 /\
   ∃ a' c',v'=aj a' g.up.length c'/\Below W.heap.size W w4/\∃ fp,GO w (w4.alloc (aH #[aj ak 0 0,aj a' g.up.length c',aj ak 0 0] 28)) w4.heap.size ⟨ak,0,a',c',ak,0⟩ ⟨[],g.up,[]⟩ fp:=by
 intro Z hZ;have nO:=(dX W _).trans (hZ.below.mono (dX W _).size);have hwZ:=eP hb nO;obtain⟨a',c',w4,fp,k1,k2,k3,k4⟩:=EX (w:=Z) (kV W.heap.size 0) (c:=A.uc) (hv.below hwZ) hl;have b4:Below W.heap.size W w4:=k3.below nO nO.size (fun b h=>h.elim)
 have hZs:=nO.size;have h4s:=k3.size;refine⟨_,w4,k1,a',c',rfl,b4,fp,Bx.new w4 _ _, ?_,fun b hb1=>?_,by omega,by simp only[aU1];omega, ?_⟩
 ·have k5:=eF.gK k2 (dX w4 (aH #[aj ak 0 0,aj a' g.up.length c',aj ak 0 0] 28))
  exact vO (qE (xJ _ 5 kC) (qE k5 (qE (xJ _ 10 jU) (⟨rfl,fun _ h=>h⟩:gq _ [] [] (fun _=>False)) (fun _ h=>absurd h id)) (fun b _ h=>by rcases h with h|h<;>exact h)) (fun _ h=>absurd h id)) (fun b=>by simp)
 ·have:=k4 b hb1
  have:=eF.lg k2 b hb1;omega
 ·exact (eP hb b4).trans ((dX w4 _).mono (by have:=hb.size;omega))
theorem WZ (A:Ga) (g:Gr) (w:aI) (hv:zh w A g) (hln:LnG g) :
  ba3 aZ8 38 #[jc A g] w fun e w'=>zH w w' e g:=by
 have fU:=iq;have x0:=(Bx.new w 28 (jH A g)).alloc (aH #[aj ak 0 0,aj ak 0 0,aj ak 0 0] 28);have x1:=Bx.new (w.alloc (aH (jH A g) 28)) 28 #[aj ak 0 0,aj ak 0 0,aj ak 0 0];rw[aU1] at x1;have hb0:Below w.heap.size w ((w.alloc (aH (jH A g) 28)).alloc (aH #[aj ak 0 0,aj ak 0 0,aj ak 0 0] 28)):=(dX w _).trans ((dX _ _).mono (dX w _).size);have hs0:w.heap.size+2<=((w.alloc (aH (jH A g) 28)).alloc (aH #[aj ak 0 0,aj ak 0 0,aj ak 0 0] 28)).heap.size:=by simp only[aU1];omega
 have hA:=WY (A:=A) (g:=g) hs0 hb0 hv.up hln.2.1;have HV:aG (zh w A g):=hv;obtain⟨mem,up,dS⟩:=g;obtain⟨ma,mc,ua,uc,la,lc⟩:=A;unfold jc;unfold jH at *;simp only at *
 generalize hW:((w.alloc (aH #[aj ma mem.length mc,aj ua up.length uc,aj la dS.length lc] 28)).alloc (aH #[aj ak 0 0,aj ak 0 0,aj ak 0 0] 28))=W at *;have HX0:aG (Bx W w.heap.size 28 #[aj ma mem.length mc,aj ua up.length uc,aj la dS.length lc]):=x0;have qO:aG (Bx W (w.heap.size+1) 28 #[aj ak 0 0,aj ak 0 0,aj ak 0 0]):=x1;have Gt:aG (w.heap.size+2<=W.heap.size):=hs0;have d1:(W.alloc (aH #[] 4)).cell? ⟨w.heap.size,1,ak⟩=au (aj ua up.length uc):=(x0.alloc (aH #[] 4)).at 1 rfl;clear hv x0 x1 hb0 hs0;go_enter Tryz.func38,Tryz.ntmps38
 go_upto_region 2 with (at_builtin;refine fJ (by rfl) _ _ _ _ (by rfl) _ _ (by rfl) (by rfl) hA ⟨rfl,rfl,rfl,rfl⟩ ?_;rintro v1 w1 ⟨a1,e1,rfl,b1,gI,hM1⟩;clear hA d1)
 obtain⟨O,hO⟩:∃ O:Nat,aG (w1.heap.size=O):=⟨_,rfl⟩;have Jh:w.heap.size+2<=O:=by have:=b1.size;have:=Gt.out;have:=hO.out;omega
 rw[hO.out] at hM1;have b2:Below W.heap.size W (w1.alloc (aH #[aj ak 0 0,aj a1 up.length e1,aj ak 0 0] 28)):=b1.trans ((dX w1 _).mono b1.size);have fZ:aG (∃ gI,GO w (w1.alloc (aH #[aj ak 0 0,aj a1 up.length e1,aj ak 0 0] 28)) O ⟨ak,0,a1,e1,ak,0⟩ ⟨[],up,[]⟩ gI):=⟨gI,hM1⟩;have lM:aG (Bx (w1.alloc (aH #[aj ak 0 0,aj a1 up.length e1,aj ak 0 0] 28)) w.heap.size 28 #[aj ma mem.length mc,aj ua up.length uc,aj la dS.length lc]):=HX0.out.below b2;have Aa:aG (Bx (w1.alloc (aH #[aj ak 0 0,aj a1 up.length e1,aj ak 0 0] 28)) (w.heap.size+1) 28 #[aj ak 0 0,aj ak 0 0,aj ak 0 0]):=qO.out.below b2;clear hM1 b1 b2 HX0 qO Gt hW;rw[hO.out];generalize w1.alloc (aH #[aj ak 0 0,aj a1 up.length e1,aj ak 0 0] 28)=W2 at *;go_wp2
 go_loopw [4] (fun i wr=>∃ k:Nat,k<=mem.length/\i=ah aA (k:Int)/\∃ A R fp,aG (R=mem.take k)/\GO w wr O A ⟨R,up,[]⟩ fp/\Bx wr w.heap.size 28 #[aj ma mem.length mc,aj ua up.length uc,aj la dS.length lc]/\Bx wr (w.heap.size+1) 28 #[aj ak 0 0,aj ak 0 0,aj ak 0 0]) (fun i _=>mem.length-(ba4 i).toNat)
 case atStart =>
  obtain⟨fp2,hM2⟩:=fZ.out;exact⟨0,aZ1 _,rfl,_,[],_,rfl,hM2,lM.out,Aa.out⟩
 case round =>
  obtain⟨k,hk,rfl,A,R,fp,hR,M,hpar,hres⟩:=hrel;have hml:mem.length<=1000000:=hln.1;obtain⟨p0,p1,p2⟩:=Bx.g3 hpar;by_cases hlt:k<mem.length
  ·have k1:(k:Int)<mem.length:=by omega
   have k0:(0:Int)<=k:=by omega
   have hRl:R.length<=1000000:=by rw[hR.out,aU5];omega
   obtain⟨b,off,Ak,hma,hc5,hms⟩:=HV.out.member (k:=k) hlt;have hlm:LnM (dY ⟨mem,up,dS⟩ k):=hln.2.2.2.1 _ (bW (sG (g:=⟨mem,up,dS⟩) hlt))
   have hgk:mem.take (k+1)=mem.take k++[dY ⟨mem,up,dS⟩ k]:=by
    rw[aS hlt];simp[dY,ba0,hlt]
   simp only at hma hc5
   subst hma;generalize dY ⟨mem,up,dS⟩ k=m at *;have HMS:aG (wO wr Ak m):=hms.below M.below;have BN:aG (Bx wr (w.heap.size+1) 28 #[aj ak 0 0,aj ak 0 0,aj ak 0 0]):=hres;have OG:aG (Bx wr w.heap.size 28 #[aj (au ⟨b,off,ak⟩) mem.length mc,aj ua up.length uc,aj la dS.length lc]):=hpar;have HM:aG (GO w wr O A ⟨R,up,[]⟩ fp):=M;have c0:wr.cell? ⟨O,0,ak⟩=au (aj A.ma R.length A.mc):=M.own.at 0 rfl
   have KS:∀ X,X.cell? ⟨O,0,ak⟩=au (aj A.ma R.length A.mc)->X.cell? ⟨w.heap.size,0,ak⟩=au (aj (au ⟨b,off,ak⟩) mem.length mc)->Below w.heap.size w X->(X.cell? ⟨O,0,ak⟩=au (aj A.ma R.length A.mc)/\X.cell? ⟨w.heap.size,0,ak⟩=au (aj (au ⟨b,off,ak⟩) mem.length mc)/\X.cell? ⟨b,off+k*5,ak⟩=au (ah aA m.id)/\X.cell? ⟨b,off+k*5+1,ak⟩=au (ah aA m.n)/\X.cell? ⟨b,off+k*5+2,ak⟩=au (aj Ak.ra m.rows.length Ak.rc)/\X.cell? ⟨b,off+k*5+3,ak⟩=au (aj Ak.sa m.dR.length Ak.sc)/\X.cell? ⟨b,off+k*5+4,ak⟩=au (aF m.done)):=fun X y1 y2 hX=>by
    obtain⟨d0,d1,d2,d3,d4⟩:=hc5;have t:∀ x v,w.cell? x=au v->X.cell? x=au v:=fun x v h=>fM hX h
    exact⟨y1,y2,t _ _ d0,t _ _ d1,t _ _ d2,t _ _ d3,t _ _ d4⟩
   have Ad:=M.below;have KK:=fun X (hX:Below wr.heap.size wr X)=>KS X (fM hX c0) (fM hX p0) (eP Ad hX)
   have hbd:Below wr.heap.size wr wr.drew:=(Same.drewN wr 1).below;have P0:aG (wr.cell? ⟨w.heap.size,0,ak⟩=au (aj (au ⟨b,off,ak⟩) mem.length mc)):=p0;clear M hres hpar hms c0 p1 p2;go_wp2_with fail
   refine lG (S:=fun X:aI=>X.cell? ⟨O,0,ak⟩=au (aj A.ma R.length A.mc)/\X.cell? ⟨w.heap.size,0,ak⟩=au (aj (au ⟨b,off,ak⟩) mem.length mc)/\X.cell? ⟨b,off+k*5,ak⟩=au (ah aA m.id)/\X.cell? ⟨b,off+k*5+1,ak⟩=au (ah aA m.n)/\X.cell? ⟨b,off+k*5+2,ak⟩=au (aj Ak.ra m.rows.length Ak.rc)/\X.cell? ⟨b,off+k*5+3,ak⟩=au (aj Ak.sa m.dR.length Ak.sc)/\X.cell? ⟨b,off+k*5+4,ak⟩=au (aF m.done)) 11 fU ((KK _ hbd)) fun hHeld=>?_
   refine fC (i:=0) rfl hHeld ?_;refine fC (i:=1) rfl hHeld ?_;refine fC (i:=2) rfl hHeld ?_;refine fC (i:=3) rfl hHeld ?_;refine fC (i:=4) rfl hHeld ?_;refine fC (i:=5) rfl hHeld ?_;refine fC (i:=6) rfl hHeld ?_;refine iy (i:=7) rfl fun K hK=>?_
   go_simp
   go_at_call 75
   refine (WG Ak m wr.drew (HMS.out.below hbd) hlm).mono ?_;rintro e w3 ⟨Am,rfl,fr,hr1,hr2,hr3⟩;have hb3:Below wr.heap.size wr w3:=eP hbd hr3;have hA:=HM.out.al9 (m:=m) (Am:=Am) hb3 hr1 (fun b hb=>hr2 b hb) hRl
   have hb4:Below wr.heap.size wr (w3.alloc (aH (ig Am m) 47)):=hb3.trans ((dX w3 _).mono hb3.size);refine hK.out _ _ (KK _ hb3) (fun eG=>?_)
   clear hK hHeld;have hHeld:=eG;try simp only[gW]
   unfold iL;unfold ig at hA hb4 ⊢;refine iy (i:=8) rfl fun K hK=>?_
   go_simp;refine hK.out _ _ (KK _ hb4) (fun eG=>?_)
   clear hK hHeld;have hHeld:=eG;try simp only[gW]
   refine iy (i:=9) rfl fun K hK=>?_
   refine jm (by rfl) _ _ _ _ (by rfl) (aj A.ma R.length A.mc) _ (by rfl) (by rfl) hA ⟨rfl,rfl,rfl,rfl⟩ ?_
   rintro v9 w4 ⟨a9,c9,rfl,q1,q2,q3,fp9,vW⟩;have hK4:w4.cell? ⟨w.heap.size,0,ak⟩=au (aj (au ⟨b,off,ak⟩) mem.length mc):=(bT (q2.1 w.heap.size (by omega) (by omega))).trans P0.out
   have o0:=q1.at 0 rfl;have oz:=q1.f 0;refine hK.out _ _ (KS _ o0 hK4 q2.2) (fun eG=>?_)
   clear hK hHeld;have hHeld:=eG;try simp only[gW]
   refine fC (i:=10) rfl hHeld ?_;refine oH rfl fun K hK=>?_
   go_simp;refine hK.out _ _ ?_;have jK:aG (GO w (w4.setCell ⟨O,0,ak⟩ (aj a9 (R.length+1) c9)) O ⟨a9,c9,A.ua,A.uc,A.la,A.lc⟩ ⟨R++[m],up,[]⟩ fp9):=vW;have Dv:aG (Bx (w4.setCell ⟨O,0,ak⟩ (aj a9 (R.length+1) c9)) (w.heap.size+1) 28 #[aj ak 0 0,aj ak 0 0,aj ak 0 0]):=(q3 (w.heap.size+1) (by omega) (by omega)).trans BN.out
   have Jc:aG (Bx (w4.setCell ⟨O,0,ak⟩ (aj a9 (R.length+1) c9)) w.heap.size 28 #[aj (au ⟨b,off,ak⟩) mem.length mc,aj ua up.length uc,aj la dS.length lc]):=(q3 w.heap.size (by omega) (by omega)).trans OG.out
   have Cj:aG (R++[m]=mem.take (k+1)):=by rw[aG,hR.out,hgk]
   clear vW hA hr1 hr2 hr3 KS KK hgk;generalize w4.setCell ⟨O,0,ak⟩ (aj a9 (R.length+1) c9)=W9 at *;clear hb3 hb4 hbd q1 q2 q3 hHeld hK4 o0 oz hc5 p0 P0;go_wp2;go_roundw
   case rel=>exact⟨k+1,by omega,by go_num,_,_,_,Cj,jK.out,Jc.out,Dv.out⟩
   case measure=>simp[ba4];omega
  ·have k1:¬ ((k:Int)<mem.length):=by omega
   have HRm:aG (R=mem):=by rw[aG,hR.out,bJ (by omega)]
   have ji:aG (GO w wr O A ⟨R,up,[]⟩ fp):=M;have OG:aG (Bx wr w.heap.size 28 #[aj ma mem.length mc,aj ua up.length uc,aj la dS.length lc]):=hpar;have BN:aG (Bx wr (w.heap.size+1) 28 #[aj ak 0 0,aj ak 0 0,aj ak 0 0]):=hres;clear M hpar hres hR;generalize wr=V at *;go_wp2;clear p0 p1 p2
   go_loopw [5] (fun i wr=>∃ k:Nat,k<=dS.length/\i=ah aA (k:Int)/\∃ A L fp,aG (L=dS.take k)/\GO w wr O A ⟨R,up,L⟩ fp/\Bx wr w.heap.size 28 #[aj ma mem.length mc,aj ua up.length uc,aj la dS.length lc]/\Bx wr (w.heap.size+1) 28 #[aj ak 0 0,aj ak 0 0,aj ak 0 0]) (fun i _=>dS.length-(ba4 i).toNat)
   case atStart=>exact⟨0,aZ1 _,rfl,_,[],_,rfl,ji.out,OG.out,BN.out⟩
   case round =>
    obtain⟨q,hq,rfl,A2,L,fp2,hL,M,hpar,hres⟩:=hrel;have hll:dS.length<=1000000:=hln.2.2.1;obtain⟨p0,p1,p2⟩:=Bx.g3 hpar;by_cases hlq:q<dS.length
    ·have j1:(q:Int)<dS.length:=by omega
     have j0:(0:Int)<=q:=by omega
     have hLl:L.length<=1000000:=by rw[hL.out,aU5];omega
     obtain⟨b,off,Ak,hla,d0,d1,hc8,hrs⟩:=HV.out.letter (k:=q) hlq;have hlr:WE (eX ⟨mem,up,dS⟩ q).row:=hln.2.2.2.2 _ (bW (lI (g:=⟨mem,up,dS⟩) hlq))
     have hgk:dS.take (q+1)=dS.take q++[eX ⟨mem,up,dS⟩ q]:=by
      rw[aS hlq];simp[eX,ba0,hlq]
     simp only at hla
     subst hla;generalize eX ⟨mem,up,dS⟩ q=y at *;obtain⟨yf,yt,r⟩:=y;simp only at d0 d1 hc8 hrs hlr
     have Jb:=dP (hrs.below M.below);have aJ6:=dP hres;have aJ7:=dP hpar;have HM:=dP M;have c2:wr.cell? ⟨O,2,ak⟩=au (aj A2.la L.length A2.lc):=M.own.at 2 rfl
     have KS:∀ X,X.cell? ⟨O,2,ak⟩=au (aj A2.la L.length A2.lc)->X.cell? ⟨w.heap.size,2,ak⟩=au (aj (au ⟨b,off,ak⟩) dS.length lc)->Below w.heap.size w X->(X.cell? ⟨O,2,ak⟩=au (aj A2.la L.length A2.lc)/\X.cell? ⟨w.heap.size,2,ak⟩=au (aj (au ⟨b,off,ak⟩) dS.length lc)/\X.cell? ⟨b,off+q*10,ak⟩=au (ah aA yf)/\X.cell? ⟨b,off+q*10+1,ak⟩=au (ah aA yt)/\X.cell? ⟨b,off+q*10+2,ak⟩=au (ah aA r.ver)/\X.cell? ⟨b,off+q*10+2+1,ak⟩=au (aj Ak.ta r.txt.length Ak.tc)/\X.cell? ⟨b,off+q*10+2+2,ak⟩=au (aj Ak.ga r.got.length Ak.gc)/\X.cell? ⟨b,off+q*10+2+3,ak⟩=au (aj Ak.sa r.dQ.length Ak.sc)/\X.cell? ⟨b,off+q*10+2+4,ak⟩=au (aF r.wed)/\X.cell? ⟨b,off+q*10+2+5,ak⟩=au (aF r.dV)/\X.cell? ⟨b,off+q*10+2+6,ak⟩=au (ah aA r.dW)/\X.cell? ⟨b,off+q*10+2+7,ak⟩=au (aj Ak.ma r.dU.length Ak.mc)):=fun X y1 y2 hX=>by
      obtain⟨⟨t0,t1,t2,t3⟩,t4,t5,t6,t7⟩:=hc8;have t:∀ x v,w.cell? x=au v->X.cell? x=au v:=fun x v h=>fM hX h
      exact⟨y1,y2,t _ _ d0,t _ _ d1,t _ _ t0,t _ _ t1,t _ _ t2,t _ _ t3,t _ _ t4,t _ _ t5,t _ _ t6,t _ _ t7⟩
     have Ad:=M.below;have KK:=fun X (hX:Below wr.heap.size wr X)=>KS X (fM hX c2) (fM hX p2) (eP Ad hX)
     have hbd:Below wr.heap.size wr wr.drew:=(Same.drewN wr 1).below;have P2:=dP p2;clear M hres hpar hrs c2 p0 p1;go_wp2_with fail
     refine lG (S:=fun X:aI=>X.cell? ⟨O,2,ak⟩=au (aj A2.la L.length A2.lc)/\X.cell? ⟨w.heap.size,2,ak⟩=au (aj (au ⟨b,off,ak⟩) dS.length lc)/\X.cell? ⟨b,off+q*10,ak⟩=au (ah aA yf)/\X.cell? ⟨b,off+q*10+1,ak⟩=au (ah aA yt)/\X.cell? ⟨b,off+q*10+2,ak⟩=au (ah aA r.ver)/\X.cell? ⟨b,off+q*10+2+1,ak⟩=au (aj Ak.ta r.txt.length Ak.tc)/\X.cell? ⟨b,off+q*10+2+2,ak⟩=au (aj Ak.ga r.got.length Ak.gc)/\X.cell? ⟨b,off+q*10+2+3,ak⟩=au (aj Ak.sa r.dQ.length Ak.sc)/\X.cell? ⟨b,off+q*10+2+4,ak⟩=au (aF r.wed)/\X.cell? ⟨b,off+q*10+2+5,ak⟩=au (aF r.dV)/\X.cell? ⟨b,off+q*10+2+6,ak⟩=au (ah aA r.dW)/\X.cell? ⟨b,off+q*10+2+7,ak⟩=au (aj Ak.ma r.dU.length Ak.mc)) 25 fU ((KK _ hbd)) fun hHeld=>?_
     refine fC (i:=0) rfl hHeld ?_;refine fC (i:=1) rfl hHeld ?_;refine fC (i:=2) rfl hHeld ?_;refine fC (i:=3) rfl hHeld ?_;refine fC (i:=4) rfl hHeld ?_;refine fC (i:=5) rfl hHeld ?_;refine fC (i:=6) rfl hHeld ?_;refine fC (i:=7) rfl hHeld ?_;refine fC (i:=8) rfl hHeld ?_;refine fC (i:=9) rfl hHeld ?_;refine fC (i:=10) rfl hHeld ?_;refine fC (i:=11) rfl hHeld ?_;refine fC (i:=12) rfl hHeld ?_;refine fC (i:=13) rfl hHeld ?_;refine fC (i:=14) rfl hHeld ?_;refine fC (i:=15) rfl hHeld ?_;refine fC (i:=16) rfl hHeld ?_;refine fC (i:=17) rfl hHeld ?_;refine fC (i:=18) rfl hHeld ?_;refine fC (i:=19) rfl hHeld ?_;refine iy (i:=20) rfl fun K hK=>?_
     go_simp
     go_at_call 76
     refine (yL Ak r wr.drew (Jb.out.below hbd) hlr.1 hlr.2.1 hlr.2.2.1 hlr.2.2.2).mono ?_;rintro e w3 ⟨Ar,rfl,fr,hr1,hr2,hr3⟩;have hb3:Below wr.heap.size wr w3:=eP hbd hr3;have hA:=HM.out.aJ4 (x:=⟨yf,yt,r⟩) (Ar:=Ar) hb3 hr1 (fun b hb=>hr2 b hb) hLl
     have hb4:Below wr.heap.size wr (w3.alloc (aH (yM ⟨yf,yt,r⟩ Ar) 68)):=hb3.trans ((dX w3 _).mono hb3.size);refine hK.out _ _ (KK _ hb3) (fun eG=>?_)
     clear hK hHeld;have hHeld:=eG;try simp only[gW]
     unfold iK;unfold fP;unfold yM at hA hb4;refine fE (i:=21) rfl ?_;refine iy (i:=22) rfl fun K hK=>?_
     go_simp;refine hK.out _ _ (KK _ hb4) (fun eG=>?_)
     clear hK hHeld;have hHeld:=eG;try simp only[gW]
     refine iy (i:=23) rfl fun K hK=>?_
     refine jm (by rfl) _ _ _ _ (by rfl) (aj A2.la L.length A2.lc) _ (by rfl) (by rfl) hA ⟨rfl,rfl,rfl,rfl⟩ ?_
     rintro v9 w4 ⟨a9,c9,rfl,q1,q2,q3,fp9,vW⟩;have hK4:w4.cell? ⟨w.heap.size,2,ak⟩=au (aj (au ⟨b,off,ak⟩) dS.length lc):=(bT (q2.1 w.heap.size (by omega) (by omega))).trans P2.out
     have o2:=q1.at 2 rfl;have oz:=q1.f 2;refine hK.out _ _ (KS _ o2 hK4 q2.2) (fun eG=>?_)
     clear hK hHeld;have hHeld:=eG;try simp only[gW]
     refine fC (i:=24) rfl hHeld ?_;refine oH rfl fun K hK=>?_
     go_simp;refine hK.out _ _ ?_;have jK:=dP vW;have Dv:aG (Bx (w4.setCell ⟨O,2,ak⟩ (aj a9 (L.length+1) c9)) (w.heap.size+1) 28 #[aj ak 0 0,aj ak 0 0,aj ak 0 0]):=(q3 (w.heap.size+1) (by omega) (by omega)).trans aJ6.out
     have Jc:aG (Bx (w4.setCell ⟨O,2,ak⟩ (aj a9 (L.length+1) c9)) w.heap.size 28 #[aj ma mem.length mc,aj ua up.length uc,aj (au ⟨b,off,ak⟩) dS.length lc]):=(q3 w.heap.size (by omega) (by omega)).trans aJ7.out
     have HL9:aG (L++[⟨yf,yt,r⟩]=dS.take (q+1)):=by rw[aG,hL.out,hgk]
     clear vW hA hr1 hr2 hr3 KS KK hgk;generalize w4.setCell ⟨O,2,ak⟩ (aj a9 (L.length+1) c9)=W9 at *;clear hb3 hb4 hbd q1 q2 q3 hHeld hK4 o2 oz hc8 p2 P2 d0 d1;go_wp2;go_roundw
     case rel=>exact⟨q+1,by omega,by go_num,_,_,_,HL9,jK.out,Jc.out,Dv.out⟩
     case measure=>simp[ba4];omega
    ·have j1:¬ ((q:Int)<dS.length):=by omega
     have Xa:aG (L=dS):=by rw[aG,hL.out,bJ (by omega)]
     obtain⟨o0,o1,o2⟩:=Bx.g3 M.own;obtain⟨r0,r1,r2⟩:=Bx.g3 hres;obtain⟨f0,f1,f2⟩:=hres.f3;have HA:aG (kW w (((wr.setCell ⟨w.heap.size+1,0,ak⟩ (aj A2.ma R.length A2.mc)).setCell ⟨w.heap.size+1,1,ak⟩ (aj A2.ua up.length A2.uc)).setCell ⟨w.heap.size+1,2,ak⟩ (aj A2.la L.length A2.lc)) (fK ⟨R,up,L⟩) (jC A2 ⟨R,up,L⟩)):=M.ans (by omega) (by omega)
     simp only at o0 o1 o2
     clear M hres hpar hL;go_wp2;refine aY1 (v:=jc A2 ⟨R,up,L⟩) (by simp[results,Tryz.results38,go_sem,jc,jH, *]) rfl ?_
     exact⟨A2,by rw[HRm.out,Xa.out],by have:=HA.out;rw[HRm.out,Xa.out] at this;rw[HRm.out,Xa.out];exact this⟩
section
variable {P:Program} {ops:Array Oper} {md:Region.Mode} {C:aI->Prop}
def Ji (P:Program) (md:Region.Mode) (ops:Array Oper) (C:aI->Prop) (n:Nat) (L:Array Bool->Act->Prop):Nat->Array Bool->Act->Prop
 | 0,listed,a=>L listed a
 | f+1,listed,a=>aY9 md ops listed≠[]/\∀ i∈aY9 md ops listed,i<n/\qOp P ops C i (Ji P md ops C n L f (listed.setIfInBounds i aB)) a
theorem OT {n g:Nat} {L:Array Bool->Act->Prop} {Q:Exit->Act->aI->Prop} (hL:∀ listed a w,C w->L listed a->wpAny P md ops Q g listed a w) (f:Nat) :
  ∀ (listed:Array Bool) (a:Act) (w:aI),C w->Ji P md ops C n L f listed a->wpAny P md ops Q (f+g) listed a w:=by
 induction f with
 | zero=>intro listed a w hw h;rw[aY7];exact hL _ _ _ hw h
 | succ f ih =>
  intro listed a w hw h;rw[show f+1+g=(f+g)+1 by omega]
  exact⟨fun h0=>absurd h0 h.1,fun i hi=>wpOp_of_qOp hw (fun a' w' hw' h'=>ih _ a' w' hw' h') (h.2 i hi).2⟩
theorem Rf {n i:Nat} {oi:Oper} {v:aJ} {L:Array Bool->Act->Prop} (hi:ops[i]?=au oi) (hsel:∀ (j:Nat) (o:Oper) cs b,ops[j]?=au o->o.op≠.select cs b)
  (hs:Region.sinkB md ops n=aB) (hc:Region.chainB md ops n=aB) (hn:n<ops.size) (hin:i<n) (hdone:∀ listed a,L listed a->∀ j∈aY9 md ops listed,n<=j) (f:Nat) :
  ∀ (listed:Array Bool) (a:Act),HeadInv md ops n listed ->
   (∀ j oj,ops[j]?=au oj->j≠i->listed.getD j aB=aC->(∀ e∈oj.after,aY8 md e=aB->e.on≠i)->oi.apart ops oj=aB) ->
   i∈aY9 md ops listed->YieldsIn P ops C oi v a ->
   Ji P md ops C n L f (listed.setIfInBounds i aB) (a.put oi.dst v)->Ji P md ops C n L (f+1) listed a:=by
 induction f with
 | zero =>
  intro listed a inv _ hr hy H;have hun:=(mem_ready.1 hr).1;refine⟨fun h=>(by rw[h] at hr;cases hr),fun j hj=>?_⟩
  have hjn:j<n:=Nat.lt_of_not_le fun h=>absurd hj (tail_waits hs hc hn inv _ i rfl hin hun j h)
  refine⟨hjn, ?_⟩;by_cases hji:j=i
  ·subst hji;exact hy.qOp hi H
  ·have:=hdone _ _ H j (ready_mono hj hji)
   omega
 | succ f ih =>
  intro listed a inv hfree hr hy H;have hun:=(mem_ready.1 hr).1;refine⟨fun h=>(by rw[h] at hr;cases hr),fun j hj=>?_⟩
  have hjn:j<n:=Nat.lt_of_not_le fun h=>absurd hj (tail_waits hs hc hn inv _ i rfl hin hun j h)
  refine⟨hjn, ?_⟩;by_cases hji:j=i
  ·subst hji;exact hy.qOp hi H
  ·have h1:=(H.2 j (ready_mono hj hji)).2
   obtain⟨hjun,oj,hoj,hall⟩:=mem_ready.1 hj
   have hnot:∀ e∈oj.after,aY8 md e=aB->e.on≠i:=fun e he hb heq=>by
    have h3:=hall e he hb;rw[heq,getD_both hun] at h3
    cases h3
   have h2:=qOp_put hoj (hfree j oj hoj hji hjun hnot) (fun cs b=>hsel i oi cs b hi) (fun cs b=>hsel j oj cs b hoj) hy h1
   refine qOp_mono (fun a' h3=>ih (listed.setIfInBounds j aB) a' (inv.set hj hjn) (fun k ok hk hki hu hno=>hfree k ok hk hki ?_ hno) (ready_mono hr (Ne.symm hji)) h3.1 ?_) h2
   ·by_cases hjk:j=k
    ·subst hjk;exact hjun
    ·rw[getD_set_ne aB hjk] at hu;exact hu
   ·rw[Array.setIfInBounds_comm _ _ hji]
    exact h3.2
theorem LM {n g:Nat} {Lq:Act->Prop} (hsel:Region.noSelect ops=aB) (hs:Region.sinkB md ops n=aB) (hc:Region.chainB md ops n=aB) (hn:n<ops.size) :
  ∀ (l:List Oper) (k:Nat) (listed:Array Bool) (a:Act),(∀ j,j<l.length->l[j]?=ops[k+j]?)->k+l.length=n->HeadInv md ops n listed ->
  Region.lexHead md ops g l.length k listed=aB->wpQuiet P ops C Lq l a->Ji P md ops C n (fun listed' a'=>Region.seqB md ops g n listed'=aB/\Lq a') l.length listed a
 | [],k,listed,a,_,hk,_,hB,h=>by
  have:k=n:=by simpa using hk
  subst this;exact⟨by simpa[Region.lexHead] using hB,h⟩
 | o::l,k,listed,a,hl,hk,inv,hB,h=>by
  have h0:ops[k]?=au o:=by simpa using (hl 0 (by simp)).symm
  simp only[aU6,Region.lexHead,aU2] at hB;obtain⟨⟨hr,hf⟩,hB'⟩:=hB;have hkn:k<n:=by simp only[aU6] at hk;omega
  have hr':k∈aY9 md ops listed:=by simpa using hr
  have hst:qOp P ops C k (wpQuiet P ops C Lq l) a:=by unfold qOp;simp only[h0];exact h
  obtain⟨v,hy,hK⟩:=yieldsIn_of_qOp h0 hst
  exact Rf h0 (Region.noSelect_spec hsel) hs hc hn hkn (fun listed' a' hL=>seqB_ready hL.1) l.length listed a inv (Region.free_spec h0 hf) hr' hy
   (LM hsel hs hc hn l (k+1) _ _ (fun j hj=>by have:=hl (j+1) (by simp;omega);simpa[Nat.add_assoc,Nat.add_comm 1 j] using this) (by simp only[aU6] at hk;omega) (inv.set hr' hkn) hB' hK)
end
theorem gJ {P: Program} {C: aI -> Prop} {id: Nat} {Q: Exit -> Act -> aI -> Prop} {a: Act} {l: List Oper} (n : Nat) (hm : P.follows .mixedOrders = aB) (hB : Region.lexTailB .any l.toArray n = aB) (hC : C (w.drewN 1))
    (h:wpQuiet P l.toArray C (fun a'=>∀ w', C w'->wpList P l.toArray Q (l.drop n) a' w') (l.take n) a):(Code.region id l.toArray aB).wp P Q a w:=by
  simp only[Region.lexTailB, aU2, decide_eq_true_eq] at hB;obtain⟨⟨⟨⟨hsel, hn⟩, hs⟩, hc⟩, hlex⟩:=hB
  have htl : (l.take n).length = n := by have : n < l.length := by simpa using hn
                                         simp; omega
  have hdl:(l.drop n).length=l.toArray.size-n:=by simp
  have inv0:HeadInv .any l.toArray n (Array.replicate l.toArray.size aC) :=
    ⟨by simp, fun j oj _ hl=>(by rw[getD_replicate_false] at hl; cases hl), fun t _ ht=>getD_in (by simpa using ht) (getD_replicate_false _ _)⟩
  have H := LM (md := .any) (g := l.toArray.size - n) hsel hs hc hn (l.take n) 0 _ a (fun j hj => by
    have hj':j<n:=by rw[htl] at hj; exact hj
    simp[hj']) (by simpa using htl) inv0 (by rw[htl]; exact hlex) h
  refine wp_region_any hm ?_
  have := OT (C := C) (Q := Q) (g := l.toArray.size - n) (fun listed a' w' hw' hL => by
    have:=wpAny_of_seq (md:=.any) (Q':=Q) (l.drop n) n listed a' w' (fun j=>by simp[List.getElem?_drop]) (by rw[hdl]; exact hL.1) (hL.2 w' hw')
    rwa [hdl] at this) _ _ _ (w.drewN 1) hC H
  rw[htl, show n+(l.toArray.size-n)=l.toArray.size by have:n<l.toArray.size:=hn; omega] at this
  exact this
section
theorem iW {R: List Rw} (h:i<R.length):dO (R.set i r) i=r:=by rw[gB h,if_pos rfl]
attribute [local irreducible] sv
theorem EY (B o:Nat) (m:Mb) (i n:Nat) (t:List UInt8) (fp:Fp) (w:aI) (h:iO w B o (kC m) fp) (ok:iP m i n) (ht:t.length<=1000000000) :
  ba3 aZ8 98 #[aO (au ⟨B,o,ak⟩),.string (sv t)] w fun e w'=>e=aK (aF (gX m t).2)/\fH w w' B o (kC (gX m t).1) fp:=by
 have fU:=iq;have hil:i<m.rows.length:=by rw[ok.len];exact ok.lt
 obtain⟨g,off,c,M0⟩:=Mw.start h (by omega)
 obtain⟨c0,c1,c4⟩:=M0.id';have c2:=M0.rws;rw[ok.hid] at c0;have i0:(0:Int)<=i:=by omega
 have i1:(i:Int)<m.rows.length:=by omega
 have p0:∀ q:Bk w,q.w.cell? ⟨B,o,ak⟩=_:=fun q=>fM q.h c0
 have p2:∀ q:Bk w,q.w.cell? ⟨B,o+2,ak⟩=_:=fun q=>fM q.h c2
 have kU:=dP M0;clear c0 c1 c4 c2 M0 h;go_enter Tryz.func98,Tryz.ntmps98
 go_wp2_with fail
 refine jf ?_;repeat (go_big_quiet_step ((first|rfl)))
 refine aZ2 (iI fun wE eH=>?_)
 clear p0 p2;have M1:=kU.out.step eH;have fZ:=dP M1;obtain⟨c0,c1,c4⟩:=M1.id';rw[ok.hid] at c0;obtain⟨Ak,⟨⟨d0,d1,d2,d3⟩,d4,d5,d6,d7⟩,hrs⟩:=M1.row ok.fit hil;have hr:=ok.ok i ok.lt;have az8:=zL t
 have Ih:aG (gX m t=if (dO m.rows i).wed=aB\/m.done=aB\/(dO m.rows i).txt.length=12\/20<t.length\/(dO m.rows i).ver=1000000 then (m,aC) else ({ m with rows:=m.rows.set i { dO m.rows i with txt:=(dO m.rows i).txt++[t],got:=(dO m.rows i).got.set i (el (dO m.rows i).got i+1),ver:=(dO m.rows i).ver+1 } },aB)):=by
  have e:m.i=i:=by unfold Mb.i;rw[ok.hid];rfl
  rw[aG,gX,Mb.put,Mb.own,e]
 have jY:aG (((dO m.rows i).wed=aB\/m.done=aB\/(dO m.rows i).txt.length=12\/20<t.length\/(dO m.rows i).ver=1000000)->gX m t=(m,aC)):=fun h=>by rw[Ih.out,if_pos h]
 have yX:aG (¬ ((dO m.rows i).wed=aB\/m.done=aB\/(dO m.rows i).txt.length=12\/20<t.length\/(dO m.rows i).ver=1000000)->gX m t=({ m with rows:=m.rows.set i { dO m.rows i with txt:=(dO m.rows i).txt++[t],got:=(dO m.rows i).got.set i (el (dO m.rows i).got i+1),ver:=(dO m.rows i).ver+1 } },aB)):=fun h=>by rw[Ih.out,if_neg h]
 have htl:=hr.tl;clear Ih hrs d2 d3 d5 d6 d7 c1 eH kU M1
 cases hwd:(dO m.rows i).wed with
 | true =>
  have HZ:=dP (jY.out (.inl hwd));rw[hwd] at d4;go_wp2;go_ret
  exact⟨dZ (by rw[HZ.out]),by rw[HZ.out];exact fZ.out.iw⟩
 | false =>
 rw[hwd] at d4
 cases hdn:m.done with
 | true =>
  have HZ:=dP (jY.out (.inr (.inl hdn)));rw[hdn] at c4;go_wp2;go_ret
  exact⟨dZ (by rw[HZ.out]),by rw[HZ.out];exact fZ.out.iw⟩
 | false =>
 rw[hdn] at c4;by_cases h12:(dO m.rows i).txt.length=12
 ·have HZ:aG (gX m t=(m,aC)):=jY.out (.inr (.inr (.inl h12)))
  have e12:(((dO m.rows i).txt.length:Int)==12)=aB:=by rw[h12];rfl
  clear h12;go_wp2;go_ret
  exact⟨dZ (by rw[HZ.out]),by rw[HZ.out];exact fZ.out.iw⟩
 have e12:(((dO m.rows i).txt.length:Int)==12)=aC:=by simp;omega
 by_cases h20:20<t.length
 ·have HZ:aG (gX m t=(m,aC)):=jY.out (.inr (.inr (.inr (.inl h20))))
  have e20:(20:Int)<t.length:=by omega
  go_wp2;go_ret
  exact⟨dZ (by rw[HZ.out]),by rw[HZ.out];exact fZ.out.iw⟩
 have e20:¬ ((20:Int)<t.length):=by omega
 by_cases kD:(dO m.rows i).ver=1000000
 ·have HZ:aG (gX m t=(m,aC)):=jY.out (.inr (.inr (.inr (.inr kD))))
  have ev:((dO m.rows i).ver==1000000)=aB:=by rw[kD];rfl
  clear kD;go_wp2;go_ret
  exact⟨dZ (by rw[HZ.out]),by rw[HZ.out];exact fZ.out.iw⟩
 have ev:((dO m.rows i).ver==1000000)=aC:=by simpa using kD
 have HZ:aG (gX m t=_):=yX.out (by rw[hwd,hdn];simp;omega)
 obtain⟨u,f,hu,hfz,how,hlt,hset⟩:=fZ.out.at hil (j:=1) rfl;obtain⟨ta,tc,rfl,hA⟩:=zG t how (by omega)
 have HS:=dP hset;clear d1 hset jY yX how hlt;go_wp2_with (at_builtin;refine fJ (by rfl) _ _ _ _ (by rfl) _ _ (by rfl) (by rfl) hA ⟨rfl,rfl,rfl,rfl⟩ ?_;rintro v1 w1 ⟨a1,e1,f1,rfl,k1,k2,k3⟩;obtain⟨q1,q2,M2,_⟩:=HS.out w1 _ _ f1 { dO m.rows i with txt:=(dO m.rows i).txt++[t] } rfl k3 k1 k2;have ji:aG (Mw w (w1.setCell ⟨g,off+i*8+1,ak⟩ (aj a1 ((dO m.rows i).txt.length+1) e1)) B o { m with rows:=m.rows.set i { dO m.rows i with txt:=(dO m.rows i).txt++[t] } } fp g off c):=M2;clear M2 k1 k2 k3 hA HS)
 clear q1 q2 hu hfz d0 d4 c0 c4;generalize w1.setCell ⟨g,off+i*8+1,ak⟩ (aj a1 ((dO m.rows i).txt.length+1) e1)=W5 at *;generalize hr1:({ dO m.rows i with txt:=(dO m.rows i).txt++[t] }:Rw)=r1 at *
 have hgl:r1.got=(dO m.rows i).got:=by rw[<- hr1]
 have hvl:r1.ver=(dO m.rows i).ver:=by rw[<- hr1]
 have Dy:dO (m.rows.set i r1) i=r1:=iW hil;have vH:i<(m.rows.set i r1).length:=by rw[aV3];exact hil
 have hgi:i<r1.got.length:=by rw[hgl,hr.gl];exact ok.lt
 obtain⟨u,f,hu,hfz,how,hlt,hset⟩:=ji.out.at vH (j:=2) (cl:=gQ r1.got) (by rw[Dy];rfl)
 obtain⟨gb,go,gc,rfl,hfg,hge,hgz,hgs⟩:=l9 how hgi;obtain⟨c0,c1,c4⟩:=ji.out.id';simp only at c0
 rw[ok.hid] at c0;have i2:(i:Int)<r1.got.length:=by omega
 have p0:∀ q:Bk W5,q.w.cell? ⟨B,o,ak⟩=_:=fun q=>fM q.h c0
 have p2:∀ q:Bk W5,q.w.cell? ⟨g,off+i*8+2,ak⟩=_:=fun q=>fM q.h hu
 have p3:∀ q:Bk W5,q.w.cell? ⟨gb,go+i,ak⟩=_:=fun q=>fM q.h hge
 have ZT:-1000<=el r1.got i/\el r1.got i<=1000:=by
  have:=hr.g12 (el r1.got i) (by rw[hgl];exact kM (by rw[<- hgl];exact hgi))
  have h0:=hr.fit;have hg:=(jG hr.n5 hr.gl).1 ⟨hr.got,hr.g12⟩ i ok.lt;rw[hgl];omega
 have hwx:wrap64 (el r1.got i+1)=el r1.got i+1:=by unfold wrap64;omega
 have HH:=dP how;have HEL:aG (el r1.got i=el (dO m.rows i).got i):=by rw[aG,hgl]
 have HGL:=dP hgl;have HVL:=dP hvl;have Xb:=dP Dy;have HR1:=dP hr1;clear hu hfz hge hgz hgs how hset c0 c1 c4 ZT hgl hvl Dy hr1;generalize el r1.got i=x at *;refine gJ (C:=fun w'=>∃ p:Bk W5,w'=p.w) 20 fU (by kernel_rfl) ⟨⟨W5.drewN 1,fO (aZ5 _ _)⟩,rfl⟩ ?_
 simp only[dA,aX2]
 repeat (go_big_quiet_step ((first|rfl)))
 refine aZ2 (iI fun wE eH=>?_)
 simp only[cZ,aX0]
 have hu3:=p2 ⟨wE,eH⟩;simp only at hu3
 have M3:=ji.out.step eH;obtain⟨u,f3,hu,hfz,how,hlt3,hset⟩:=M3.at vH (j:=2) (cl:=gQ r1.got) (by rw[Xb.out];rfl)
 obtain rfl:=aV4 (hu.symm.trans hu3);obtain⟨gb',go',gc',e4,UZ,hge,hgz,hgs⟩:=l9 how hgi
 cases e4
 obtain⟨k1,k2⟩:=hgs (x+1);obtain⟨_,_,_,xA⟩:=hset _ (gQ (r1.got.set i (x+1))) _ f3 { r1 with got:=r1.got.set i (x+1) } (by rw[Xb.out];rfl) k2 k1 (fun b hb=>.inl hb)
 have lU:=dP (xA rfl);clear xA hgs k1 k2 hset M3 how hu hu3 hfz p0 p2 p3 hlt3 hlt;go_upto_region 6 with fail
 generalize wE.setCell ⟨gb,go+i,ak⟩ (ah aA (x+1))=W7 at *;clear hge hgz;rw[aY4] at lU;generalize hr2:({ r1 with got:=r1.got.set i (x+1) }:Rw)=r2 at *
 have uP:i<(m.rows.set i r2).length:=by rw[aV3];exact hil
 have hv2:r2.ver=(dO m.rows i).ver:=by rw[<- hr2];exact HVL.out
 have hs2:dO (m.rows.set i r2) i=r2:=iW hil;obtain⟨v1,v2,pR⟩:=lU.out.put uP (j:=0) (x:=ah aA r2.ver) (y:=ah aA (r2.ver+1)) (r':={ r2 with ver:=r2.ver+1 }) (by rw[hs2];rfl) (by rw[hs2];rfl)
 have hvb:=hr.ver;have hwv:wrap64 (r2.ver+1)=r2.ver+1:=by rw[hv2];unfold wrap64;omega
 simp only[aY5] at v1 v2 pR;rw[aY4] at pR;have iM:=dP pR
 have HFin:aG (({ m with rows:=m.rows.set i { r2 with ver:=r2.ver+1 } }:Mb)=(gX m t).1/\(gX m t).2=aB):=by
  rw[aG,HZ.out];refine⟨?_,rfl⟩;rw[<- hr2,<- HR1.out,HEL.out]
 clear pR hr2 hs2 hv2 HZ hvb;go_wp2;go_ret
 exact⟨dZ (by rw[HFin.out.2]),by rw[<- HFin.out.1];exact iM.out.iw⟩
end
theorem LP (B o:Nat) (m:Mb) (i n:Nat) (who:Int) (fp:Fp) (w:aI) (h:iO w B o (kC m) fp) (ok:iP m i n) :
  ba3 aZ8 100 #[aO (au ⟨B,o,ak⟩),ah aA who] w fun e w'=>e=aK (aF (iJ m who).2)/\fH w w' B o (kC (iJ m who).1) fp:=by
 have fU:=iq;have hil:i<m.rows.length:=by rw[ok.len];exact ok.lt
 obtain⟨g,off,c,M0⟩:=Mw.start h (by omega)
 obtain⟨c0,c1,c4⟩:=M0.id';have c2:=M0.rws;rw[ok.hid] at c0;have i0:(0:Int)<=i:=by omega
 have i1:(i:Int)<m.rows.length:=by omega
 have p0:∀ q:Bk w,q.w.cell? ⟨B,o,ak⟩=_:=fun q=>fM q.h c0
 have p2:∀ q:Bk w,q.w.cell? ⟨B,o+2,ak⟩=_:=fun q=>fM q.h c2
 have kU:=dP M0;clear c0 c1 c4 c2 M0 h;go_enter Tryz.func100,Tryz.ntmps100
 go_wp2_with fail
 refine jf ?_;repeat (go_big_quiet_step ((first|rfl)))
 refine aZ2 (iI fun wE eH=>?_)
 clear p0 p2;have M1:=kU.out.step eH;have fZ:=dP M1;obtain⟨c0,c1,c4⟩:=M1.id';rw[ok.hid] at c0;rw[ok.hn] at c1;obtain⟨Ak,⟨⟨d0,d1,d2,d3⟩,d4,d5,d6,d7⟩,hrs⟩:=M1.row ok.fit hil;have hr:=ok.ok i ok.lt;have hH:=qW Ak.sa (dO m.rows i).dQ.length Ak.sc who (dO m.rows i).dQ wE hrs.dQ hrs.ms
 have HD:aG (iJ m who=if inB who 0 ((n:Int)-1)=aC\/who=(i:Int)\/who∈(dO m.rows i).dQ\/m.done=aB\/(dO m.rows i).ver=1000000 then (m,aC) else ({ m with rows:=m.rows.set i { dO m.rows i with dQ:=gY (dO m.rows i).dQ who,wed:=aB,ver:=(dO m.rows i).ver+1 } },aB)):=by
  have e:m.i=i:=by unfold Mb.i;rw[ok.hid];rfl
  rw[aG,iJ,Mb.put,Mb.own,e,ok.hid,ok.hn]
 have jY:aG ((inB who 0 ((n:Int)-1)=aC\/who=(i:Int)\/who∈(dO m.rows i).dQ\/m.done=aB\/(dO m.rows i).ver=1000000)->iJ m who=(m,aC)):=fun h=>by rw[HD.out,if_pos h]
 have yX:aG (¬ (inB who 0 ((n:Int)-1)=aC\/who=(i:Int)\/who∈(dO m.rows i).dQ\/m.done=aB\/(dO m.rows i).ver=1000000)->iJ m who=({ m with rows:=m.rows.set i { dO m.rows i with dQ:=gY (dO m.rows i).dQ who,wed:=aB,ver:=(dO m.rows i).ver+1 } },aB)):=fun h=>by rw[HD.out,if_neg h]
 have jy:=hr.n5;have wn:wrap64 ((n:Int)-1)=(n:Int)-1:=by unfold wrap64;omega
 have hsl:=hr.sl;have hfs:=hr.fit.2.1;clear HD hrs d1 d2 d5 d6 d7 eH kU M1
 cases e1:inB who 0 ((n:Int)-1) with
 | false =>
  have HZ:=dP (jY.out (.inl e1));go_wp2_with (first|(go_at_call 40;refine fV (gG _ _ _ _) ?_))
  go_ret
  exact⟨dZ (by rw[HZ.out]),by rw[HZ.out];exact fZ.out.iw⟩
 | true =>
 by_cases h2:who=(i:Int)
 ·have HZ:aG (iJ m who=(m,aC)):=jY.out (.inr (.inl h2))
  have e2:(who==(i:Int))=aB:=by rw[h2];simp
  clear h2;go_wp2_with (first|(go_at_call 40;refine fV (gG _ _ _ _) ?_))
  go_ret
  exact⟨dZ (by rw[HZ.out]),by rw[HZ.out];exact fZ.out.iw⟩
 have e2:(who==(i:Int))=aC:=by simpa using h2
 by_cases h3:who∈(dO m.rows i).dQ
 ·have HZ:aG (iJ m who=(m,aC)):=jY.out (.inr (.inr (.inl h3)))
  rw[decide_eq_true h3] at hH;clear h3;go_wp2_with (first|(go_at_call 40;refine fV (gG _ _ _ _) ?_)|(go_at_call 113;refine fV hH ?_))
  go_ret
  exact⟨dZ (by rw[HZ.out]),by rw[HZ.out];exact fZ.out.iw⟩
 rw[decide_eq_false h3] at hH
 cases hdn:m.done with
 | true =>
  have HZ:=dP (jY.out (.inr (.inr (.inr (.inl hdn)))));rw[hdn] at c4;go_wp2_with (first|(go_at_call 40;refine fV (gG _ _ _ _) ?_)|(go_at_call 113;refine fV hH ?_))
  go_ret
  exact⟨dZ (by rw[HZ.out]),by rw[HZ.out];exact fZ.out.iw⟩
 | false =>
 rw[hdn] at c4;by_cases kD:(dO m.rows i).ver=1000000
 ·have HZ:aG (iJ m who=(m,aC)):=jY.out (.inr (.inr (.inr (.inr kD))))
  have ev:((dO m.rows i).ver==1000000)=aB:=by rw[kD];rfl
  clear kD;go_wp2_with (first|(go_at_call 40;refine fV (gG _ _ _ _) ?_)|(go_at_call 113;refine fV hH ?_))
  go_ret
  exact⟨dZ (by rw[HZ.out]),by rw[HZ.out];exact fZ.out.iw⟩
 have ev:((dO m.rows i).ver==1000000)=aC:=by simpa using kD
 have HZ:aG (iJ m who=_):=yX.out (by rw[e1,hdn];simp;exact⟨h2,h3,kD⟩)
 obtain⟨u,f,hu,hfz,how,hlt,hset⟩:=fZ.out.at hil (j:=3) rfl;have how':=how;obtain⟨sa,sc,G,rfl,_,_⟩:=jv.1 how';have hP:=Ol sa sc (dO m.rows i).dQ who wE f how hfs (by omega)
 have HS:=dP hset;have e3:=aV4 (d3.symm.trans hu);rw[e3] at d3 hH;clear e3;clear hu hset jY yX how how' hlt h2 h3 kD;go_wp2_with (first|(go_at_call 40;refine fV (gG _ _ _ _) ?_)|(go_at_call 113;refine fV hH ?_))
 refine hP.mono ?_;rintro e w1 ⟨a1,e1',f1,rfl,k1,k2,k3⟩;obtain⟨q1,q2,M2,_⟩:=HS.out w1 _ _ f1 { dO m.rows i with dQ:=gY (dO m.rows i).dQ who } rfl (eU.of_below k3) k1 k2
 have ji:=dP M2;clear M2 k1 k2 k3 hP HS hH d0 d3 d4 c0 c1 c4 hfz;go_upto_region 5 with fail
 generalize w1.setCell ⟨g,off+i*8+3,ak⟩ (aj a1 (gY (dO m.rows i).dQ who).length e1')=W5 at *;clear q1 q2;generalize hr1:({ dO m.rows i with dQ:=gY (dO m.rows i).dQ who }:Rw)=r1 at *
 have hs1:dO (m.rows.set i r1) i=r1:=iW hil;have vH:i<(m.rows.set i r1).length:=by rw[aV3];exact hil
 obtain⟨v1,v2,Gy⟩:=ji.out.put vH (j:=4) (x:=aF r1.wed) (y:=aF aB) (r':={ r1 with wed:=aB }) (by rw[hs1];rfl) (by rw[hs1];rfl)
 rw[aY4] at Gy;have lT:=dP Gy;have HR1:=dP hr1;clear Gy hs1 hr1;go_upto_region 6 with fail
 generalize W5.setCell ⟨g,off+i*8+4,ak⟩ (aF aB)=W7 at *;clear v1 v2;generalize hr2:({ r1 with wed:=aB }:Rw)=r2 at *
 have uP:i<(m.rows.set i r2).length:=by rw[aV3];exact hil
 have hv2:r2.ver=(dO m.rows i).ver:=by rw[<- hr2,<- HR1.out]
 have hs2:dO (m.rows.set i r2) i=r2:=iW hil;obtain⟨v1,v2,pR⟩:=lT.out.put uP (j:=0) (x:=ah aA r2.ver) (y:=ah aA (r2.ver+1)) (r':={ r2 with ver:=r2.ver+1 }) (by rw[hs2];rfl) (by rw[hs2];rfl)
 have hvb:=hr.ver;have hwv:wrap64 (r2.ver+1)=r2.ver+1:=by rw[hv2];unfold wrap64;omega
 simp only[aY5] at v1 v2 pR;rw[aY4] at pR;have iM:=dP pR
 have HFin:aG (({ m with rows:=m.rows.set i { r2 with ver:=r2.ver+1 } }:Mb)=(iJ m who).1/\(iJ m who).2=aB):=by
  rw[aG,HZ.out];refine⟨?_,rfl⟩;rw[<- hr2,<- HR1.out]
 clear pR hr2 hs2 hv2 HZ hvb;go_wp2;go_ret
 exact⟨dZ (by rw[HFin.out.2]),by rw[<- HFin.out.1];exact iM.out.iw⟩
theorem eU.setCells (g:Nat):∀ (vs:List aJ) (o:Nat) (w:aI),eU (fun b=>b=g) w (w.setCells g o vs)
 | [],o,w=>eU.refl _ _
 | v::vs,o,w=>(eU.set w g o v).trans (eU.setCells g vs (o+1) _) (fun _ _ h=>h)
theorem oP (g:Nat):∀ (vs:List aJ) (o:Nat) (w:aI) (x:Addr),(w.setCells g o vs).frozen? x=w.frozen? x
 | [],o,w,x=>rfl
 | v::vs,o,w,x=>by rw[World.setCells,oP g vs (o+1),World.frozen?_setCell]
theorem iO.all {w1: aI} {o: Nat} {cs cs': List eF} {fp f': Fp} {vs': List aJ} (h:iO w B o cs fp) (hb:Below w.heap.size w w1) (h':gq w1 cs' vs' f') (hl:cs'.length=cs.length) (hf:∀ b,f' b->w.heap.size<=b):fH w (w1.setCells B o vs') B o cs' fp:=by
 obtain⟨vs,h1,h2,h3⟩:=h;have e:=hb.block B h1.lt;have hP1:=h1.of_block e hb.size;have hlen:=jI h2;have hlen':=jI h';have hw:=eU.setCells B vs' o w1;have hlt:=h1.lt;have BK:¬ f' B:=fun k=>by have:=hf B k;omega
 have hsome:∀ j,j<vs'.length->(w1.cell? ⟨B,o+j,ak⟩).isSome=aB:=fun j hj=>by
  rw[hP1.cell j (by omega),bC (by omega)]
  rfl
 refine⟨⟨f',⟨vs',⟨fun j hj=>?_,fun j hj=>?_,dJ hP1.lt hw.size⟩,gU h' hw (fun b hb' e'=>BK (e' ▸ hb')),BK⟩,fun b hb'=>.inr (hf b hb')⟩,fun j hj=>?_,fun j=>?_, ?_⟩
 ·rw[World.cell?_setCells_in B vs' o w1 hsome j hj,bC hj]
 ·rw[oP];exact hP1.free j (by omega)
 ·rw[World.cell?_setCells_out B vs' o w1 _ (fun _ _=>by simp only;omega)]
  exact bT e
 ·rw[oP];simp only[World.frozen?,e]
 ·exact (eU.of_below (f:=fun b=>fp b\/b=B) hb).trans hw (fun b _ k=>.inr k)
theorem Mw.OU {X: aI} {o: Nat} {fp: Fp} {g: Nat} (h:Mw w X B o m fp g off c) (hk:k<m.rows.length) (hb:Below X.heap.size X X1) {r': Rw} (hr:gq X1 (jL r') (jw Ar r') fr) (hfr:∀ b,fr b->X.heap.size<=b) :
  Mw w ((((((((X1.setCell ⟨g,off+k*8,ak⟩ (ah aA r'.ver)).setCell ⟨g,off+k*8+1,ak⟩ (aj Ar.ta r'.txt.length Ar.tc)).setCell ⟨g,off+k*8+2,ak⟩ (aj Ar.ga r'.got.length Ar.gc)).setCell ⟨g,off+k*8+3,ak⟩ (aj Ar.sa r'.dQ.length Ar.sc)).setCell ⟨g,off+k*8+4,ak⟩ (aF r'.wed)).setCell ⟨g,off+k*8+5,ak⟩ (aF r'.dV)).setCell ⟨g,off+k*8+6,ak⟩ (ah aA r'.dW)).setCell ⟨g,off+k*8+7,ak⟩ (aj Ar.ma r'.dU.length Ar.mc)) B o { m with rows:=m.rows.set k r' } fp g off c:=by
 obtain⟨gI,hp,hf1,hgo⟩:=h.iw.next;obtain⟨g',off',c',f,h1,hgB,hfg,hfs,hpl,hput⟩:=hp.el (F:=jr) jW (by omega) (j:=2) (L:=m.rows) rfl (iZ hk)
 have e:=aV4 (h1.symm.trans h.rws)
 cases e
 have hA:=hpl.all hb (EP hr) rfl hfr;have hB:=hgo _ (kC { m with rows:=m.rows.set k r' }) rfl (hput _ r' hA)
 refine⟨hB, ?_⟩;have hr1:X1.cell? ⟨B,o+2,ak⟩=au (aj (au ⟨g,off,ak⟩) m.rows.length c):=(bT (hb.block B hp.lt)).trans h.rws;have:=World.cell?_setCells_out g (fP Ar r').toList (off+k*8) X1 ⟨B,o+2,ak⟩ (fun e _=>absurd e.symm hgB)
 have e2:=this.trans hr1;simp only[aV3]
 exact e2
theorem Mw.free {w X:aI} {B o:Nat} {m:Mb} {fp:Fp} {g off c:Nat} (h:Mw w X B o m fp g off c) {k:Nat} (hk:k<m.rows.length):(X.frozen? ⟨g,off+k*8,ak⟩=aC/\X.frozen? ⟨g,off+k*8+1,ak⟩=aC/\X.frozen? ⟨g,off+k*8+2,ak⟩=aC/\X.frozen? ⟨g,off+k*8+3,ak⟩=aC)/\X.frozen? ⟨g,off+k*8+4,ak⟩=aC/\X.frozen? ⟨g,off+k*8+5,ak⟩=aC/\X.frozen? ⟨g,off+k*8+6,ak⟩=aC/\X.frozen? ⟨g,off+k*8+7,ak⟩=aC:=by
 obtain⟨gI,hp,hf1,hgo⟩:=h.iw.next;obtain⟨g',off',c',f,h1,hgB,hfg,hfs,⟨vs,hpc,hov,_⟩,hput⟩:=hp.el (F:=jr) jW (by omega) (j:=2) (L:=m.rows) rfl (iZ hk)
 have e:=aV4 (h1.symm.trans h.rws)
 cases e
 have hl:vs.length=8:=jI hov;exact⟨⟨hpc.free 0 (by omega),hpc.free 1 (by omega),hpc.free 2 (by omega),hpc.free 3 (by omega)⟩,hpc.free 4 (by omega),hpc.free 5 (by omega),hpc.free 6 (by omega),hpc.free 7 (by omega)⟩
theorem EZ (B o:Nat) (m:Mb) (i n:Nat) (fr:Int) (Ar:Ra) (r:Rw) (fp:Fp) (w:aI) (h:iO w B o (kC m) fp) (ok:iP m i n) (hrw:qJ w Ar r) (h6:jo fr) :
  ba3 aZ8 123 #[aO (au ⟨B,o,ak⟩),ah aA fr,iK Ar r] w fun e w'=>e=aK (aF (fG m fr r).2)/\fH w w' B o (kC (fG m fr r).1) fp:=by
 have fU:=iq;have hil:i<m.rows.length:=by rw[ok.len];exact ok.lt
 obtain⟨g,off,c,LQ⟩:=Mw.start h (by omega)
 have hB0:=dX w (aH (fP Ar r) 44);have hx:=Bx.new w 44 (fP Ar r);have M0:=LQ.step hB0;have Aj:=hrw.below hB0;unfold iK;unfold fP at *;generalize hW:w.alloc (aH #[ah aA r.ver,aj Ar.ta r.txt.length Ar.tc,aj Ar.ga r.got.length Ar.gc,aj Ar.sa r.dQ.length Ar.sc,aF r.wed,aF r.dV,ah aA r.dW,aj Ar.ma r.dU.length Ar.mc] 44)=W at *;have HX:=dP hx;have kU:=dP M0;have Jb:=dP Aj;obtain⟨c0,c1,c4⟩:=M0.id';have c2:=M0.rws;rw[ok.hid] at c0;rw[ok.hn] at c1;obtain⟨Ak,⟨⟨d0,d1,d2,d3⟩,d4,d5,d6,d7⟩,hrs⟩:=M0.row ok.fit hil;obtain⟨⟨x0,x1,x2,x3⟩,x4,x5,x6,x7⟩:=Bx.r8 hx;have hr:=ok.ok i ok.lt;have jy:=hr.n5;have wn:wrap64 ((n:Int)-1)=(n:Int)-1:=by unfold wrap64;omega
 have i0:(0:Int)<=i:=by omega
 have i1:(i:Int)<m.rows.length:=by omega
 have HD:aG (fG m fr r=if inB fr 0 ((n:Int)-1)=aC\/fr=(i:Int)\/fr∈(dO m.rows i).dQ\/m.done=aB\/gu r (n:Int)=aC\/r.ver<=(dO m.rows fr.toNat).ver then (m,aC) else ({ m with rows:=m.rows.set fr.toNat r },aB)):=by
  have e:m.i=i:=by unfold Mb.i;rw[ok.hid];rfl
  rw[aG,fG,Mb.own,e,ok.hid,ok.hn]
 have KI:∀ (q:Bk W) (a b d:Int),ba3 aZ8 40 #[ah aA a,ah aA b,ah aA d] q.w fun e w'=>e=aK (aF (inB a b d))/\Below q.w.heap.size q.w w':=fun q a b d=>(gG a b d q.w).mono (fun e w' h=>⟨h.1,by rw[h.2];exact aZ5 _ _⟩)
 have C1:∀ q:Bk W,ba3 aZ8 40 #[ah aA fr,ah aA 0,ah aA ((n:Int)-1)] q.w fun e w'=>e=aK (aF (inB fr 0 ((n:Int)-1)))/\Below q.w.heap.size q.w w':=fun q=>KI q _ _ _
 have C2:∀ q:Bk W,ba3 aZ8 113 #[aj Ak.sa (dO m.rows i).dQ.length Ak.sc,ah aA fr] q.w fun e w'=>e=aK (aF (decide (fr∈(dO m.rows i).dQ)))/\Below q.w.heap.size q.w w':=fun q=>(qW Ak.sa (dO m.rows i).dQ.length Ak.sc fr (dO m.rows i).dQ q.w (hrs.dQ.below q.h (aZ0 _)) hrs.ms).mono (fun e w' h=>⟨h.1,by rw[h.2];exact aZ5 _ _⟩)
 have C3:∀ q:Bk W,ba3 aZ8 74 #[.agg #[ah aA r.ver,aj Ar.ta r.txt.length Ar.tc,aj Ar.ga r.got.length Ar.gc,aj Ar.sa r.dQ.length Ar.sc,aF r.wed,aF r.dV,ah aA r.dW,aj Ar.ma r.dU.length Ar.mc],ah aA (n:Int)] q.w fun e w'=>e=aK (aF (gu r (n:Int)))/\Below q.w.heap.size q.w w':=fun q=>H8 Ar r (n:Int) q.w (Aj.below q.h)
 have T:∀ {x v},W.cell? x=au v->∀ q:Bk W,q.w.cell? x=au v:=fun h q=>fM q.h h
 have p0:=T c0;have p1:=T c1;have p2:=T c2;have p4:=T c4;have s3:=T d3;have y0:=T x0;have y1:=T x1;have y2:=T x2;have y3:=T x3;have y4:=T x4;have y5:=T x5;have y6:=T x6;have y7:=T x7;by_cases e1:inB fr 0 ((n:Int)-1)=aB;rotate_left
 ·have e1':inB fr 0 ((n:Int)-1)=aC:=by simpa using e1
  have HZ:aG (fG m fr r=(m,aC)):=by rw[aG,HD.out,if_pos (.inl e1')]
  rw[e1'] at C1;clear c0 c1 c2 c4 d0 d1 d2 d3 d4 d5 d6 d7 x0 x1 x2 x3 x4 x5 x6 x7 T KI hrs Aj M0 LQ hB0 hx h hrw HD;go_enter Tryz.func123,Tryz.ntmps123
  go_wp2_with fail
  refine jf ?_;repeat (go_big_quiet_step ((first|(go_at_call 40;exact eY _ (C1 _))|(go_at_call 113;exact eY _ (C2 _))|(go_at_call 74;exact eY _ (C3 _))|rfl)))
  refine aZ2 (iI fun wE eH=>?_)
  have pU:=dP (kU.out.step eH);clear p0 p1 p2 p4 s3 y0 y1 y2 y3 y4 y5 y6 y7 C1 C2 C3;go_wp2;go_ret
  exact⟨dZ (by rw[HZ.out]),by rw[HZ.out];exact pU.out.iw⟩
 rw[e1] at C1;have hfr:=iQ.1 e1;obtain⟨F,rfl⟩:∃ F:Nat,fr=(F:Int):=⟨fr.toNat,by omega⟩
 have uH:F<m.rows.length:=by rw[ok.len];omega
 have F0:(0:Int)<=F:=by omega
 have F1:(F:Int)<m.rows.length:=by omega
 obtain⟨Af,⟨⟨f0,_,_,_⟩,_⟩,_⟩:=M0.row ok.fit uH;have s0:=T f0;have Sv:=f0;clear f0
 have HD:aG (fG m (F:Int) r=if (F:Int)=(i:Int)\/(F:Int)∈(dO m.rows i).dQ\/m.done=aB\/gu r (n:Int)=aC\/r.ver<=(dO m.rows F).ver then (m,aC) else ({ m with rows:=m.rows.set F r },aB)):=by
  rw[aG,HD.out,e1];simp
 clear e1;by_cases h2:(F:Int)=i
 ·have HZ:aG (fG m (F:Int) r=(m,aC)):=by rw[aG,HD.out,if_pos (.inl h2)]
  have g2:((F:Int)==(i:Int))=aB:=by rw[h2];simp
  clear h2;clear c0 c1 c2 c4 d0 d1 d2 d3 d4 d5 d6 d7 x0 x1 x2 x3 x4 x5 x6 x7 T KI hrs Aj M0 LQ hB0 hx h hrw HD Sv;go_enter Tryz.func123,Tryz.ntmps123
  go_wp2_with fail
  refine jf ?_;repeat (go_big_quiet_step ((first|(go_at_call 40;exact eY _ (C1 _))|(go_at_call 113;exact eY _ (C2 _))|(go_at_call 74;exact eY _ (C3 _))|rfl)))
  refine aZ2 (iI fun wE eH=>?_)
  have pU:=dP (kU.out.step eH);clear p0 p1 p2 p4 s3 y0 y1 y2 y3 y4 y5 y6 y7 C1 C2 C3 s0;go_wp2;go_ret
  exact⟨dZ (by rw[HZ.out]),by rw[HZ.out];exact pU.out.iw⟩
 have g2:((F:Int)==(i:Int))=aC:=by simpa using h2
 by_cases h3:(F:Int)∈(dO m.rows i).dQ
 ·have HZ:aG (fG m (F:Int) r=(m,aC)):=by rw[aG,HD.out,if_pos (.inr (.inl h3))]
  rw[decide_eq_true h3] at C2;clear h3;clear c0 c1 c2 c4 d0 d1 d2 d3 d4 d5 d6 d7 x0 x1 x2 x3 x4 x5 x6 x7 T KI hrs Aj M0 LQ hB0 hx h hrw HD Sv;go_enter Tryz.func123,Tryz.ntmps123
  go_wp2_with fail
  refine jf ?_;repeat (go_big_quiet_step ((first|(go_at_call 40;exact eY _ (C1 _))|(go_at_call 113;exact eY _ (C2 _))|(go_at_call 74;exact eY _ (C3 _))|rfl)))
  refine aZ2 (iI fun wE eH=>?_)
  have pU:=dP (kU.out.step eH);clear p0 p1 p2 p4 s3 y0 y1 y2 y3 y4 y5 y6 y7 C1 C2 C3 s0;go_wp2;go_ret
  exact⟨dZ (by rw[HZ.out]),by rw[HZ.out];exact pU.out.iw⟩
 rw[decide_eq_false h3] at C2;by_cases h4:m.done=aB
 ·have HZ:aG (fG m (F:Int) r=(m,aC)):=by rw[aG,HD.out,if_pos (.inr (.inr (.inl h4)))]
  rw[h4] at p4;clear h4;clear c0 c1 c2 c4 d0 d1 d2 d3 d4 d5 d6 d7 x0 x1 x2 x3 x4 x5 x6 x7 T KI hrs Aj M0 LQ hB0 hx h hrw HD Sv;go_enter Tryz.func123,Tryz.ntmps123
  go_wp2_with fail
  refine jf ?_;repeat (go_big_quiet_step ((first|(go_at_call 40;exact eY _ (C1 _))|(go_at_call 113;exact eY _ (C2 _))|(go_at_call 74;exact eY _ (C3 _))|rfl)))
  refine aZ2 (iI fun wE eH=>?_)
  have pU:=dP (kU.out.step eH);clear p0 p1 p2 p4 s3 y0 y1 y2 y3 y4 y5 y6 y7 C1 C2 C3 s0;go_wp2;go_ret
  exact⟨dZ (by rw[HZ.out]),by rw[HZ.out];exact pU.out.iw⟩
 rw[show m.done=aC by simpa using h4] at p4
 by_cases h5:gu r (n:Int)=aC
 ·have HZ:aG (fG m (F:Int) r=(m,aC)):=by rw[aG,HD.out,if_pos (.inr (.inr (.inr (.inl h5))))]
  rw[h5] at C3;clear h5;clear c0 c1 c2 c4 d0 d1 d2 d3 d4 d5 d6 d7 x0 x1 x2 x3 x4 x5 x6 x7 T KI hrs Aj M0 LQ hB0 hx h hrw HD Sv;go_enter Tryz.func123,Tryz.ntmps123
  go_wp2_with fail
  refine jf ?_;repeat (go_big_quiet_step ((first|(go_at_call 40;exact eY _ (C1 _))|(go_at_call 113;exact eY _ (C2 _))|(go_at_call 74;exact eY _ (C3 _))|rfl)))
  refine aZ2 (iI fun wE eH=>?_)
  have pU:=dP (kU.out.step eH);clear p0 p1 p2 p4 s3 y0 y1 y2 y3 y4 y5 y6 y7 C1 C2 C3 s0;go_wp2;go_ret
  exact⟨dZ (by rw[HZ.out]),by rw[HZ.out];exact pU.out.iw⟩
 have h5':gu r (n:Int)=aB:=by simpa using h5
 rw[h5'] at C3;by_cases h6':r.ver<=(dO m.rows F).ver
 ·have HZ:aG (fG m (F:Int) r=(m,aC)):=by rw[aG,HD.out,if_pos (.inr (.inr (.inr (.inr h6'))))]
  have g6:decide (r.ver<=(dO m.rows F).ver)=aB:=by simpa using h6'
  clear c0 c1 c2 c4 d0 d1 d2 d3 d4 d5 d6 d7 x0 x1 x2 x3 x4 x5 x6 x7 T KI hrs Aj M0 LQ hB0 hx h hrw HD Sv;go_enter Tryz.func123,Tryz.ntmps123
  go_wp2_with fail
  refine jf ?_;repeat (go_big_quiet_step ((first|(go_at_call 40;exact eY _ (C1 _))|(go_at_call 113;exact eY _ (C2 _))|(go_at_call 74;exact eY _ (C3 _))|rfl)))
  refine aZ2 (iI fun wE eH=>?_)
  have pU:=dP (kU.out.step eH);clear p0 p1 p2 p4 s3 y0 y1 y2 y3 y4 y5 y6 y7 C1 C2 C3 s0;go_wp2;go_ret
  exact⟨dZ (by rw[HZ.out]),by rw[HZ.out];exact pU.out.iw⟩
 have g6:decide (r.ver<=(dO m.rows F).ver)=aC:=by simpa using h6'
 have HZ:aG (fG m (F:Int) r=({ m with rows:=m.rows.set F r },aB)):=by rw[aG,HD.out,if_neg];rintro (k|k|k|k|k)<;>contradiction
 have hln:=(qh.1 h5').ln;clear h2 h3 h4 h5;clear c0 c1 c2 c4 d0 d1 d2 d3 d4 d5 d6 d7 x0 x1 x2 x3 x4 x5 x6 x7 T KI hrs Aj M0 LQ hB0 hx h hrw HD Sv;go_enter Tryz.func123,Tryz.ntmps123
 go_wp2_with fail
 refine jf ?_;repeat (go_big_quiet_step ((first|(go_at_call 40;exact eY _ (C1 _))|(go_at_call 113;exact eY _ (C2 _))|(go_at_call 74;exact eY _ (C3 _))|rfl)))
 refine aZ2 (iI fun wE eH=>?_)
 have M1:=kU.out.step eH;have pU:=dP M1;have HXe:=dP (HX.out.below eH);have Jj:=dP (Jb.out.below eH);clear p0 p1 p2 p4 s3 y0 y1 y2 y3 y4 y5 y6 y7 C1 C2 C3 s0 M1;go_wp2_with fail
 have KS:∀ X,Below wE.heap.size wE X->(X.cell? ⟨B,o+2,ak⟩=au (aj (au ⟨g,off,ak⟩) m.rows.length c)/\X.cell? ⟨w.heap.size,0,ak⟩=au (ah aA r.ver)/\X.cell? ⟨w.heap.size,1,ak⟩=au (aj Ar.ta r.txt.length Ar.tc)/\X.cell? ⟨w.heap.size,2,ak⟩=au (aj Ar.ga r.got.length Ar.gc)/\X.cell? ⟨w.heap.size,3,ak⟩=au (aj Ar.sa r.dQ.length Ar.sc)/\X.cell? ⟨w.heap.size,4,ak⟩=au (aF r.wed)/\X.cell? ⟨w.heap.size,5,ak⟩=au (aF r.dV)/\X.cell? ⟨w.heap.size,6,ak⟩=au (ah aA r.dW)/\X.cell? ⟨w.heap.size,7,ak⟩=au (aj Ar.ma r.dU.length Ar.mc)):=fun X hX=>by
  obtain⟨⟨x0,x1,x2,x3⟩,x4,x5,x6,x7⟩:=Bx.r8 (HXe.out.below hX);exact⟨(pU.out.step hX).rws,x0,x1,x2,x3,x4,x5,x6,x7⟩
 have hbd:=(Same.drewN wE 1).below;refine lG (S:=fun X:aI=>X.cell? ⟨B,o+2,ak⟩=au (aj (au ⟨g,off,ak⟩) m.rows.length c)/\X.cell? ⟨w.heap.size,0,ak⟩=au (ah aA r.ver)/\X.cell? ⟨w.heap.size,1,ak⟩=au (aj Ar.ta r.txt.length Ar.tc)/\X.cell? ⟨w.heap.size,2,ak⟩=au (aj Ar.ga r.got.length Ar.gc)/\X.cell? ⟨w.heap.size,3,ak⟩=au (aj Ar.sa r.dQ.length Ar.sc)/\X.cell? ⟨w.heap.size,4,ak⟩=au (aF r.wed)/\X.cell? ⟨w.heap.size,5,ak⟩=au (aF r.dV)/\X.cell? ⟨w.heap.size,6,ak⟩=au (ah aA r.dW)/\X.cell? ⟨w.heap.size,7,ak⟩=au (aj Ar.ma r.dU.length Ar.mc)) 8 fU ((KS _ hbd)) fun hHeld=>?_
 refine fC (i:=0) rfl hHeld ?_;refine fC (i:=1) rfl hHeld ?_;refine fC (i:=2) rfl hHeld ?_;refine fC (i:=3) rfl hHeld ?_;refine fC (i:=4) rfl hHeld ?_;refine fC (i:=5) rfl hHeld ?_;refine iy (i:=6) rfl fun K hK=>?_
 go_simp
 go_at_call 76
 refine (yL Ar r wE.drew (Jj.out.below hbd) hln.1 hln.2.1 hln.2.2.1 hln.2.2.2).mono ?_;rintro e w1 ⟨As,rfl,fr,hr1,hr2,hr3⟩;have hb1:=eP hbd hr3;have M2:=pU.out.step hb1;obtain⟨Af2,⟨⟨f0,f1,f2,f3⟩,f4,f5,f6,f7⟩,_⟩:=M2.row ok.fit uH;obtain⟨⟨z0,z1,z2,z3⟩,z4,z5,z6,z7⟩:=M2.free uH;have lT:=pU.out.OU uH hb1 hr1 (fun b hb=>hr2 b hb)
 refine hK.out _ _ (KS _ hb1) (fun eG=>?_)
 clear hK hHeld;have hHeld:=eG;try simp only[gW]
 refine fC (i:=7) rfl hHeld ?_;unfold iK fP;refine oH rfl fun K hK=>?_
 go_simp;refine hK.out _ _ ?_;have HB3:=lT.iw;have HB4:=dP HB3;clear lT HB3 M2 f0 f1 f2 f3 f4 f5 f6 f7 z0 z1 z2 z3 z4 z5 z6 z7 KS hbd hr1 hr2 hr3 hb1;go_wp2;go_ret
 exact⟨dZ (by rw[HZ.out]),by rw[HZ.out];exact HB4.out⟩
theorem Gg {us: List aJ} (h:gq w (jU x) us f):∃ A:Ra,us=(yM x A).toList/\gq w (jL x.row) (jw A x.row) f:=by
 obtain⟨vU,rfl,h1⟩:=qM h;obtain⟨xu,rfl,h2⟩:=qM h1;obtain⟨A,rfl,h3⟩:=wQ h2;exact⟨A,rfl,h3⟩
theorem wrap_one (h:i<=1000000):IntKind.i64.wrap ((i:Int)+1)=(i:Int)+1:=by rw[IntKind.wrap_i64];omega
theorem addr_add (b o j:Nat):(⟨b,o,ak⟩:Addr).add j=⟨b,o+j,ak⟩:=by by_cases hj:j=0<;>simp[Addr.add,hj]
theorem aA8 {A: Ra} (h:gq w (jL r) (jw A r) f) (hf:qK r) (hl:WE r):qJ w A r:=by
 obtain⟨u1,vU,f1,g1,e1,o1,h2,_⟩:=h
 cases e1
 obtain⟨u2,xu,f2,g2,e2,o2,h3,_⟩:=h2
 cases e2
 obtain⟨u3,EJ,f3,g3,e3,o3,h4,_⟩:=h3
 cases e3
 obtain⟨u4,Oq,f4,g4,e4,o4,h5,_⟩:=h4
 cases e4
 obtain⟨n1,n2,n3,n4⟩:=hl;exact⟨(Oe o1).RP,(tu o2 hf.1).vec,(tu o3 hf.2.1).vec,(tu o4 hf.2.2).vec,by unfold ba2;omega,by unfold ba2;omega,by unfold ba2;omega,by unfold ba2;omega⟩
theorem ZU (hW:Below w.heap.size w W) {L: List Ml} {la: Option Addr} {lb lo: Nat} {f f1 f3: Fp} {u1 u3: List aJ} (hi:i<L.length) (hl:L.length<=1000000) (hlc:L.length<=lc)
  (hs1:∀ b,f1 b->b<w.heap.size) (hs3:∀ b,f3 b->b<w.heap.size) (h13:∀ b,f1 b->¬ f3 b) (l1:gq w ((L.take i).flatMap jU) u1 f1) (l3:gq w ((L.drop (i+1)).flatMap jU) u3 f3)
  (k1:∀ j y,u1[j]?=au y->w.cell? ⟨lb,lo+j,ak⟩=au y) (k3:∀ j y,u3[j]?=au y->w.cell? ⟨lb,lo+(i+1)*10+j,ak⟩=au y) :
  (∀ X,(Instr.slice 26 (aj (au ⟨lb,lo,ak⟩) L.length lc) ak (au (ah aA (i:Int))) ak).run aZ8 X=.ok (aj (au ⟨lb,lo,ak⟩) i lc) X) /\
  ∃ a3,(∀ X,(Instr.slice 26 (aj (au ⟨lb,lo,ak⟩) L.length lc) (au (ah aA ((i:Int)+1))) ak ak).run aZ8 X=.ok (aj a3 (L.length-(i+1)) (lc-(i+1))) X) /\
  ∀ Y,Same Y (W.alloc (aH #[] 68))->∃ v1 w1,(aV5 #[26,26] 26 #[aj (au ⟨W.heap.size,0,ak⟩) 0 0,aj (au ⟨lb,lo,ak⟩) i lc]).run aZ8 Y=.ok v1 w1 /\
   ∃ a1 c1,v1=aj a1 i c1/\Below W.heap.size W w1 /\
   ∀ Y2,Same Y2 w1->∃ v2 w2,(aV5 #[26,26] 26 #[aj a1 i c1,aj a3 (L.length-(i+1)) (lc-(i+1))]).run aZ8 Y2=.ok v2 w2 /\
    ∃ a2 c2 f',v2=aj a2 (i+(L.length-(i+1))) c2/\eU f1 W w2/\eF.ow w2 (iF 10 jU (L.take i++L.drop (i+1))) (aj a2 (i+(L.length-(i+1))) c2) f'/\∀ b,f' b->f1 b\/f3 b\/W.heap.size<=b:=by
 obtain⟨i0,hi0,hz0,hz1,hz2⟩:=sF Tryz.infoMl;have hel:Tryz.prog.elem 26=68:=by kernel_rfl
 have hce:Tryz.prog.cellsOf 68=10:=by kernel_rfl
 have n1:(L.take i).length=i:=by rw[aU5];omega
 have n3:(L.drop (i+1)).length=L.length-(i+1):=List.length_drop;refine⟨fun X=>?_,if lc=i+1 then au ⟨lb,lo,ak⟩ else au ⟨lb,lo+(i+1)*10,ak⟩,fun X=>?_,fun Y hY=>?_⟩
 ·rw[run_slice_h X 26 (au ⟨lb,lo,ak⟩) L.length lc (by kernel_rfl) aA (i:Int) (by omega) (by omega),hel,run_sizeOf X hi0,hce]
  have:¬ lc=0:=by omega
  simp[Result.andThen,sliced,this,Addr.add]
 ·rw[run_slice_l X 26 (au ⟨lb,lo,ak⟩) L.length lc (by kernel_rfl) aA ((i:Int)+1) (by omega) (by omega),hel,run_sizeOf X hi0,hce]
  have e:((i:Int)+1).toNat=i+1:=by omega
  simp only[Result.andThen,sliced,e]
  split<;>simp[Addr.add]
 have lQ:=(dX W _).trans (hY.below.mono (dX W _).size);have hwY:=eP hW lQ;have hnb:W.heap.size<Y.heap.size:=by rw[hY.size];simp
 have l1Y:=gy l1 hwY;have e0:eF.ow Y (iF 10 jU []) (aj (au ⟨W.heap.size,0,ak⟩) 0 0) (fun _=>False):=⟨au ⟨W.heap.size,0,ak⟩,0,[],ak,fun _=>False,rfl,iV.nil _ _ (kV _ _),⟨rfl,fun _ h=>h⟩,fun _ _ h=>h,fun b=>by simp⟩
 obtain ⟨a1,c1,w1,fq,r1,o1,w1w,s1⟩ := Kr (P := aZ8) ng xK (w := Y) 26 26 68 _ 136 aT9 Tryz.infoMl rfl (by omega) (L := []) (M := L.take i) e0 l1Y (fun _ h => h.elim) (au ⟨lb,lo,ak⟩) lc (.inr ⟨_,rfl,fun j u hu => by
  have:=k1 j u hu;have h2:=fM hwY this;rw[addr_add];exact h2⟩) (by simp only[aV8];rw[n1];unfold ba2;omega) (by simp only[aV8];rw[n1];omega)
 simp only[aV8,aY7,aW1] at r1 o1;rw[n1] at r1 o1;have hb1:Below W.heap.size W w1:=w1w.below lQ lQ.size (fun b h=>h.elim)
 refine⟨_,w1,r1,a1,c1,rfl,hb1,fun Y2 hY2=>?_⟩
 have hb2:=eP hb1 hY2.below;have hw2:=eP hW hb2;have l3Y:=gy l3 hw2;have Sj:eF.ow Y2 (iF 10 jU (L.take i)) (aj a1 (L.take i).length c1) fq:=by rw[n1];exact eF.gK o1 hY2.below
 have hsY:=hwY.size
 obtain ⟨a2,c2,w2,fr,r2,o2,w2w,s2⟩ := Kr (P := aZ8) ng xK (w := Y2) 26 26 68 _ 136 aT9 Tryz.infoMl rfl (by omega) (L := L.take i) (M := L.drop (i + 1)) Sj l3Y (fun b h1 h3 => by
  rcases s1 b h1 with k|k|k
  ·exact k
  ·exact h13 b k h3
  ·have:=hs3 b h3;omega) (if lc=i+1 then au ⟨lb,lo,ak⟩ else au ⟨lb,lo+(i+1)*10,ak⟩) (lc-(i+1)) (by
   by_cases e:lc=i+1
   ·left;rw[n3];omega
   ·right
    rw[if_neg e];refine⟨_,rfl,fun j u hu=>?_⟩
    have:=k3 j u hu;have h2:=fM hw2 this;rw[addr_add];exact h2) (by rw[n1,n3];unfold ba2;omega) (by rw[n1,n3];omega)
 rw[n1,n3] at r2 o2;have hsW:=hW.size;refine⟨_,w2,r2,a2,c2,fr,rfl,(eU.of_below (f:=f1) hb2).trans w2w (fun b hlt h=>?_),o2,fun b hb=>?_⟩
 ·rcases s1 b h with k|k|k
  ·exact k.elim
  ·exact k
  ·omega
 ·rcases s2 b hb with k|k|k
  ·rcases s1 b k with k|k|k
   ·exact k.elim
   ·exact .inl k
   ·right;right;omega
  ·exact .inr (.inl k)
  ·right;right;have:=hb2.size;omega
theorem LU (B o:Nat) (g:Gr) (n i:Nat) (fp:Fp) (w:aI) (h:iO w B o (fK g) fp) (ok:OkG g n) (hi:i<g.dS.length) :
  ba3 aZ8 79 #[aO (au ⟨B,o,ak⟩),ah aA (i:Int)] w fun e w'=>e=aK (.tuple #[])/\fH w w' B o (fK (jl g i)) fp:=by
 have fU:=iq;have jy:=ok.n5;have Dx:=ok.pF;obtain⟨bb,off,c,G0⟩:=Gw.start h (by rw[ok.ml];omega)
 obtain⟨u,f,f0,hu,hfz,how,hfB,hBl,hfl,hmem,hap,hput⟩:=G0.full;obtain⟨lb,lo,lc,u1,u2,u3,f1,f2,f3,rfl,hfb,hlc,hlm,s1,s2,s3,l1,l2,l3,d12,d13,d23,k1,k2,k3⟩:=Kt ng how (lI hi);obtain⟨a,t,efr,eto,han,htn,hat,R⟩:=ok.jZ _ (bW (lI hi))
 have OV:aG (jl g i=if nM g t=aB then { mem:=g.mem.set t (fG (dY g t) (eX g i).fr (eX g i).row).1,up:=g.up,dS:=g.dS.take i++g.dS.drop (i+1) } else { g with dS:=g.dS.take i++g.dS.drop (i+1) }):=by
  rw[aG,jl,eto];simp only[dM]
 obtain⟨A,eA,LV⟩:=Gg l2;subst eA;have hln:=R.ln;have hfit:=R.fit;generalize eX g i=x at *;obtain⟨fr,tt,r⟩:=x;simp only at efr eto OV LV R hln hfit
 subst efr eto;have hc:∀ j y,(yM ⟨(a:Int),(t:Int),r⟩ A).toList[j]?=au y->w.cell? ⟨lb,lo+i*10+j,ak⟩=au y:=k2;have x0:=hc 0 _ rfl;have x1:=hc 1 _ rfl;have x2:=hc 2 _ rfl;have x3:=hc 3 _ rfl;have x4:=hc 4 _ rfl;have x5:=hc 5 _ rfl;have x6:=hc 6 _ rfl;have x7:=hc 7 _ rfl;have x8:=hc 8 _ rfl;have x9:=hc 9 _ rfl;simp only[aY5] at x0;have hB0:=dX w (aH #[ah aA (a:Int),ah aA (t:Int),ah aA r.ver,aj A.ta r.txt.length A.tc,aj A.ga r.got.length A.gc,aj A.sa r.dQ.length A.sc,aF r.wed,aF r.dV,ah aA r.dW,aj A.ma r.dU.length A.mc] 68);have hx:=Bx.new w 68 #[ah aA (a:Int),ah aA (t:Int),ah aA r.ver,aj A.ta r.txt.length A.tc,aj A.ga r.got.length A.gc,aj A.sa r.dQ.length A.sc,aF r.wed,aF r.dV,ah aA r.dW,aj A.ma r.dU.length A.mc];obtain⟨sl1,a3,sl3,hA⟩:=ZU (W:=w.alloc (aH #[ah aA (a:Int),ah aA (t:Int),ah aA r.ver,aj A.ta r.txt.length A.tc,aj A.ga r.got.length A.gc,aj A.sa r.dQ.length A.sc,aF r.wed,aF r.dV,ah aA r.dW,aj A.ma r.dU.length A.mc] 68)) (la:=ak) (f:=f) hB0 hi (by omega) hlc (fun b hb=>hfl b (s1 b hb).1) (fun b hb=>hfl b (s3 b hb).1) d13 l1 l3 k1 k3
 have i0:(0:Int)<=i:=by omega
 have i1:(i:Int)<g.dS.length:=by omega
 have hwi:IntKind.i64.wrap ((i:Int)+1)=(i:Int)+1:=wrap_one (by omega)
 have Ah:aG (∀ (X1:aI) (L:List Ml) (u':aJ) (f':Fp),eU f w X1->eF.ow X1 (iF 10 jU L) u' f'->(∀ b,f' b->f b\/w.heap.size<=b)->X1.cell? ⟨B,o+2,ak⟩=au (aj (au ⟨lb,lo,ak⟩) g.dS.length lc)/\X1.frozen? ⟨B,o+2,ak⟩=aC/\Gw w (X1.setCell ⟨B,o+2,ak⟩ u') B o { g with dS:=L } fp bb off c):=hput
 have HL2:aG (gq w (jL r) (jw A r) f2/\(∀ b,f1 b->¬ f2 b)/\(∀ b,f2 b->b≠B)/\(∀ b,f2 b->b<w.heap.size)):=⟨LV,d12,fun b hb e=>hfB (e ▸ (s2 b hb).1),fun b hb=>hfl b (s2 b hb).1⟩
 have HF:aG ((∀ b,f1 b->f b)/\(∀ b,f3 b->f b)/\¬ f B/\B<w.heap.size/\∀ b,f b->b<w.heap.size):=⟨fun b hb=>(s1 b hb).1,fun b hb=>(s3 b hb).1,hfB,hBl,hfl⟩
 have iE:aG (OkG g n):=ok;have ZV:aG (qK r):=hfit;generalize hW:w.alloc (aH #[ah aA (a:Int),ah aA (t:Int),ah aA r.ver,aj A.ta r.txt.length A.tc,aj A.ga r.got.length A.gc,aj A.sa r.dQ.length A.sc,aF r.wed,aF r.dV,ah aA r.dW,aj A.ma r.dU.length A.mc] 68)=W at *;have hw0:w.alloc (aH #[ah aA (a:Int),ah aA (t:Int),ah aA r.ver,aj A.ta r.txt.length A.tc,aj A.ga r.got.length A.gc,aj A.sa r.dQ.length A.sc,aF r.wed,aF r.dV,ah aA r.dW,aj A.ma r.dU.length A.mc] 68)=W:=hW;have HB0:aG (Below w.heap.size w W):=hB0;have HX:aG (Bx W w.heap.size 68 #[ah aA (a:Int),ah aA (t:Int),ah aA r.ver,aj A.ta r.txt.length A.tc,aj A.ga r.got.length A.gc,aj A.sa r.dQ.length A.sc,aF r.wed,aF r.dV,ah aA r.dW,aj A.ma r.dU.length A.mc]):=hx;have OW:W.cell? ⟨B,o+2,ak⟩=au (aj (au ⟨lb,lo,ak⟩) g.dS.length lc):=fM hB0 hu;have HuW:aG (W.cell? ⟨B,o+2,ak⟩=au (aj (au ⟨lb,lo,ak⟩) g.dS.length lc)):=OW;have hbd:Below W.heap.size W W.drew:=(Same.drewN W 1).below
 have hAd:∀ Y,Same Y (W.drew.alloc (aH #[] 68))->∃ v1 w1,(aV5 #[26,26] 26 #[aj (au ⟨W.heap.size,0,ak⟩) 0 0,aj (au ⟨lb,lo,ak⟩) i lc]).run aZ8 Y=.ok v1 w1 /\
   ∃ a1 c1,v1=aj a1 i c1/\Below W.heap.size W w1 /\
   ∀ Y2,Same Y2 w1->∃ v2 w2,(aV5 #[26,26] 26 #[aj a1 i c1,aj a3 (g.dS.length-(i+1)) (lc-(i+1))]).run aZ8 Y2=.ok v2 w2 /\
    ∃ a2 c2 f',v2=aj a2 (i+(g.dS.length-(i+1))) c2/\eU f1 W w2/\eF.ow w2 (iF 10 jU (g.dS.take i++g.dS.drop (i+1))) (aj a2 (i+(g.dS.length-(i+1))) c2) f'/\∀ b,f' b->f1 b\/f3 b\/W.heap.size<=b:=fun Y hY=>hA Y ⟨hY.heap,hY.os,hY.tape,hY.output⟩
 clear hput how hfl hap hmem h hfB hBl hB0 hx hW hc k1 k2 k3 l1 l2 LV l3 s1 s2 s3 d12 d13 d23 hA hfb hfz G0 ok hfit;go_enter Tryz.func79,Tryz.ntmps79
 go_wp2_with fail
 clear x0 x1 x2 x3 x4 x5 x6 x7 x8 x9 hu;refine lG (S:=fun X:aI=>X.cell? ⟨B,o+2,ak⟩=au (aj (au ⟨lb,lo,ak⟩) g.dS.length lc)) 19 fU (OW) fun hHeld=>?_
 refine fE (i:=0) rfl ?_;refine fE (i:=2) rfl ?_;refine fE (i:=3) rfl ?_;refine fE (i:=4) rfl ?_;refine fC (i:=5) rfl hHeld ?_;refine fE (i:=6) rfl ?_;refine fE (i:=7) rfl ?_;refine fE (i:=9) rfl ?_;refine fE (i:=10) rfl ?_;refine fE (i:=11) rfl ?_;refine fC (i:=12) rfl hHeld ?_;refine fE (i:=13) rfl ?_;refine fE (i:=14) rfl ?_;refine fE (i:=15) rfl ?_;refine iy (i:=1) rfl fun K hK=>?_
 go_simp;refine hK.out _ _ (((hbd.trans ((dX W.drew _).mono hbd.size)).cell (bG _ _ OW)).trans OW) (fun eG=>?_)
 clear hK hHeld;have hHeld:=eG;try simp only[gW]
 refine iy (i:=8) rfl fun K hK=>?_
 refine jm (by rfl) _ _ _ _ (by rfl) (aj (au ⟨W.heap.size,0,ak⟩) 0 0) _ (by rfl) (by rfl) hAd ⟨rfl,rfl,rfl,rfl⟩ ?_
 rintro v1 w1 ⟨a1,c1,rfl,hb1,hA2⟩;refine hK.out _ _ (fM hb1 OW) (fun eG=>?_)
 clear hK hHeld;have hHeld:=eG;try simp only[gW]
 refine iy (i:=16) rfl fun K hK=>?_
 refine jm (by rfl) _ _ _ _ (by rfl) (aj a1 i c1) _ (by rfl) (by rfl) hA2 ⟨rfl,rfl,rfl,rfl⟩ ?_
 rintro v2 w2 ⟨a2,c2,f',rfl,hw2,BQ,hf2⟩;refine hK.out _ _ (nZ hw2 (fun h=>HF.out.2.2.1 (HF.out.1 _ h)) OW) (fun eG=>?_)
 clear hK hHeld;have hHeld:=eG;try simp only[gW]
 refine fE (i:=17) rfl ?_;refine fE (i:=18) rfl ?_;have aA9:eU f w w2:=(eU.of_below (f:=f) HB0.out).trans hw2 (fun b _ h=>HF.out.1 b h)
 have hWs:=HB0.out.size
 obtain ⟨q1,q2,hG⟩ := Ah.out w2 _ _ f' aA9 BQ (fun b hb => by
  rcases hf2 b hb with k|k|k
  ·exact .inl (HF.out.1 b k)
  ·exact .inl (HF.out.2.1 b k)
  ·right;omega)
 refine oH rfl fun K hK=>?_
 go_simp;refine hK.out _ _ ?_;have HG:aG (Gw w (w2.setCell ⟨B,o+2,ak⟩ (aj a2 (i+(g.dS.length-(i+1))) c2)) B o { g with dS:=g.dS.take i++g.dS.drop (i+1) } fp bb off c):=hG
 have lM:aG (Bx (w2.setCell ⟨B,o+2,ak⟩ (aj a2 (i+(g.dS.length-(i+1))) c2)) w.heap.size 68 #[ah aA (a:Int),ah aA (t:Int),ah aA r.ver,aj A.ta r.txt.length A.tc,aj A.ga r.got.length A.gc,aj A.sa r.dQ.length A.sc,aF r.wed,aF r.dV,ah aA r.dW,aj A.ma r.dU.length A.mc]):=(HX.out.wrt hw2 (fun h=>by have:=HF.out.2.2.2.2 _ (HF.out.1 _ h);omega)).far (by have:=HF.out.2.2.2.1;omega) _
 have HR2:aG (qJ (w2.setCell ⟨B,o+2,ak⟩ (aj a2 (i+(g.dS.length-(i+1))) c2)) A r):=by
  have o1:=gU (gy HL2.out.1 HB0.out) hw2 (fun b hb h1=>HL2.out.2.1 b h1 hb)
  have o2:=gU o1 (eU.set w2 B (o+2) (aj a2 (i+(g.dS.length-(i+1))) c2)) (fun b hb e=>HL2.out.2.2.1 b hb e)
  exact aA8 o2 ZV.out hln
 clear hG hA2 hAd q1 q2 hw2 BQ hf2 hb1 Ah OW HuW aA9 HL2;generalize w2.setCell ⟨B,o+2,ak⟩ (aj a2 (i+(g.dS.length-(i+1))) c2)=W3 at *;have OX:t<g.mem.length:=by rw[iE.out.ml];exact htn
 have htu:t<g.up.length:=by rw[iE.out.ul];exact htn
 obtain⟨ub,uo,uc,cu,cb0,_,_⟩:=HG.out.bit (k:=t) htu;have cb:W3.cell? ⟨ub,uo+t,ak⟩=au (aF (nM g t)):=cb0;clear cb0;have t0:(0:Int)<=t:=by omega
 have t1:(t:Int)<g.up.length:=by omega
 have t2:(t:Int)<g.mem.length:=by omega
 obtain⟨⟨y0,y1⟩,⟨y2,y3,y4,y5⟩,y6,y7,y8,y9⟩:=Bx.r10 lM.out;go_wp2_with fail
 go_quiet (fail)
 have hb4:Below W3.heap.size W3 (W3.drewN nq):=fO (aZ5 _ _);generalize W3.drewN nq=W4 at *;clear cu cb y0 y1 y2 y3 y4 y5 y6 y7 y8 y9;have zk:aG (Gw w W4 B o { g with dS:=g.dS.take i++g.dS.drop (i+1) } fp bb off c):=HG.out.step hb4
 have Xc:aG (Bx W4 w.heap.size 68 #[ah aA (a:Int),ah aA (t:Int),ah aA r.ver,aj A.ta r.txt.length A.tc,aj A.ga r.got.length A.gc,aj A.sa r.dQ.length A.sc,aF r.wed,aF r.dV,ah aA r.dW,aj A.ma r.dU.length A.mc]):=lM.out.below hb4;have HR4:aG (qJ W4 A r):=HR2.out.below hb4;clear hb4
 cases hup:nM g t with
 | false =>
  have HZ:aG (jl g i={ g with dS:=g.dS.take i++g.dS.drop (i+1) }):=by rw[aG,OV.out,hup];rfl
  go_wp2;go_end0;exact⟨rfl,by rw[HZ.out];exact zk.out.iw⟩
 | true =>
  have HZ:aG (jl g i={ mem:=g.mem.set t (fG (dY g t) (a:Int) r).1,up:=g.up,dS:=g.dS.take i++g.dS.drop (i+1) }):=by rw[aG,OV.out,hup];rfl
  have c0:=zk.out.mem;obtain⟨⟨y0,y1⟩,⟨y2,y3,y4,y5⟩,y6,y7,y8,y9⟩:=Bx.r10 Xc.out;have T:∀ {x v},W4.cell? x=au v->∀ q:Bk W4,q.w.cell? x=au v:=fun h q=>fM q.h h
  have p0:=T c0;have z0:=T y0;have z1:=T y1;have z2:=T y2;have z3:=T y3;have z4:=T y4;have z5:=T y5;have z6:=T y6;have z7:=T y7;have z8:=T y8;have z9:=T y9;clear c0 y0 y1 y2 y3 y4 y5 y6 y7 y8 y9 T hup;simp only at p0
  go_wp2_with fail
  refine gJ (C:=fun w'=>∃ p:Bk W4,w'=p.w) 11 fU (by kernel_rfl) ⟨⟨W4.drewN 1,fO (aZ5 _ _)⟩,rfl⟩ ?_
  simp only[dA,aX2]
  repeat (go_big_quiet_step ((first|rfl)))
  refine aZ2 (iI fun wE eH=>?_)
  simp only[cZ,aX0]
  clear p0 z0 z1 z2 z3 z4 z5 z6 z7 z8 z9;have G5:=zk.out.step eH;obtain⟨f9,hpl,hbk⟩:=G5.mb (k:=t) OX;have hM:=EZ bb (off+t*5) (dY g t) t n (a:Int) A r f9 wE hpl (iE.out.mem t htn) (HR4.out.below eH) ⟨by omega,by omega⟩
  have OY:=dP hbk;clear hpl hbk G5;unfold iK fP at hM;go_wp2_with (go_at_call 123;refine hM.mono ?_;rintro e w5 ⟨rfl,hb5⟩;have rW:aG (fH w w5 B o (fK (jl g i)) fp):=(by rw[aG,HZ.out];exact (OY.out w5 _ hb5).iw);clear hM hb5)
  go_end0;exact⟨rfl,rW.out⟩
def lN (L:List Nat):List Int:=L.map (fun (j:Nat)=>(j:Int))
theorem jq (L:List Nat):(lN L).length=L.length:=List.length_map _
theorem wR {L: List Nat} (h:k<L.length):el (lN L) k=((L.getD k 0:Nat):Int):=by simp[lN,el,h,ba0]
theorem tX (n:Nat) (dQ:List Int):(fA n dQ).length<=n:=by
 have:=List.length_filter_le (fun (j:Nat)=>decide ((j:Int)∉dQ)) (aZ6 n)
 simpa[fA] using this
theorem Jk (k:Nat) (dQ:List Int):fA (k+1) dQ=if (k:Int)∈dQ then fA k dQ else fA k dQ++[k]:=by
 unfold fA;rw[aW2,List.filter_append];by_cases h:(k:Int)∈dQ<;>simp[h]
def OZ (w w':aI) (e:Ending) (Z:List Int):Prop:=∃ a c,e=aK (aj a Z.length c)/\sJ w w' (gQ Z) (aj a Z.length c)
theorem LW (w0:aI) (B o:Nat) (m:Mb) (i n:Nat) (fp:Fp) (g off c:Nat) (w:aI) (M:Mw w0 w B o m fp g off c) (ok:iP m i n) :
  ba3 aZ8 118 #[aO (au ⟨B,o,ak⟩)] w fun e w'=>OZ w w' e (lN (fA n (dO m.rows i).dQ)):=by
 have hil:i<m.rows.length:=by rw[ok.len];exact ok.lt
 have HM:=dP M;have hr:=ok.ok i ok.lt;have jy:=hr.n5;have i0:(0:Int)<=i:=by omega
 have i1:(i:Int)<m.rows.length:=by omega
 have hb0:=dX w (aH #[] 2);have HB0:=dP hb0;have jD:aG (eF.ow (w.alloc (aH #[] 2)) (gQ []) (aj (au ⟨w.heap.size,0,ak⟩) 0 0) (fun _=>False)):=jv.2 ⟨_,0,ak,rfl,iV.nil _ _ (kV _ _),fun b=>by simp⟩
 clear M hb0;go_enter Tryz.func118,Tryz.ntmps118
 go_wp2_with fail
 generalize w.alloc (aH #[] 2)=W0 at *
 go_loopw [3,4] (fun v k wr=>∃ (j:Nat) (a:Option Addr) (cc:Nat) (Z:List Int) (fz:Fp),j<=n/\k=ah aA (j:Int)/\v=aj a Z.length cc/\aG (Z=lN (fA j (dO m.rows i).dQ))/\eF.ow wr (gQ Z) (aj a Z.length cc) fz/\(∀ b,fz b->w.heap.size<=b)/\Below w.heap.size w wr) (fun _ k _=>n-(ba4 k).toNat)
 case atStart=>exact⟨0,some ⟨w.heap.size,0,none⟩,0,[],_,aZ1 _,rfl,rfl,rfl,jD.out,fun b h=>h.elim,HB0.out⟩
 case round =>
  obtain⟨j,a,cc,Z,fz,hj,rfl,rfl,hZ,hO,hfz,hb⟩:=hrel;have M1:=HM.out.step hb;obtain⟨c0,c1,c4⟩:=M1.id';have c2:=M1.rws;rw[ok.hid] at c0;rw[ok.hn] at c1;by_cases hlt:j<n
  ·have k1:(j:Int)<n:=by omega
   obtain⟨Ak,⟨⟨d0,d1,d2,d3⟩,d4,d5,d6,d7⟩,hrs⟩:=M1.row ok.fit hil;have C2:∀ q:Bk wr,ba3 aZ8 113 #[aj Ak.sa (dO m.rows i).dQ.length Ak.sc,ah aA (j:Int)] q.w fun e w'=>e=aK (aF (decide ((j:Int)∈(dO m.rows i).dQ)))/\Below q.w.heap.size q.w w':=fun q=>(qW Ak.sa (dO m.rows i).dQ.length Ak.sc (j:Int) (dO m.rows i).dQ q.w (hrs.dQ.below q.h (aZ0 _)) hrs.ms).mono (fun e w' h=>⟨h.1,by rw[h.2];exact aZ5 _ _⟩)
   have T:∀ {x v},wr.cell? x=au v->∀ q:Bk wr,q.w.cell? x=au v:=fun h q=>fM q.h h
   have p0:=T c0;have p2:=T c2;have s3:=T d3;have HO:=dP hO;have HB:=dP hb;have E5:Z.length<=1000000:=by rw[hZ.out,jq];have:=tX j (dO m.rows i).dQ;omega
   have HN:aG (lN (fA (j+1) (dO m.rows i).dQ)=if (j:Int)∈(dO m.rows i).dQ then Z else Z++[(j:Int)]):=by
    rw[aG,hZ.out,Jk];by_cases hm:(j:Int)∈(dO m.rows i).dQ<;>simp[hm,lN]
   have wj:wrap64 ((j:Int)+1)=(j:Int)+1:=by unfold wrap64;omega
   clear d0 d1 d2 d3 d4 d5 d6 d7 c0 c2 c4 hrs M1 hO hb T;by_cases hm:(j:Int)∈(dO m.rows i).dQ
   ·rw[decide_eq_true hm] at C2
    rw[if_pos hm] at HN;clear hm;go_wp2_with fail
    refine jf ?_;repeat (go_big_quiet_step ((first|(go_at_call 113;exact eY _ (C2 _))|rfl)))
    refine aZ2 (iI fun wE eH=>?_)
    have xw:=dP (eF.gK HO.out eH);have HB2:=dP (eP HB.out eH);clear C2 p0 p2 s3 eH c1;go_wp2;go_roundw
    case rel=>exact⟨j+1,a,cc,Z,fz,by omega,by go_num,rfl,HN.out.symm,xw.out,hfz,HB2.out⟩
    case measure=>simp[ba4];omega
   ·rw[decide_eq_false hm] at C2
    rw[if_neg hm] at HN;clear hm;go_wp2_with fail
    refine jf ?_;repeat (go_big_quiet_step ((first|(go_at_call 113;exact eY _ (C2 _))|rfl)))
    refine aZ2 (iI fun wE eH=>?_)
    have HB2:=dP (eP HB.out eH);obtain⟨a',c',ea,hA⟩:=pO (j:Int) (eF.gK HO.out eH) E5
    cases ea
    clear C2 p0 p2 s3 c1;go_wp2_with (at_builtin;refine fJ (by rfl) _ _ _ _ (by rfl) _ _ (by rfl) (by rfl) hA ⟨rfl,rfl,rfl,rfl⟩ ?_;rintro v1 w1 ⟨a1,e1,f1,rfl,q1,q2,q3⟩;have tY:aG (eF.ow w1 (gQ (Z++[(j:Int)])) (aj a1 (Z.length+1) e1) f1):=q1;have Ap:aG (∀ b,f1 b->fz b\/wE.heap.size<=b):=q2;have Aq:aG (eU fz wE w1):=q3;clear q1 q2 q3 hA)
    have hbs:=eH.size;have aM4:=HB.out.size;have HL:aG ((Z++[(j:Int)]).length=Z.length+1):=by rw[aG,List.length_append];rfl
    go_roundw
    case rel=>exact⟨j+1,a1,e1,Z++[(j:Int)],f1,by omega,by go_num,by rw[HL.out],HN.out.symm,by rw[HL.out];exact tY.out,fun b hb=>(Ap.out b hb).elim (hfz b) (fun h=>by omega),Aq.out.below HB2.out (by omega) (fun b hb=>hfz b hb)⟩
    case measure=>simp[ba4];omega
  ·have k1:¬ ((j:Int)<n):=by omega
   have ej:j=n:=by omega
   have HZ:aG (Z=lN (fA n (dO m.rows i).dQ)):=by rw[aG,hZ.out,ej]
   have HO:aG (sJ w wr (gQ Z) (aj a Z.length cc)):=⟨fz,hO,hfz,hb⟩;clear ej hO hb M1 c0 c2 c4;go_wp2;go_ret
   rw[<- HZ.out];exact⟨a,cc,rfl,HO.out⟩
end Go.Proofs.YtafimeakbdmkjaaGreat