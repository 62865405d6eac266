/-
  Texts in one.
-/
import Derived.Test.YtafimeakbdmkjaaGreatXaa
import Derived.Test.YtafimeakbdmkjaaGreatXah
import Derived.Test.YtafimeakbdmkjaaGreatXag
import Derived.BigQuiet
namespace Go.Proofs.YtafimeakbdmkjaaGreat
open Bool renaming false->aC,true->aB
open Go renaming Addr->dH,Calls->dF,Value->aJ,World->aI,maxLen->dD,wpQuiet_nil->dh
open Go.Builtin renaming append_->bU
open Go.Ending renaming returned->aK
open Go.IntKind renaming i64->aA
open Go.Obj renaming cells->aH
open Go.Proofs.Tryz renaming prog->dA
open Go.RowKit renaming Hid->aG,intOf->dG
open Go.RowKit.Below renaming refl->dw
open Go.Value renaming agg->aP,bool->aF,int->ah,pointer->aO,slice->aj
open Go.World renaming block_lt_of_cell?->aX,cell?_of_block->bf
open List renaming getElem?_append_left->aU,getElem?_append_right->aT,getElem?_eq_getElem->aV,getElem?_eq_none->aZ,length_append->bD,length_set->bQ,length_take->bM,mem_cons_of_mem->bC,mem_cons_self->bF,take_succ_eq_append_getElem->aQ
open Nat renaming le_refl->cO,zero_le->cZ
open Option renaming none->ak,some->au
open Option.some renaming inj->bT
set_option linter.unusedVariables false
set_option linter.unusedSimpArgs false
open Go.RowKit Go.Sort
set_option maxRecDepth 100000
set_option maxHeartbeats 12800000
variable {w1:aI} {B c g i id j k k' n off q s:Nat} {cs' ds:List dY} {f f':Fp} {us:List aJ} {A A':Ra} {r:Rw} {L:List Nat} {cl:dY}
theorem eX.setCells (g:Nat):∀ (vs:List aJ) (o:Nat) (w:aI),eX (fun b=>b=g) w (w.setCells g o vs)
 | [],o,w=>eX.refl _ _
 | v::vs,o,w=>(eX.set w g o v).trans (eX.setCells g vs (o+1) _) (fun _ _ h=>h)
theorem oH (g:Nat):∀ (vs:List aJ) (o:Nat) (w:aI) (x:dH),(w.setCells g o vs).frozen? x=w.frozen? x
 | [],o,w,x=>rfl
 | v::vs,o,w,x=>by rw[World.setCells,oH g vs (o+1),World.frozen?_setCell]
theorem iP.all {w: aI} {o: Nat} {cs: List dY} {fp: Fp} {vs': List aJ} (h:iP w B o cs fp) (hb:Below w.heap.size w w1) (h':gB w1 cs' vs' f') (hl:cs'.length=cs.length) (hf:∀ b,f' b->w.heap.size<=b):fH w (w1.setCells B o vs') B o cs' fp:=by
 obtain⟨vs,h1,h2,h3⟩:=h;have e:=hb.block B h1.lt;have hP1:=h1.of_block e hb.size;have hlen:=jO h2;have hlen':=jO h';have hw:=eX.setCells B vs' o w1;have hlt:=h1.lt;have Bv:¬ f' B:=fun k=>by have:=hf B k;omega
 have hsome:∀ j,j<vs'.length->(w1.cell? ⟨B,o+j,ak⟩).isSome=aB:=fun j hj=>by
  rw[hP1.cell j (by omega),aV (by omega)]
  rfl
 refine⟨⟨f',⟨vs',⟨fun j hj=>?_,fun j hj=>?_,Nat.lt_of_lt_of_le hP1.lt hw.size⟩,iy h' hw (fun b hb' e'=>Bv (e' ▸ hb')),Bv⟩,fun b hb'=>.inr (hf b hb')⟩,fun j hj=>?_,fun j=>?_, ?_⟩
 ·rw[World.cell?_setCells_in B vs' o w1 hsome j hj,aV hj]
 ·rw[oH];exact hP1.free j (by omega)
 ·rw[World.cell?_setCells_out B vs' o w1 _ (fun _ _=>by simp only;omega)]
  exact bf e
 ·rw[oH];simp only[World.frozen?,e]
 ·exact (eX.of_below (f:=fun b=>fp b\/b=B) hb).trans hw (fun b _ k=>.inr k)
theorem Mw.Oy {w X X1: aI} {o: Nat} {m: Mb} {fp: Fp} (h:Mw w X B o m fp g off c) (hk:k<m.rows.length) (hb:Below X.heap.size X X1) {r': Rw} {Ar: Ra} {fr: Fp} (hr:gB X1 (jM r') (jr Ar r') fr) (hfr:∀ b,fr b->X.heap.size<=b) :
  Mw w ((((((((X1.setCell ⟨g,off+k*8,ak⟩ (ah aA r'.ver)).setCell ⟨g,off+k*8+1,ak⟩ (aj Ar.ta r'.txt.length Ar.tc)).setCell ⟨g,off+k*8+2,ak⟩ (aj Ar.ga r'.got.length Ar.gc)).setCell ⟨g,off+k*8+3,ak⟩ (aj Ar.sa r'.dQ.length Ar.sc)).setCell ⟨g,off+k*8+4,ak⟩ (aF r'.wed)).setCell ⟨g,off+k*8+5,ak⟩ (aF r'.dV)).setCell ⟨g,off+k*8+6,ak⟩ (ah aA r'.dW)).setCell ⟨g,off+k*8+7,ak⟩ (aj Ar.ma r'.dU.length Ar.mc)) B o { m with rows:=m.rows.set k r' } fp g off c:=by
 obtain⟨gU,hp,hf1,hgo⟩:=h.iw.next;obtain⟨g',off',c',f,h1,hgB,hfg,hfs,hpl,hput⟩:=hp.el (F:=jo) jU (by omega) (j:=2) (L:=m.rows) rfl (iV hk)
 have e:=bT (h1.symm.trans h.rws)
 cases e
 have hA:=hpl.all hb (Ez hr) rfl hfr;have hB:=hgo _ (jY { m with rows:=m.rows.set k r' }) rfl (hput _ r' hA)
 refine⟨hB, ?_⟩;have hr1:X1.cell? ⟨B,o+2,ak⟩=au (aj (au ⟨g,off,ak⟩) m.rows.length c):=(bf (hb.block B hp.lt)).trans h.rws;have:=World.cell?_setCells_out g (fQ Ar r').toList (off+k*8) X1 ⟨B,o+2,ak⟩ (fun e _=>absurd e.symm hgB)
 have e2:=this.trans hr1;simp only[bQ]
 exact e2
theorem Mw.free {w X:aI} {B o:Nat} {m:Mb} {fp:Fp} {g off c:Nat} (h:Mw w X B o m fp g off c) {k:Nat} (hk:k<m.rows.length):(X.frozen? ⟨g,off+k*8,ak⟩=aC/\X.frozen? ⟨g,off+k*8+1,ak⟩=aC/\X.frozen? ⟨g,off+k*8+2,ak⟩=aC/\X.frozen? ⟨g,off+k*8+3,ak⟩=aC)/\X.frozen? ⟨g,off+k*8+4,ak⟩=aC/\X.frozen? ⟨g,off+k*8+5,ak⟩=aC/\X.frozen? ⟨g,off+k*8+6,ak⟩=aC/\X.frozen? ⟨g,off+k*8+7,ak⟩=aC:=by
 obtain⟨gU,hp,hf1,hgo⟩:=h.iw.next;obtain⟨g',off',c',f,h1,hgB,hfg,hfs,⟨vs,hpc,hov,_⟩,hput⟩:=hp.el (F:=jo) jU (by omega) (j:=2) (L:=m.rows) rfl (iV hk)
 have e:=bT (h1.symm.trans h.rws)
 cases e
 have hl:vs.length=8:=jO hov;exact⟨⟨hpc.free 0 (by omega),hpc.free 1 (by omega),hpc.free 2 (by omega),hpc.free 3 (by omega)⟩,hpc.free 4 (by omega),hpc.free 5 (by omega),hpc.free 6 (by omega),hpc.free 7 (by omega)⟩
theorem EN (B o:Nat) (m:Mb) (i n:Nat) (fr:Int) (Ar:Ra) (r:Rw) (fp:Fp) (w:aI) (h:iP w B o (jY m) fp) (ok:iO m i n) (hrw:qj w Ar r) (h6:ji fr) :
  dF dA 123 #[aO (au ⟨B,o,ak⟩),ah aA fr,iK Ar r] w fun e w'=>e=aK (aF (fK m fr r).2)/\fH w w' B o (jY (fK m fr r).1) fp:=by
 have gq:=iD;have hil:i<m.rows.length:=by rw[ok.len];exact ok.lt
 obtain⟨g,off,c,Lj⟩:=Mw.start h (by omega)
 have hB0:=dX w (aH (fQ Ar r) 44);have hx:=Bx.new w 44 (fQ Ar r);have M0:=Lj.step hB0;have zM:=hrw.below hB0;unfold iK;unfold fQ at *;generalize hW:w.alloc (aH #[ah aA r.ver,aj Ar.ta r.txt.length Ar.tc,aj Ar.ga r.got.length Ar.gc,aj Ar.sa r.dQ.length Ar.sc,aF r.wed,aF r.dV,ah aA r.dW,aj Ar.ma r.dU.length Ar.mc] 44)=W at *;have HX:=dP hx;have kQ:=dP M0;have IU:=dP zM;obtain⟨c0,c1,c4⟩:=M0.id';have c2:=M0.rws;rw[ok.hid] at c0;rw[ok.hn] at c1;obtain⟨Ak,⟨⟨d0,d1,d2,d3⟩,d4,d5,d6,d7⟩,hrs⟩:=M0.row ok.fit hil;obtain⟨⟨x0,x1,x2,x3⟩,x4,x5,x6,x7⟩:=Bx.r8 hx;have hr:=ok.ok i ok.lt;have jq:=hr.n5;have wn:wrap64 ((n:Int)-1)=(n:Int)-1:=by unfold wrap64;omega
 have i0:(0:Int)<=i:=by omega
 have i1:(i:Int)<m.rows.length:=by omega
 have HD:aG (fK m fr r=if inB fr 0 ((n:Int)-1)=aC\/fr=(i:Int)\/fr∈(dO m.rows i).dQ\/m.done=aB\/gu r (n:Int)=aC\/r.ver<=(dO m.rows fr.toNat).ver then (m,aC) else ({ m with rows:=m.rows.set fr.toNat r },aB)):=by
  have e:m.i=i:=by unfold Mb.i;rw[ok.hid];rfl
  rw[aG,fK,Mb.own,e,ok.hid,ok.hn]
 have KI:∀ (q:Bk W) (a b d:Int),dF dA 40 #[ah aA a,ah aA b,ah aA d] q.w fun e w'=>e=aK (aF (inB a b d))/\Below q.w.heap.size q.w w':=fun q a b d=>(gI a b d q.w).mono (fun e w' h=>⟨h.1,by rw[h.2];exact dw _ _⟩)
 have C1:∀ q:Bk W,dF dA 40 #[ah aA fr,ah aA 0,ah aA ((n:Int)-1)] q.w fun e w'=>e=aK (aF (inB fr 0 ((n:Int)-1)))/\Below q.w.heap.size q.w w':=fun q=>KI q _ _ _
 have C2:∀ q:Bk W,dF dA 113 #[aj Ak.sa (dO m.rows i).dQ.length Ak.sc,ah aA fr] q.w fun e w'=>e=aK (aF (decide (fr∈(dO m.rows i).dQ)))/\Below q.w.heap.size q.w w':=fun q=>(qL Ak.sa (dO m.rows i).dQ.length Ak.sc fr (dO m.rows i).dQ q.w (hrs.dQ.below q.h (cO _)) hrs.ms).mono (fun e w' h=>⟨h.1,by rw[h.2];exact dw _ _⟩)
 have C3:∀ q:Bk W,dF dA 74 #[aP #[ah aA r.ver,aj Ar.ta r.txt.length Ar.tc,aj Ar.ga r.got.length Ar.gc,aj Ar.sa r.dQ.length Ar.sc,aF r.wed,aF r.dV,ah aA r.dW,aj Ar.ma r.dU.length Ar.mc],ah aA (n:Int)] q.w fun e w'=>e=aK (aF (gu r (n:Int)))/\Below q.w.heap.size q.w w':=fun q=>G8 Ar r (n:Int) q.w (zM.below q.h)
 have T:∀ {x v},W.cell? x=au v->∀ q:Bk W,q.w.cell? x=au v:=fun h q=>gy q.h h
 have p0:=T c0;have p1:=T c1;have p2:=T c2;have p4:=T c4;have s3:=T d3;have y0:=T x0;have y1:=T x1;have y2:=T x2;have y3:=T x3;have y4:=T x4;have y5:=T x5;have y6:=T x6;have y7:=T x7;by_cases e1:inB fr 0 ((n:Int)-1)=aB;rotate_left
 ·have e1':inB fr 0 ((n:Int)-1)=aC:=by simpa using e1
  have HZ:aG (fK m fr r=(m,aC)):=by rw[aG,HD.out,if_pos (.inl e1')]
  rw[e1'] at C1;clear c0 c1 c2 c4 d0 d1 d2 d3 d4 d5 d6 d7 x0 x1 x2 x3 x4 x5 x6 x7 T KI hrs zM M0 Lj hB0 hx h hrw HD;go_enter Tryz.func123,Tryz.ntmps123
  go_wp2_with fail
  refine jg ?_;repeat (go_big_quiet_step ((first|(go_at_call 40;exact eY _ (C1 _))|(go_at_call 113;exact eY _ (C2 _))|(go_at_call 74;exact eY _ (C3 _))|rfl)))
  refine dh (iL fun wE eG=>?_)
  have oW:=dP (kQ.out.step eG);clear p0 p1 p2 p4 s3 y0 y1 y2 y3 y4 y5 y6 y7 C1 C2 C3;go_wp2;go_ret
  exact⟨dZ (by rw[HZ.out]),by rw[HZ.out];exact oW.out.iw⟩
 rw[e1] at C1;have hfr:=iZ.1 e1;obtain⟨F,rfl⟩:∃ F:Nat,fr=(F:Int):=⟨fr.toNat,by omega⟩
 have uF:F<m.rows.length:=by rw[ok.len];omega
 have F0:(0:Int)<=F:=by omega
 have F1:(F:Int)<m.rows.length:=by omega
 obtain⟨Af,⟨⟨f0,_,_,_⟩,_⟩,_⟩:=M0.row ok.fit uF;have s0:=T f0;have RN:=f0;clear f0
 have HD:aG (fK m (F:Int) r=if (F:Int)=(i:Int)\/(F:Int)∈(dO m.rows i).dQ\/m.done=aB\/gu r (n:Int)=aC\/r.ver<=(dO m.rows F).ver then (m,aC) else ({ m with rows:=m.rows.set F r },aB)):=by
  rw[aG,HD.out,e1];simp
 clear e1;by_cases h2:(F:Int)=i
 ·have HZ:aG (fK m (F:Int) r=(m,aC)):=by rw[aG,HD.out,if_pos (.inl h2)]
  have g2:((F:Int)==(i:Int))=aB:=by rw[h2];simp
  clear h2;clear c0 c1 c2 c4 d0 d1 d2 d3 d4 d5 d6 d7 x0 x1 x2 x3 x4 x5 x6 x7 T KI hrs zM M0 Lj hB0 hx h hrw HD RN;go_enter Tryz.func123,Tryz.ntmps123
  go_wp2_with fail
  refine jg ?_;repeat (go_big_quiet_step ((first|(go_at_call 40;exact eY _ (C1 _))|(go_at_call 113;exact eY _ (C2 _))|(go_at_call 74;exact eY _ (C3 _))|rfl)))
  refine dh (iL fun wE eG=>?_)
  have oW:=dP (kQ.out.step eG);clear p0 p1 p2 p4 s3 y0 y1 y2 y3 y4 y5 y6 y7 C1 C2 C3 s0;go_wp2;go_ret
  exact⟨dZ (by rw[HZ.out]),by rw[HZ.out];exact oW.out.iw⟩
 have g2:((F:Int)==(i:Int))=aC:=by simpa using h2
 by_cases h3:(F:Int)∈(dO m.rows i).dQ
 ·have HZ:aG (fK m (F:Int) r=(m,aC)):=by rw[aG,HD.out,if_pos (.inr (.inl h3))]
  rw[decide_eq_true h3] at C2;clear h3;clear c0 c1 c2 c4 d0 d1 d2 d3 d4 d5 d6 d7 x0 x1 x2 x3 x4 x5 x6 x7 T KI hrs zM M0 Lj hB0 hx h hrw HD RN;go_enter Tryz.func123,Tryz.ntmps123
  go_wp2_with fail
  refine jg ?_;repeat (go_big_quiet_step ((first|(go_at_call 40;exact eY _ (C1 _))|(go_at_call 113;exact eY _ (C2 _))|(go_at_call 74;exact eY _ (C3 _))|rfl)))
  refine dh (iL fun wE eG=>?_)
  have oW:=dP (kQ.out.step eG);clear p0 p1 p2 p4 s3 y0 y1 y2 y3 y4 y5 y6 y7 C1 C2 C3 s0;go_wp2;go_ret
  exact⟨dZ (by rw[HZ.out]),by rw[HZ.out];exact oW.out.iw⟩
 rw[decide_eq_false h3] at C2;by_cases h4:m.done=aB
 ·have HZ:aG (fK m (F:Int) r=(m,aC)):=by rw[aG,HD.out,if_pos (.inr (.inr (.inl h4)))]
  rw[h4] at p4;clear h4;clear c0 c1 c2 c4 d0 d1 d2 d3 d4 d5 d6 d7 x0 x1 x2 x3 x4 x5 x6 x7 T KI hrs zM M0 Lj hB0 hx h hrw HD RN;go_enter Tryz.func123,Tryz.ntmps123
  go_wp2_with fail
  refine jg ?_;repeat (go_big_quiet_step ((first|(go_at_call 40;exact eY _ (C1 _))|(go_at_call 113;exact eY _ (C2 _))|(go_at_call 74;exact eY _ (C3 _))|rfl)))
  refine dh (iL fun wE eG=>?_)
  have oW:=dP (kQ.out.step eG);clear p0 p1 p2 p4 s3 y0 y1 y2 y3 y4 y5 y6 y7 C1 C2 C3 s0;go_wp2;go_ret
  exact⟨dZ (by rw[HZ.out]),by rw[HZ.out];exact oW.out.iw⟩
 rw[show m.done=aC by simpa using h4] at p4
 by_cases h5:gu r (n:Int)=aC
 ·have HZ:aG (fK m (F:Int) r=(m,aC)):=by rw[aG,HD.out,if_pos (.inr (.inr (.inr (.inl h5))))]
  rw[h5] at C3;clear h5;clear c0 c1 c2 c4 d0 d1 d2 d3 d4 d5 d6 d7 x0 x1 x2 x3 x4 x5 x6 x7 T KI hrs zM M0 Lj hB0 hx h hrw HD RN;go_enter Tryz.func123,Tryz.ntmps123
  go_wp2_with fail
  refine jg ?_;repeat (go_big_quiet_step ((first|(go_at_call 40;exact eY _ (C1 _))|(go_at_call 113;exact eY _ (C2 _))|(go_at_call 74;exact eY _ (C3 _))|rfl)))
  refine dh (iL fun wE eG=>?_)
  have oW:=dP (kQ.out.step eG);clear p0 p1 p2 p4 s3 y0 y1 y2 y3 y4 y5 y6 y7 C1 C2 C3 s0;go_wp2;go_ret
  exact⟨dZ (by rw[HZ.out]),by rw[HZ.out];exact oW.out.iw⟩
 have h5':gu r (n:Int)=aB:=by simpa using h5
 rw[h5'] at C3;by_cases h6':r.ver<=(dO m.rows F).ver
 ·have HZ:aG (fK m (F:Int) r=(m,aC)):=by rw[aG,HD.out,if_pos (.inr (.inr (.inr (.inr h6'))))]
  have g6:decide (r.ver<=(dO m.rows F).ver)=aB:=by simpa using h6'
  clear c0 c1 c2 c4 d0 d1 d2 d3 d4 d5 d6 d7 x0 x1 x2 x3 x4 x5 x6 x7 T KI hrs zM M0 Lj hB0 hx h hrw HD RN;go_enter Tryz.func123,Tryz.ntmps123
  go_wp2_with fail
  refine jg ?_;repeat (go_big_quiet_step ((first|(go_at_call 40;exact eY _ (C1 _))|(go_at_call 113;exact eY _ (C2 _))|(go_at_call 74;exact eY _ (C3 _))|rfl)))
  refine dh (iL fun wE eG=>?_)
  have oW:=dP (kQ.out.step eG);clear p0 p1 p2 p4 s3 y0 y1 y2 y3 y4 y5 y6 y7 C1 C2 C3 s0;go_wp2;go_ret
  exact⟨dZ (by rw[HZ.out]),by rw[HZ.out];exact oW.out.iw⟩
 have g6:decide (r.ver<=(dO m.rows F).ver)=aC:=by simpa using h6'
 have HZ:aG (fK m (F:Int) r=({ m with rows:=m.rows.set F r },aB)):=by rw[aG,HD.out,if_neg];rintro (k|k|k|k|k)<;>contradiction
 have hln:=(rC.1 h5').ln;clear h2 h3 h4 h5;clear c0 c1 c2 c4 d0 d1 d2 d3 d4 d5 d6 d7 x0 x1 x2 x3 x4 x5 x6 x7 T KI hrs zM M0 Lj hB0 hx h hrw HD RN;go_enter Tryz.func123,Tryz.ntmps123
 go_wp2_with fail
 refine jg ?_;repeat (go_big_quiet_step ((first|(go_at_call 40;exact eY _ (C1 _))|(go_at_call 113;exact eY _ (C2 _))|(go_at_call 74;exact eY _ (C3 _))|rfl)))
 refine dh (iL fun wE eG=>?_)
 have M1:=kQ.out.step eG;have oW:=dP M1;have HXe:=dP (HX.out.below eG);have I9:=dP (IU.out.below eG);clear p0 p1 p2 p4 s3 y0 y1 y2 y3 y4 y5 y6 y7 C1 C2 C3 s0 M1;go_wp2_with fail
 have KS:∀ X,Below wE.heap.size wE X->(X.cell? ⟨B,o+2,ak⟩=au (aj (au ⟨g,off,ak⟩) m.rows.length c)/\X.cell? ⟨w.heap.size,0,ak⟩=au (ah aA r.ver)/\X.cell? ⟨w.heap.size,1,ak⟩=au (aj Ar.ta r.txt.length Ar.tc)/\X.cell? ⟨w.heap.size,2,ak⟩=au (aj Ar.ga r.got.length Ar.gc)/\X.cell? ⟨w.heap.size,3,ak⟩=au (aj Ar.sa r.dQ.length Ar.sc)/\X.cell? ⟨w.heap.size,4,ak⟩=au (aF r.wed)/\X.cell? ⟨w.heap.size,5,ak⟩=au (aF r.dV)/\X.cell? ⟨w.heap.size,6,ak⟩=au (ah aA r.dW)/\X.cell? ⟨w.heap.size,7,ak⟩=au (aj Ar.ma r.dU.length Ar.mc)):=fun X hX=>by
  obtain⟨⟨x0,x1,x2,x3⟩,x4,x5,x6,x7⟩:=Bx.r8 (HXe.out.below hX);exact⟨(oW.out.step hX).rws,x0,x1,x2,x3,x4,x5,x6,x7⟩
 have hbd:=(Same.drewN wE 1).below;refine lU (S:=fun X:aI=>X.cell? ⟨B,o+2,ak⟩=au (aj (au ⟨g,off,ak⟩) m.rows.length c)/\X.cell? ⟨w.heap.size,0,ak⟩=au (ah aA r.ver)/\X.cell? ⟨w.heap.size,1,ak⟩=au (aj Ar.ta r.txt.length Ar.tc)/\X.cell? ⟨w.heap.size,2,ak⟩=au (aj Ar.ga r.got.length Ar.gc)/\X.cell? ⟨w.heap.size,3,ak⟩=au (aj Ar.sa r.dQ.length Ar.sc)/\X.cell? ⟨w.heap.size,4,ak⟩=au (aF r.wed)/\X.cell? ⟨w.heap.size,5,ak⟩=au (aF r.dV)/\X.cell? ⟨w.heap.size,6,ak⟩=au (ah aA r.dW)/\X.cell? ⟨w.heap.size,7,ak⟩=au (aj Ar.ma r.dU.length Ar.mc)) 8 gq ((KS _ hbd)) fun hHeld=>?_
 refine fC (i:=0) rfl hHeld ?_;refine fC (i:=1) rfl hHeld ?_;refine fC (i:=2) rfl hHeld ?_;refine fC (i:=3) rfl hHeld ?_;refine fC (i:=4) rfl hHeld ?_;refine fC (i:=5) rfl hHeld ?_;refine iJ (i:=6) rfl fun K hK=>?_
 go_simp
 go_at_call 76
 refine (yG Ar r wE.drew (I9.out.below hbd) hln.1 hln.2.1 hln.2.2.1 hln.2.2.2).mono ?_;rintro e w1 ⟨As,rfl,fr,hr1,hr2,hr3⟩;have hb1:=eU hbd hr3;have M2:=oW.out.step hb1;obtain⟨Af2,⟨⟨f0,f1,f2,f3⟩,f4,f5,f6,f7⟩,_⟩:=M2.row ok.fit uF;obtain⟨⟨z0,z1,z2,z3⟩,z4,z5,z6,z7⟩:=M2.free uF;have lC:=oW.out.Oy uF hb1 hr1 (fun b hb=>hr2 b hb)
 refine hK.out _ _ (KS _ hb1) (fun eP=>?_)
 clear hK hHeld;have hHeld:=eP;try simp only[iC]
 refine fC (i:=7) rfl hHeld ?_;unfold iK fQ;refine oV rfl fun K hK=>?_
 go_simp;refine hK.out _ _ ?_;have HB3:=lC.iw;have HB4:=dP HB3;clear lC HB3 M2 f0 f1 f2 f3 f4 f5 f6 f7 z0 z1 z2 z3 z4 z5 z6 z7 KS hbd hr1 hr2 hr3 hb1;go_wp2;go_ret
 exact⟨dZ (by rw[HZ.out]),by rw[HZ.out];exact HB4.out⟩
theorem RP {w: aI} {x: Ml} (h:gB w (kS x) us f):∃ A:Ra,us=(yU x A).toList/\gB w (jM x.row) (jr A x.row) f:=by
 obtain⟨vW,rfl,h1⟩:=qF h;obtain⟨wY,rfl,h2⟩:=qF h1;obtain⟨A,rfl,h3⟩:=wP h2;exact⟨A,rfl,h3⟩
theorem wrap_one (h:i<=1000000):IntKind.i64.wrap ((i:Int)+1)=(i:Int)+1:=by rw[IntKind.wrap_i64];omega
theorem addr_add (b o j:Nat):(⟨b,o,ak⟩:dH).add j=⟨b,o+j,ak⟩:=by by_cases hj:j=0<;>simp[Addr.add,hj]
theorem av8 {w: aI} (h:gB w (jM r) (jr A r) f) (hf:qo r) (hl:VN r):qj w A r:=by
 obtain⟨u1,vW,f1,g1,e1,o1,h2,_⟩:=h
 cases e1
 obtain⟨u2,wY,f2,g2,e2,o2,h3,_⟩:=h2
 cases e2
 obtain⟨u3,Es,f3,g3,e3,o3,h4,_⟩:=h3
 cases e3
 obtain⟨u4,NU,f4,g4,e4,o4,h5,_⟩:=h4
 cases e4
 obtain⟨n1,n2,n3,n4⟩:=hl;exact⟨(NI o1).Vu,(sO o2 hf.1).vec,(sO o3 hf.2.1).vec,(sO o4 hf.2.2).vec,by unfold dD;omega,by unfold dD;omega,by unfold dD;omega,by unfold dD;omega⟩
theorem Zq {w W: aI} (hW:Below w.heap.size w W) {L: List Ml} {la: Option dH} {lb lo lc: Nat} {f f1 f3: Fp} {u1 u3: List aJ} (hi:i<L.length) (hl:L.length<=1000000) (hlc:L.length<=lc)
  (hs1:∀ b,f1 b->b<w.heap.size) (hs3:∀ b,f3 b->b<w.heap.size) (h13:∀ b,f1 b->¬ f3 b) (l1:gB w ((L.take i).flatMap kS) u1 f1) (l3:gB w ((L.drop (i+1)).flatMap kS) u3 f3)
  (k1:∀ j y,u1[j]?=au y->w.cell? ⟨lb,lo+j,ak⟩=au y) (k3:∀ j y,u3[j]?=au y->w.cell? ⟨lb,lo+(i+1)*10+j,ak⟩=au y) :
  (∀ X,(Instr.slice 26 (aj (au ⟨lb,lo,ak⟩) L.length lc) ak (au (ah aA (i:Int))) ak).run dA X=.ok (aj (au ⟨lb,lo,ak⟩) i lc) X) /\
  ∃ a3,(∀ X,(Instr.slice 26 (aj (au ⟨lb,lo,ak⟩) L.length lc) (au (ah aA ((i:Int)+1))) ak ak).run dA X=.ok (aj a3 (L.length-(i+1)) (lc-(i+1))) X) /\
  ∀ Y,Same Y (W.alloc (aH #[] 68))->∃ v1 w1,(bU #[26,26] 26 #[aj (au ⟨W.heap.size,0,ak⟩) 0 0,aj (au ⟨lb,lo,ak⟩) i lc]).run dA Y=.ok v1 w1 /\
   ∃ a1 c1,v1=aj a1 i c1/\Below W.heap.size W w1 /\
   ∀ Y2,Same Y2 w1->∃ v2 w2,(bU #[26,26] 26 #[aj a1 i c1,aj a3 (L.length-(i+1)) (lc-(i+1))]).run dA Y2=.ok v2 w2 /\
    ∃ a2 c2 f',v2=aj a2 (i+(L.length-(i+1))) c2/\eX f1 W w2/\dY.ow w2 (iH 10 kS (L.take i++L.drop (i+1))) (aj a2 (i+(L.length-(i+1))) c2) f'/\∀ b,f' b->f1 b\/f3 b\/W.heap.size<=b:=by
 obtain⟨i0,hi0,hz0,hz1,hz2⟩:=uP Tryz.infoMl;have hel:Tryz.prog.elem 26=68:=by kernel_rfl
 have hce:Tryz.prog.cellsOf 68=10:=by kernel_rfl
 have n1:(L.take i).length=i:=by rw[bM];omega
 have n3:(L.drop (i+1)).length=L.length-(i+1):=List.length_drop;refine⟨fun X=>?_,if lc=i+1 then au ⟨lb,lo,ak⟩ else au ⟨lb,lo+(i+1)*10,ak⟩,fun X=>?_,fun Y hY=>?_⟩
 ·rw[run_slice_h X 26 (au ⟨lb,lo,ak⟩) L.length lc (by kernel_rfl) aA (i:Int) (by omega) (by omega),hel,run_sizeOf X hi0,hce]
  have:¬ lc=0:=by omega
  simp[Result.andThen,sliced,this,Addr.add]
 ·rw[run_slice_l X 26 (au ⟨lb,lo,ak⟩) L.length lc (by kernel_rfl) aA ((i:Int)+1) (by omega) (by omega),hel,run_sizeOf X hi0,hce]
  have e:((i:Int)+1).toNat=i+1:=by omega
  simp only[Result.andThen,sliced,e]
  split<;>simp[Addr.add]
 have lg:=(dX W _).trans (hY.below.mono (dX W _).size);have hwY:=eU hW lg;have hnb:W.heap.size<Y.heap.size:=by rw[hY.size];simp
 have l1Y:=gG l1 hwY;have e0:dY.ow Y (iH 10 kS []) (aj (au ⟨W.heap.size,0,ak⟩) 0 0) (fun _=>False):=⟨au ⟨W.heap.size,0,ak⟩,0,[],ak,fun _=>False,rfl,iQ.nil _ _ (kL _ _),⟨rfl,fun _ h=>h⟩,fun _ _ h=>h,fun b=>by simp⟩
 obtain ⟨a1,c1,w1,fq,r1,o1,w1w,s1⟩ := JU (P := dA) rD zK (w := Y) 26 26 68 _ 136 Tryz.underlying26 Tryz.infoMl rfl (by omega) (L := []) (M := L.take i) e0 l1Y (fun _ h => h.elim) (au ⟨lb,lo,ak⟩) lc (.inr ⟨_,rfl,fun j u hu => by
  have:=k1 j u hu;have h2:=gy hwY this;rw[addr_add];exact h2⟩) (by simp only[List.length_nil];rw[n1];unfold dD;omega) (by simp only[List.length_nil];rw[n1];omega)
 simp only[List.length_nil,Nat.zero_add,List.nil_append] at r1 o1;rw[n1] at r1 o1;have hb1:Below W.heap.size W w1:=w1w.below lg lg.size (fun b h=>h.elim)
 refine⟨_,w1,r1,a1,c1,rfl,hb1,fun Y2 hY2=>?_⟩
 have hb2:=eU hb1 hY2.below;have hw2:=eU hW hb2;have l3Y:=gG l3 hw2;have Ry:dY.ow Y2 (iH 10 kS (L.take i)) (aj a1 (L.take i).length c1) fq:=by rw[n1];exact dY.ig o1 hY2.below
 have hsY:=hwY.size
 obtain ⟨a2,c2,w2,fr,r2,o2,w2w,s2⟩ := JU (P := dA) rD zK (w := Y2) 26 26 68 _ 136 Tryz.underlying26 Tryz.infoMl rfl (by omega) (L := L.take i) (M := L.drop (i + 1)) Ry l3Y (fun b h1 h3 => by
  rcases s1 b h1 with k|k|k
  ·exact k
  ·exact h13 b k h3
  ·have:=hs3 b h3;omega) (if lc=i+1 then au ⟨lb,lo,ak⟩ else au ⟨lb,lo+(i+1)*10,ak⟩) (lc-(i+1)) (by
   by_cases e:lc=i+1
   ·left;rw[n3];omega
   ·right
    rw[if_neg e];refine⟨_,rfl,fun j u hu=>?_⟩
    have:=k3 j u hu;have h2:=gy hw2 this;rw[addr_add];exact h2) (by rw[n1,n3];unfold dD;omega) (by rw[n1,n3];omega)
 rw[n1,n3] at r2 o2;have hsW:=hW.size;refine⟨_,w2,r2,a2,c2,fr,rfl,(eX.of_below (f:=f1) hb2).trans w2w (fun b hlt h=>?_),o2,fun b hb=>?_⟩
 ·rcases s1 b h with k|k|k
  ·exact k.elim
  ·exact k
  ·omega
 ·rcases s2 b hb with k|k|k
  ·rcases s1 b k with k|k|k
   ·exact k.elim
   ·exact .inl k
   ·right;right;omega
  ·exact .inr (.inl k)
  ·right;right;have:=hb2.size;omega
theorem Ll (B o:Nat) (g:Gr) (n i:Nat) (fp:Fp) (w:aI) (h:iP w B o (fZ g) fp) (ok:OkG g n) (hi:i<g.dS.length) :
  dF dA 79 #[aO (au ⟨B,o,ak⟩),ah aA (i:Int)] w fun e w'=>e=aK (.tuple #[])/\fH w w' B o (fZ (ku g i)) fp:=by
 have gq:=iD;have jq:=ok.n5;have EI:=ok.pJ;obtain⟨bb,off,c,G0⟩:=Gw.start h (by rw[ok.ml];omega)
 obtain⟨u,f,f0,hu,hfz,how,hfB,hBl,hfl,hmem,hap,hput⟩:=G0.full;obtain⟨lb,lo,lc,u1,u2,u3,f1,f2,f3,rfl,hfb,hlc,hlm,s1,s2,s3,l1,l2,l3,d12,d13,d23,k1,k2,k3⟩:=RF rD how (nH hi);obtain⟨a,t,efr,eto,han,htn,hat,R⟩:=ok.kU _ (List.mem_of_getElem? (nH hi))
 have Oz:aG (ku g i=if ou g t=aB then { mem:=g.mem.set t (fK (eF g t) (fF g i).fr (fF g i).row).1,up:=g.up,dS:=g.dS.take i++g.dS.drop (i+1) } else { g with dS:=g.dS.take i++g.dS.drop (i+1) }):=by
  rw[aG,ku,eto];simp only[Int.toNat_natCast]
 obtain⟨A,eA,Wh⟩:=RP l2;subst eA;have hln:=R.ln;have hfit:=R.fit;generalize fF g i=x at *;obtain⟨fr,tt,r⟩:=x;simp only at efr eto Oz Wh R hln hfit
 subst efr eto;have hc:∀ j y,(yU ⟨(a:Int),(t:Int),r⟩ A).toList[j]?=au y->w.cell? ⟨lb,lo+i*10+j,ak⟩=au y:=k2;have x0:=hc 0 _ rfl;have x1:=hc 1 _ rfl;have x2:=hc 2 _ rfl;have x3:=hc 3 _ rfl;have x4:=hc 4 _ rfl;have x5:=hc 5 _ rfl;have x6:=hc 6 _ rfl;have x7:=hc 7 _ rfl;have x8:=hc 8 _ rfl;have x9:=hc 9 _ rfl;simp only[Nat.add_zero] at x0;have hB0:=dX w (aH #[ah aA (a:Int),ah aA (t:Int),ah aA r.ver,aj A.ta r.txt.length A.tc,aj A.ga r.got.length A.gc,aj A.sa r.dQ.length A.sc,aF r.wed,aF r.dV,ah aA r.dW,aj A.ma r.dU.length A.mc] 68);have hx:=Bx.new w 68 #[ah aA (a:Int),ah aA (t:Int),ah aA r.ver,aj A.ta r.txt.length A.tc,aj A.ga r.got.length A.gc,aj A.sa r.dQ.length A.sc,aF r.wed,aF r.dV,ah aA r.dW,aj A.ma r.dU.length A.mc];obtain⟨sl1,a3,sl3,hA⟩:=Zq (W:=w.alloc (aH #[ah aA (a:Int),ah aA (t:Int),ah aA r.ver,aj A.ta r.txt.length A.tc,aj A.ga r.got.length A.gc,aj A.sa r.dQ.length A.sc,aF r.wed,aF r.dV,ah aA r.dW,aj A.ma r.dU.length A.mc] 68)) (la:=ak) (f:=f) hB0 hi (by omega) hlc (fun b hb=>hfl b (s1 b hb).1) (fun b hb=>hfl b (s3 b hb).1) d13 l1 l3 k1 k3
 have i0:(0:Int)<=i:=by omega
 have i1:(i:Int)<g.dS.length:=by omega
 have hwi:IntKind.i64.wrap ((i:Int)+1)=(i:Int)+1:=wrap_one (by omega)
 have Dw:aG (∀ (X1:aI) (L:List Ml) (u':aJ) (f':Fp),eX f w X1->dY.ow X1 (iH 10 kS L) u' f'->(∀ b,f' b->f b\/w.heap.size<=b)->X1.cell? ⟨B,o+2,ak⟩=au (aj (au ⟨lb,lo,ak⟩) g.dS.length lc)/\X1.frozen? ⟨B,o+2,ak⟩=aC/\Gw w (X1.setCell ⟨B,o+2,ak⟩ u') B o { g with dS:=L } fp bb off c):=hput
 have HL2:aG (gB w (jM r) (jr A r) f2/\(∀ b,f1 b->¬ f2 b)/\(∀ b,f2 b->b≠B)/\(∀ b,f2 b->b<w.heap.size)):=⟨Wh,d12,fun b hb e=>hfB (e ▸ (s2 b hb).1),fun b hb=>hfl b (s2 b hb).1⟩
 have HF:aG ((∀ b,f1 b->f b)/\(∀ b,f3 b->f b)/\¬ f B/\B<w.heap.size/\∀ b,f b->b<w.heap.size):=⟨fun b hb=>(s1 b hb).1,fun b hb=>(s3 b hb).1,hfB,hBl,hfl⟩
 have iE:aG (OkG g n):=ok;have Zt:aG (qo r):=hfit;generalize hW:w.alloc (aH #[ah aA (a:Int),ah aA (t:Int),ah aA r.ver,aj A.ta r.txt.length A.tc,aj A.ga r.got.length A.gc,aj A.sa r.dQ.length A.sc,aF r.wed,aF r.dV,ah aA r.dW,aj A.ma r.dU.length A.mc] 68)=W at *;have hw0:w.alloc (aH #[ah aA (a:Int),ah aA (t:Int),ah aA r.ver,aj A.ta r.txt.length A.tc,aj A.ga r.got.length A.gc,aj A.sa r.dQ.length A.sc,aF r.wed,aF r.dV,ah aA r.dW,aj A.ma r.dU.length A.mc] 68)=W:=hW;have HB0:aG (Below w.heap.size w W):=hB0;have HX:aG (Bx W w.heap.size 68 #[ah aA (a:Int),ah aA (t:Int),ah aA r.ver,aj A.ta r.txt.length A.tc,aj A.ga r.got.length A.gc,aj A.sa r.dQ.length A.sc,aF r.wed,aF r.dV,ah aA r.dW,aj A.ma r.dU.length A.mc]):=hx;have OA:W.cell? ⟨B,o+2,ak⟩=au (aj (au ⟨lb,lo,ak⟩) g.dS.length lc):=gy hB0 hu;have HuW:aG (W.cell? ⟨B,o+2,ak⟩=au (aj (au ⟨lb,lo,ak⟩) g.dS.length lc)):=OA;have hbd:Below W.heap.size W W.drew:=(Same.drewN W 1).below
 have hAd:∀ Y,Same Y (W.drew.alloc (aH #[] 68))->∃ v1 w1,(bU #[26,26] 26 #[aj (au ⟨W.heap.size,0,ak⟩) 0 0,aj (au ⟨lb,lo,ak⟩) i lc]).run dA Y=.ok v1 w1 /\
   ∃ a1 c1,v1=aj a1 i c1/\Below W.heap.size W w1 /\
   ∀ Y2,Same Y2 w1->∃ v2 w2,(bU #[26,26] 26 #[aj a1 i c1,aj a3 (g.dS.length-(i+1)) (lc-(i+1))]).run dA Y2=.ok v2 w2 /\
    ∃ a2 c2 f',v2=aj a2 (i+(g.dS.length-(i+1))) c2/\eX f1 W w2/\dY.ow w2 (iH 10 kS (g.dS.take i++g.dS.drop (i+1))) (aj a2 (i+(g.dS.length-(i+1))) c2) f'/\∀ b,f' b->f1 b\/f3 b\/W.heap.size<=b:=fun Y hY=>hA Y ⟨hY.heap,hY.os,hY.tape,hY.output⟩
 clear hput how hfl hap hmem h hfB hBl hB0 hx hW hc k1 k2 k3 l1 l2 Wh l3 s1 s2 s3 d12 d13 d23 hA hfb hfz G0 ok hfit;go_enter Tryz.func79,Tryz.ntmps79
 go_wp2_with fail
 clear x0 x1 x2 x3 x4 x5 x6 x7 x8 x9 hu;refine lU (S:=fun X:aI=>X.cell? ⟨B,o+2,ak⟩=au (aj (au ⟨lb,lo,ak⟩) g.dS.length lc)) 19 gq (OA) fun hHeld=>?_
 refine fE (i:=0) rfl ?_;refine fE (i:=2) rfl ?_;refine fE (i:=3) rfl ?_;refine fE (i:=4) rfl ?_;refine fC (i:=5) rfl hHeld ?_;refine fE (i:=6) rfl ?_;refine fE (i:=7) rfl ?_;refine fE (i:=9) rfl ?_;refine fE (i:=10) rfl ?_;refine fE (i:=11) rfl ?_;refine fC (i:=12) rfl hHeld ?_;refine fE (i:=13) rfl ?_;refine fE (i:=14) rfl ?_;refine fE (i:=15) rfl ?_;refine iJ (i:=1) rfl fun K hK=>?_
 go_simp;refine hK.out _ _ (((hbd.trans ((dX W.drew _).mono hbd.size)).cell (aX _ _ OA)).trans OA) (fun eP=>?_)
 clear hK hHeld;have hHeld:=eP;try simp only[iC]
 refine iJ (i:=8) rfl fun K hK=>?_
 refine jH (by rfl) _ _ _ _ (by rfl) (aj (au ⟨W.heap.size,0,ak⟩) 0 0) _ (by rfl) (by rfl) hAd ⟨rfl,rfl,rfl,rfl⟩ ?_
 rintro v1 w1 ⟨a1,c1,rfl,hb1,hA2⟩;refine hK.out _ _ (gy hb1 OA) (fun eP=>?_)
 clear hK hHeld;have hHeld:=eP;try simp only[iC]
 refine iJ (i:=16) rfl fun K hK=>?_
 refine jH (by rfl) _ _ _ _ (by rfl) (aj a1 i c1) _ (by rfl) (by rfl) hA2 ⟨rfl,rfl,rfl,rfl⟩ ?_
 rintro v2 w2 ⟨a2,c2,f',rfl,hw2,Hr,hf2⟩;refine hK.out _ _ (nI hw2 (fun h=>HF.out.2.2.1 (HF.out.1 _ h)) OA) (fun eP=>?_)
 clear hK hHeld;have hHeld:=eP;try simp only[iC]
 refine fE (i:=17) rfl ?_;refine fE (i:=18) rfl ?_;have av9:eX f w w2:=(eX.of_below (f:=f) HB0.out).trans hw2 (fun b _ h=>HF.out.1 b h)
 have hWs:=HB0.out.size
 obtain ⟨q1,q2,hG⟩ := Dw.out w2 _ _ f' av9 Hr (fun b hb => by
  rcases hf2 b hb with k|k|k
  ·exact .inl (HF.out.1 b k)
  ·exact .inl (HF.out.2.1 b k)
  ·right;omega)
 refine oV rfl fun K hK=>?_
 go_simp;refine hK.out _ _ ?_;have HG:aG (Gw w (w2.setCell ⟨B,o+2,ak⟩ (aj a2 (i+(g.dS.length-(i+1))) c2)) B o { g with dS:=g.dS.take i++g.dS.drop (i+1) } fp bb off c):=hG
 have l9:aG (Bx (w2.setCell ⟨B,o+2,ak⟩ (aj a2 (i+(g.dS.length-(i+1))) c2)) w.heap.size 68 #[ah aA (a:Int),ah aA (t:Int),ah aA r.ver,aj A.ta r.txt.length A.tc,aj A.ga r.got.length A.gc,aj A.sa r.dQ.length A.sc,aF r.wed,aF r.dV,ah aA r.dW,aj A.ma r.dU.length A.mc]):=(HX.out.wrt hw2 (fun h=>by have:=HF.out.2.2.2.2 _ (HF.out.1 _ h);omega)).far (by have:=HF.out.2.2.2.1;omega) _
 have HR2:aG (qj (w2.setCell ⟨B,o+2,ak⟩ (aj a2 (i+(g.dS.length-(i+1))) c2)) A r):=by
  have o1:=iy (gG HL2.out.1 HB0.out) hw2 (fun b hb h1=>HL2.out.2.1 b h1 hb)
  have o2:=iy o1 (eX.set w2 B (o+2) (aj a2 (i+(g.dS.length-(i+1))) c2)) (fun b hb e=>HL2.out.2.2.1 b hb e)
  exact av8 o2 Zt.out hln
 clear hG hA2 hAd q1 q2 hw2 Hr hf2 hb1 Dw OA HuW av9 HL2;generalize w2.setCell ⟨B,o+2,ak⟩ (aj a2 (i+(g.dS.length-(i+1))) c2)=W3 at *;have OB:t<g.mem.length:=by rw[iE.out.ml];exact htn
 have htu:t<g.up.length:=by rw[iE.out.ul];exact htn
 obtain⟨ub,uo,uc,cu,cb0,_,_⟩:=HG.out.bit (k:=t) htu;have cb:W3.cell? ⟨ub,uo+t,ak⟩=au (aF (ou g t)):=cb0;clear cb0;have t0:(0:Int)<=t:=by omega
 have t1:(t:Int)<g.up.length:=by omega
 have t2:(t:Int)<g.mem.length:=by omega
 obtain⟨⟨y0,y1⟩,⟨y2,y3,y4,y5⟩,y6,y7,y8,y9⟩:=Bx.r10 l9.out;go_wp2_with fail
 go_quiet (fail)
 have hb4:Below W3.heap.size W3 (W3.drewN nq):=fO (dw _ _);generalize W3.drewN nq=W4 at *;clear cu cb y0 y1 y2 y3 y4 y5 y6 y7 y8 y9;have Cb:aG (Gw w W4 B o { g with dS:=g.dS.take i++g.dS.drop (i+1) } fp bb off c):=HG.out.step hb4
 have HX4:aG (Bx W4 w.heap.size 68 #[ah aA (a:Int),ah aA (t:Int),ah aA r.ver,aj A.ta r.txt.length A.tc,aj A.ga r.got.length A.gc,aj A.sa r.dQ.length A.sc,aF r.wed,aF r.dV,ah aA r.dW,aj A.ma r.dU.length A.mc]):=l9.out.below hb4;have HR4:aG (qj W4 A r):=HR2.out.below hb4;clear hb4
 cases hup:ou g t with
 | false =>
  have HZ:aG (ku g i={ g with dS:=g.dS.take i++g.dS.drop (i+1) }):=by rw[aG,Oz.out,hup];rfl
  go_wp2;go_end0;exact⟨rfl,by rw[HZ.out];exact Cb.out.iw⟩
 | true =>
  have HZ:aG (ku g i={ mem:=g.mem.set t (fK (eF g t) (a:Int) r).1,up:=g.up,dS:=g.dS.take i++g.dS.drop (i+1) }):=by rw[aG,Oz.out,hup];rfl
  have c0:=Cb.out.mem;obtain⟨⟨y0,y1⟩,⟨y2,y3,y4,y5⟩,y6,y7,y8,y9⟩:=Bx.r10 HX4.out;have T:∀ {x v},W4.cell? x=au v->∀ q:Bk W4,q.w.cell? x=au v:=fun h q=>gy q.h h
  have p0:=T c0;have z0:=T y0;have z1:=T y1;have z2:=T y2;have z3:=T y3;have z4:=T y4;have z5:=T y5;have z6:=T y6;have z7:=T y7;have z8:=T y8;have z9:=T y9;clear c0 y0 y1 y2 y3 y4 y5 y6 y7 y8 y9 T hup;simp only at p0
  go_wp2_with fail
  refine gK (C:=fun w'=>∃ p:Bk W4,w'=p.w) 11 gq (by kernel_rfl) ⟨⟨W4.drewN 1,fO (dw _ _)⟩,rfl⟩ ?_
  simp only[List.take_succ_cons,List.take_zero]
  repeat (go_big_quiet_step ((first|rfl)))
  refine dh (iL fun wE eG=>?_)
  simp only[List.drop_succ_cons,List.drop_zero]
  clear p0 z0 z1 z2 z3 z4 z5 z6 z7 z8 z9;have G5:=Cb.out.step eG;obtain⟨f9,hpl,hbk⟩:=G5.mb (k:=t) OB;have hM:=EN bb (off+t*5) (eF g t) t n (a:Int) A r f9 wE hpl (iE.out.mem t htn) (HR4.out.below eG) ⟨by omega,by omega⟩
  have OC:=dP hbk;clear hpl hbk G5;unfold iK fQ at hM;go_wp2_with (go_at_call 123;refine hM.mono ?_;rintro e w5 ⟨rfl,hb5⟩;have tJ:aG (fH w w5 B o (fZ (ku g i)) fp):=(by rw[aG,HZ.out];exact (OC.out w5 _ hb5).iw);clear hM hb5)
  go_end0;exact⟨rfl,tJ.out⟩
def lN (L:List Nat):List Int:=L.map (fun (j:Nat)=>(j:Int))
theorem jl (L:List Nat):(lN L).length=L.length:=List.length_map _
theorem wQ (h:k<L.length):el (lN L) k=((L.getD k 0:Nat):Int):=by simp[lN,el,h,List.getD]
theorem tK (n:Nat) (dQ:List Int):(fA n dQ).length<=n:=by
 have:=List.length_filter_le (fun (j:Nat)=>decide ((j:Int)∉dQ)) (List.range n)
 simpa[fA] using this
theorem Ja (k:Nat) (dQ:List Int):fA (k+1) dQ=if (k:Int)∈dQ then fA k dQ else fA k dQ++[k]:=by
 unfold fA;rw[List.range_succ,List.filter_append];by_cases h:(k:Int)∈dQ<;>simp[h]
def EO (w w':aI) (e:Ending) (Z:List Int):Prop:=∃ a c,e=aK (aj a Z.length c)/\oN w w' (gJ Z) (aj a Z.length c)
theorem Lm (w0:aI) (B o:Nat) (m:Mb) (i n:Nat) (fp:Fp) (g off c:Nat) (w:aI) (M:Mw w0 w B o m fp g off c) (ok:iO m i n) :
  dF dA 118 #[aO (au ⟨B,o,ak⟩)] w fun e w'=>EO w w' e (lN (fA n (dO m.rows i).dQ)):=by
 have hil:i<m.rows.length:=by rw[ok.len];exact ok.lt
 have HM:=dP M;have hr:=ok.ok i ok.lt;have jq:=hr.n5;have i0:(0:Int)<=i:=by omega
 have i1:(i:Int)<m.rows.length:=by omega
 have hb0:=dX w (aH #[] 2);have HB0:=dP hb0;have jv:aG (dY.ow (w.alloc (aH #[] 2)) (gJ []) (aj (au ⟨w.heap.size,0,ak⟩) 0 0) (fun _=>False)):=je.2 ⟨_,0,ak,rfl,iQ.nil _ _ (kL _ _),fun b=>by simp⟩
 clear M hb0;go_enter Tryz.func118,Tryz.ntmps118
 go_wp2_with fail
 generalize w.alloc (aH #[] 2)=W0 at *
 go_loopw [3,4] (fun v k wr=>∃ (j:Nat) (a:Option dH) (cc:Nat) (Z:List Int) (fz:Fp),j<=n/\k=ah aA (j:Int)/\v=aj a Z.length cc/\aG (Z=lN (fA j (dO m.rows i).dQ))/\dY.ow wr (gJ Z) (aj a Z.length cc) fz/\(∀ b,fz b->w.heap.size<=b)/\Below w.heap.size w wr) (fun _ k _=>n-(dG k).toNat)
 case atStart=>exact⟨0,some ⟨w.heap.size,0,none⟩,0,[],_,cZ _,rfl,rfl,rfl,jv.out,fun b h=>h.elim,HB0.out⟩
 case round =>
  obtain⟨j,a,cc,Z,fz,hj,rfl,rfl,hZ,hO,hfz,hb⟩:=hrel;have M1:=HM.out.step hb;obtain⟨c0,c1,c4⟩:=M1.id';have c2:=M1.rws;rw[ok.hid] at c0;rw[ok.hn] at c1;by_cases hlt:j<n
  ·have k1:(j:Int)<n:=by omega
   obtain⟨Ak,⟨⟨d0,d1,d2,d3⟩,d4,d5,d6,d7⟩,hrs⟩:=M1.row ok.fit hil;have C2:∀ q:Bk wr,dF dA 113 #[aj Ak.sa (dO m.rows i).dQ.length Ak.sc,ah aA (j:Int)] q.w fun e w'=>e=aK (aF (decide ((j:Int)∈(dO m.rows i).dQ)))/\Below q.w.heap.size q.w w':=fun q=>(qL Ak.sa (dO m.rows i).dQ.length Ak.sc (j:Int) (dO m.rows i).dQ q.w (hrs.dQ.below q.h (cO _)) hrs.ms).mono (fun e w' h=>⟨h.1,by rw[h.2];exact dw _ _⟩)
   have T:∀ {x v},wr.cell? x=au v->∀ q:Bk wr,q.w.cell? x=au v:=fun h q=>gy q.h h
   have p0:=T c0;have p2:=T c2;have s3:=T d3;have HO:=dP hO;have HB:=dP hb;have zN:Z.length<=1000000:=by rw[hZ.out,jl];have:=tK j (dO m.rows i).dQ;omega
   have HN:aG (lN (fA (j+1) (dO m.rows i).dQ)=if (j:Int)∈(dO m.rows i).dQ then Z else Z++[(j:Int)]):=by
    rw[aG,hZ.out,Ja];by_cases hm:(j:Int)∈(dO m.rows i).dQ<;>simp[hm,lN]
   have wj:wrap64 ((j:Int)+1)=(j:Int)+1:=by unfold wrap64;omega
   clear d0 d1 d2 d3 d4 d5 d6 d7 c0 c2 c4 hrs M1 hO hb T;by_cases hm:(j:Int)∈(dO m.rows i).dQ
   ·rw[decide_eq_true hm] at C2
    rw[if_pos hm] at HN;clear hm;go_wp2_with fail
    refine jg ?_;repeat (go_big_quiet_step ((first|(go_at_call 113;exact eY _ (C2 _))|rfl)))
    refine dh (iL fun wE eG=>?_)
    have xg:=dP (dY.ig HO.out eG);have HB2:=dP (eU HB.out eG);clear C2 p0 p2 s3 eG c1;go_wp2;go_roundw
    case rel=>exact⟨j+1,a,cc,Z,fz,by omega,by go_num,rfl,HN.out.symm,xg.out,hfz,HB2.out⟩
    case measure=>simp[dG];omega
   ·rw[decide_eq_false hm] at C2
    rw[if_neg hm] at HN;clear hm;go_wp2_with fail
    refine jg ?_;repeat (go_big_quiet_step ((first|(go_at_call 113;exact eY _ (C2 _))|rfl)))
    refine dh (iL fun wE eG=>?_)
    have HB2:=dP (eU HB.out eG);obtain⟨a',c',ea,hA⟩:=nP (j:Int) (dY.ig HO.out eG) zN
    cases ea
    clear C2 p0 p2 s3 c1;go_wp2_with (at_builtin;refine fG (by rfl) _ _ _ _ (by rfl) _ _ (by rfl) (by rfl) hA ⟨rfl,rfl,rfl,rfl⟩ ?_;rintro v1 w1 ⟨a1,e1,f1,rfl,q1,q2,q3⟩;have tN:aG (dY.ow w1 (gJ (Z++[(j:Int)])) (aj a1 (Z.length+1) e1) f1):=q1;have zO:aG (∀ b,f1 b->fz b\/wE.heap.size<=b):=q2;have zQ:aG (eX fz wE w1):=q3;clear q1 q2 q3 hA)
    have hbs:=eG.size;have aH9:=HB.out.size;have HL:aG ((Z++[(j:Int)]).length=Z.length+1):=by rw[aG,bD];rfl
    go_roundw
    case rel=>exact⟨j+1,a1,e1,Z++[(j:Int)],f1,by omega,by go_num,by rw[HL.out],HN.out.symm,by rw[HL.out];exact tN.out,fun b hb=>(zO.out b hb).elim (hfz b) (fun h=>by omega),zQ.out.below HB2.out (by omega) (fun b hb=>hfz b hb)⟩
    case measure=>simp[dG];omega
  ·have k1:¬ ((j:Int)<n):=by omega
   have ej:j=n:=by omega
   have HZ:aG (Z=lN (fA n (dO m.rows i).dQ)):=by rw[aG,hZ.out,ej]
   have HO:aG (oN w wr (gJ Z) (aj a Z.length cc)):=⟨fz,hO,hfz,hb⟩;clear ej hO hb M1 c0 c2 c4;go_wp2;go_ret
   rw[<- HZ.out];exact⟨a,cc,rfl,HO.out⟩
structure EP (w:aI) (B o:Nat) (cs:List dY) (vs:List aJ) (fp:Fp):Prop where
 pc:Pc w B o vs
 own:gB w cs vs fp
 nB:¬ fp B
theorem EP.stay {w: aI} {o o': Nat} {cs: List dY} {vs: List aJ} (h:EP w B o' cs' vs f') (hb:fH w w1 B o cs f) (hd:∀ b,f' b->¬ f b) (ho:o'+vs.length<=o\/o+cs.length<=o'):EP w1 B o' cs' vs f':=by
 refine⟨⟨fun j hj=>?_,fun j hj=>?_,Nat.lt_of_lt_of_le h.pc.lt hb.wrt.size⟩,iy h.own hb.wrt (fun b hb' hk=>?_),h.nB⟩
 ·rw[hb.out (o'+j) (by omega)];exact h.pc.cell j hj
 ·rw[hb.frz];exact h.pc.free j hj
 ·rcases hk with hk|hk
  ·exact hd b hb' hk
  ·exact h.nB (hk ▸ hb')
theorem Dx (hk:k<n):k*s+s<=n*s:=by
 have:(k+1)*s<=n*s:=Nat.mul_le_mul_right s hk;rw[Nat.add_mul,Nat.one_mul] at this;exact this
theorem Wi {w: aI} (h:gB w ds us f) {p: Nat} (hp:p+s<=ds.length):∃ f',gB w ((ds.drop p).take s) ((us.drop p).take s) f'/\∀ b,f' b->f b:=by
 have hl:=jO h;have e1:ds=ds.take p++((ds.drop p).take s++ds.drop (p+s)):=by rw[<- List.drop_drop,List.take_append_drop,List.take_append_drop]
 rw[e1] at h;obtain⟨u1,u23,f1,f23,rfl,hl1,NH,_,hf1⟩:=mP h;obtain⟨u2,u3,f2,f3,rfl,hl2,hl3,_,hf2⟩:=mP NH;have n1:u1.length=p:=by rw[jO hl1,bM];omega
 have n2:u2.length=s:=by rw[jO hl2,bM,List.length_drop];omega
 refine⟨f2, ?_,fun b hb=>(hf1 b).2 (.inr ((hf2 b).2 (.inl hb)))⟩
 have e2:((u1++(u2++u3)).drop p).take s=u2:=by
  rw[<- n1,List.drop_left,<- n2,List.take_left]
 rw[e2];exact hl2
theorem aw0 {w: aI} {fp: Fp} (h:dY.ow w (.sl s n ds) (aj (au ⟨g,off,ak⟩) n c) fp) (hk:k<n) (hk':k'<n) (hne:k'≠k) (hs:0<s) (hlen:ds.length=n*s):∃ f f' vs',iP w g (off+k*s) ((ds.drop (k*s)).take s) f/\EP w g (off+k'*s) ((ds.drop (k'*s)).take s) vs' f'/\(∀ b,f' b->¬ f b)/\vs'.length=s /\
  (∀ b,f b->fp b)/\fp g/\∀ (w1:aI) (es:List dY),es.length=s->fH w w1 g (off+k*s) es f->∃ fp',dY.ow w1 (.sl s n (ds.take (k*s)++es++ds.drop (k*s+s))) (aj (au ⟨g,off,ak⟩) n c) fp'/\(∀ b,fp' b->fp b\/w.heap.size<=b)/\eX fp w w1:=by
 have h0:=h;obtain⟨a0,c0,us,G,f0,e0,ho,hl,hG,hf⟩:=h
 cases e0
 rcases ho with ⟨h0',_⟩|⟨g',off',e1,ho,rfl⟩
 ·omega
 cases e1
 have FX:=ho.len;have hks:=Dx (s:=s) hk;have aN4:=Dx (s:=s) hk';have hle:=ho.le;have hcs:=Nat.mul_le_mul_right s hle;have hgn:¬ f0 g:=fun hb=>hG g rfl hb
 have hblk:=ho.blk
 have e1:ds=ds.take (k*s)++((ds.drop (k*s)).take s++ds.drop (k*s+s)):=by
  rw[<- List.drop_drop,List.take_append_drop,List.take_append_drop]
 have hl':=hl;rw[e1] at hl';obtain⟨u1,u23,f1,f23,eus,hl1,NH,hd1,hf1⟩:=mP hl';obtain⟨u2,u3,f2,f3,e23,hl2,hl3,hd2,hf2⟩:=mP NH;subst e23;have n1:u1.length=k*s:=by rw[jO hl1,bM];omega
 have n2:u2.length=s:=by rw[jO hl2,bM,List.length_drop];omega
 have hfg:∀ b,f2 b->f0 b:=fun b hb=>(hf1 b).2 (.inr ((hf2 b).2 (.inl hb)))
 -- the other one lies in the first or in the third stretch
 have key:∃ f' vs',gB w ((ds.drop (k'*s)).take s) vs' f'/\(∀ b,f' b->¬ f2 b)/\(∀ b,f' b->f0 b)/\vs'.length=s/\∀ j,j<s->us[k'*s+j]?=vs'[j]?:=by
  rcases Nat.lt_or_gt_of_ne hne with hlt|hgt
  ·have hk2:=Dx (s:=s) hlt
   obtain⟨f',h1,h2⟩:=Wi hl1 (p:=k'*s) (s:=s) (by rw[bM];omega)
   have e2:(((ds.take (k*s)).drop (k'*s)).take s)=(ds.drop (k'*s)).take s:=by
    rw[List.drop_take,List.take_take,Nat.min_eq_left (by omega)]
   rw[e2] at h1;have hn:((u1.drop (k'*s)).take s).length=s:=by rw[bM,List.length_drop];omega
   refine⟨f',_,h1,fun b hb hb2=>hd1 b (h2 b hb) ((hf2 b).2 (.inl hb2)),fun b hb=>(hf1 b).2 (.inl (h2 b hb)),hn,fun j hj=>?_⟩
   rw[eus,aU (by omega),List.getElem?_take_of_lt hj,List.getElem?_drop]
  ·have hk2:=Dx (s:=s) hgt
   obtain⟨f',h1,h2⟩:=Wi hl3 (p:=k'*s-(k*s+s)) (s:=s) (by rw[List.length_drop];omega)
   have e2:(((ds.drop (k*s+s)).drop (k'*s-(k*s+s))).take s)=(ds.drop (k'*s)).take s:=by
    rw[List.drop_drop,show k*s+s+(k'*s-(k*s+s))=k'*s by omega]
   rw[e2] at h1;have n3:u3.length=n*s-(k*s+s):=by rw[jO hl3,List.length_drop];omega
   have hn:((u3.drop (k'*s-(k*s+s))).take s).length=s:=by rw[bM,List.length_drop];omega
   refine⟨f',_,h1,fun b hb hb2=>hd2 b hb2 (h2 b hb),fun b hb=>(hf1 b).2 (.inr ((hf2 b).2 (.inr (h2 b hb)))),hn,fun j hj=>?_⟩
   rw[eus,aT (by omega),aT (by omega),List.getElem?_take_of_lt hj,List.getElem?_drop]
   congr 1
   omega
 obtain⟨f',vs',q1,q2,q3,q4,q5⟩:=key;subst eus;refine⟨f2,f',vs',⟨u2,⟨fun j hj=>?_,fun j hj=>?_,hblk⟩,hl2,fun hb=>hgn (hfg g hb)⟩,⟨⟨fun j hj=>?_,fun j hj=>?_,hblk⟩,q1,fun hb=>hgn (q3 g hb)⟩,q2,q4,fun b hb=>(hf b).2 (.inr (hfg b hb)),(hf g).2 (.inl rfl),fun w1 es hes hb=>?_⟩
 ·have:=ho.cell (k*s+j) (by omega)
  rw[Nat.add_assoc,this,aT (by omega),aU (by omega),n1]
  congr 1
  omega
 ·have:=ho.free (k*s+j) (by omega)
  rw[Nat.add_assoc];exact this
 ·rw[Nat.add_assoc,ho.cell (k'*s+j) (by omega)]
  exact q5 j (by omega)
 ·rw[Nat.add_assoc]
  exact ho.free (k'*s+j) (by omega)
 ·obtain⟨⟨gU,⟨vs,hv1,hv2,hv3⟩,hx⟩,hout,hfr,hw⟩:=hb
  have nv:vs.length=s:=by rw[jO hv2,hes]
  have hlt1:=jd hl1;have hlt3:=jd hl3
  have k1 : gB w1 (ds.take (k * s)) u1 f1 := iy hl1 hw (fun b hb hk => by
   rcases hk with hk|hk
   ·exact hd1 b hb ((hf2 b).2 (.inl hk))
   ·exact hgn (hk ▸ (hf1 b).2 (.inl hb)))
  have k3 : gB w1 (ds.drop (k * s + s)) u3 f3 := iy hl3 hw (fun b hb hk => by
   rcases hk with hk|hk
   ·exact hd2 b hk hb
   ·exact hgn (hk ▸ (hf1 b).2 (.inr ((hf2 b).2 (.inr hb)))))
  have k12 := nN k1 hv2 (fun b hb hb2 => by
   rcases hx b hb2 with hk|hk
   ·exact hd1 b hb ((hf2 b).2 (.inl hk))
   ·have:=hlt1 b hb;omega)
  have YJ := nN k12 k3 (fun b hb hb2 => by
   rcases hb with hb|hb
   ·exact hd1 b hb ((hf2 b).2 (.inr hb2))
   ·rcases hx b hb with hk|hk
    ·exact hd2 b hk hb2
    ·have:=hlt3 b hb2;omega)
  have hin:∀ b,((f1 b\/gU b)\/f3 b)->f0 b\/w.heap.size<=b:=by
   rintro b ((hb|hb)|hb)
   ·exact .inl ((hf1 b).2 (.inl hb))
   ·exact (hx b hb).imp (hfg b) id
   ·exact .inl ((hf1 b).2 (.inr ((hf2 b).2 (.inr hb))))
  refine⟨fun b=>au g=au b\/((f1 b\/gU b)\/f3 b),⟨au ⟨g,off,ak⟩,c,u1++vs++u3,au g,_,rfl,.inr ⟨g,off,rfl,⟨?_,hle,ho.max,Nat.lt_of_lt_of_le hblk hw.size,fun i hi=>?_,fun i hi=>?_,fun i hi=>by rw[hfr];exact ho.free i hi⟩,rfl⟩,YJ,fun b hb hk=>?_,fun b=>Iff.rfl⟩,fun b hb=>?_,hw.mono (fun b _ hb=>?_)⟩
  ·simp only[bD] at FX ⊢;omega
  ·by_cases i1:i<k*s
   ·rw[hout (off+i) (by omega),ho.cell i hi,aU (by omega),List.append_assoc,aU (by omega)]
   ·by_cases i2:i<k*s+s
    ·have:=hv1.cell (i-k*s) (by omega)
     rw[show off+i=off+k*s+(i-k*s) by omega,this,List.append_assoc,aT (by omega),aU (by omega),n1]
    ·rw[hout (off+i) (by omega),ho.cell i hi,aT (by omega),aT (by omega),List.append_assoc,aT (by omega),aT (by omega),n1,n2,nv]
  ·by_cases i1:i<k*s\/k*s+s<=i
   ·rw[hout (off+i) (by omega)];exact ho.some i hi
   ·have:=hv1.cell (i-k*s) (by omega)
    rw[show off+i=off+k*s+(i-k*s) by omega,this,aV (by omega)]
    rfl
  ·cases hb
   rcases hin _ hk with hk|hk
   ·exact hgn hk
   ·omega
  ·rcases hb with hb|hb
   ·cases hb;exact .inl ((hf g).2 (.inl rfl))
   ·exact (hin b hb).imp (fun h=>(hf b).2 (.inr h)) id
  ·rcases hb with hb|hb
   ·exact (hf b).2 (.inr (hfg b hb))
   ·exact (hf b).2 (.inl (by rw[hb]))
theorem iP.elO {α: Type} {F: α->List dY} (hF:∀ x,(F x).length=s) (hs:0<s) {w: aI} {o: Nat} {cs: List dY} {fp: Fp} (h:iP w B o cs fp) {L: List α} (hj:cs[j]?=au (iH s F L)) {x x': α} (hk:L[k]?=au x) (hk':L[k']?=au x') (hne:k'≠k):∃ g off c f f' vs',w.cell? ⟨B,o+j,ak⟩=au (aj (au ⟨g,off,ak⟩) L.length c)/\g≠B/\(∀ b,f b->fp b)/\iP w g (off+k*s) (F x) f/\EP w g (off+k'*s) (F x') vs' f'/\(∀ b,f' b->¬ f b)/\vs'.length=s /\
  ∀ (w1:aI) (y:α),fH w w1 g (off+k*s) (F y) f->fH w w1 B o (cs.set j (iH s F (L.set k y))) fp:=by
 have lt:∀ {q:Nat} {z:α},L[q]?=au z->q<L.length:=fun {q z} hq=>by
  rcases Nat.lt_or_ge q L.length with h|h
  ·exact h
  ·rw[aZ h] at hq;cases hq
 obtain⟨u,fj,hu,hfz,hc,hsub,hnB,hput⟩:=h.at hj;obtain⟨a,c,us,G,f0,rfl,ho⟩:=hc;have hc:dY.ow w (iH s F L) (aj a L.length c) fj:=⟨a,c,us,G,f0,rfl,ho⟩;obtain⟨g,off,_,e,_⟩:=yx hF hs hc hk;subst e;obtain⟨f,f',vs',h1,h2,h3,h4,h5,h6,h7⟩:=aw0 (ds:=L.flatMap F) hc (lt hk) (lt hk') hne hs (xC hF L);rw[yw hF hk] at h1;rw[yw hF hk'] at h2;refine⟨g,off,c,f,f',vs',hu,fun e=>hnB (e ▸ h6),fun b hb=>hsub b (h5 b hb),h1,h2,h3,h4,fun w1 y hb=>?_⟩
 obtain⟨fp',k1,k2,k3⟩:=h7 w1 (F y) (hF y) hb;rw[GY hF y (lt hk)] at k1
 have k1':dY.ow w1 (iH s F (L.set k y)) (aj (au ⟨g,off,ak⟩) L.length c) fp':=by
  unfold iH;rw[bQ];exact k1
 exact (hput w1 (iH s F (L.set k y)) _ fp' k3 k1' k2).2.2.2 rfl
theorem RQ (h:(fQ A r).toList=(fQ A' r).toList):A=A':=by
 obtain⟨a1,a2,a3,a4,a5,a6,a7,a8⟩:=A;obtain⟨b1,b2,b3,b4,b5,b6,b7,b8⟩:=A';simp only[fQ,List.cons.injEq,Value.slice.injEq,and_true,true_and] at h;obtain⟨⟨h1,h2⟩,⟨h3,h4⟩,⟨h5,h6⟩,h7,h8⟩:=h;subst h1 h2 h3 h4 h5 h6 h7 h8
 rfl
def RV (X:aI) (g q:Nat) (A:Ra) (r:Rw):Prop:=C8 X g q (ah aA r.ver) (aj A.ta r.txt.length A.tc) (aj A.ga r.got.length A.gc) (aj A.sa r.dQ.length A.sc) (aF r.wed) (aF r.dV) (ah aA r.dW) (aj A.ma r.dU.length A.mc)/\qj X A r
theorem EP.rv {X: aI} {vs: List aJ} (h:EP X g q (jo r) vs f) (hv:vs=(fQ A r).toList) (hf:qo r):RV X g q A r:=by
 subst hv;obtain⟨A',e,hl⟩:=wP h.own;obtain rfl:=RQ e;have lV:(fQ A r).toList.length=8:=rfl;have c:=h.pc.cell;refine⟨⟨⟨c 0 (by rw[lV];omega),c 1 (by rw[lV];omega),c 2 (by rw[lV];omega),c 3 (by rw[lV];omega)⟩,c 4 (by rw[lV];omega),c 5 (by rw[lV];omega),c 6 (by rw[lV];omega),c 7 (by rw[lV];omega)⟩, ?_⟩
 have hv:=yj hl;obtain⟨_,_,e1,v1,hv⟩:=hv
 cases e1
 obtain⟨_,_,e2,v2,hv⟩:=hv
 cases e2
 obtain⟨_,_,e3,v3,hv⟩:=hv
 cases e3
 obtain⟨_,_,e4,v4,hv⟩:=hv
 cases e4
 obtain⟨_,_,e,t1,t2,t3⟩:=Vt v1
 cases e
 obtain⟨_,_,e,g1,g2,g3⟩:=l7 v2 hf.1
 cases e
 obtain⟨_,_,e,s1,s2,s3⟩:=l7 v3 hf.2.1
 cases e
 obtain⟨_,_,e,m1,m2,m3⟩:=l7 v4 hf.2.2
 cases e
 exact⟨t1,g1,s1,m1,by omega,by omega,by omega,by omega⟩
theorem EP.vals {X: aI} {vs: List aJ} (h:EP X g q (jo r) vs f) (hr:RV X g q A r):vs=(fQ A r).toList:=by
 have hl:vs.length=8:=jO h.own;obtain⟨⟨⟨c0,c1,c2,c3⟩,c4,c5,c6,c7⟩,_⟩:=hr;have c:=h.pc.cell
 apply List.ext_getElem?
 intro j;rcases Nat.lt_or_ge j 8 with hj|hj
 ·have hcj:=c j (by omega)
  match j,hj,hcj with
  | 0,_,hc=>exact hc.symm.trans c0
  | 1,_,hc=>exact hc.symm.trans c1
  | 2,_,hc=>exact hc.symm.trans c2
  | 3,_,hc=>exact hc.symm.trans c3
  | 4,_,hc=>exact hc.symm.trans c4
  | 5,_,hc=>exact hc.symm.trans c5
  | 6,_,hc=>exact hc.symm.trans c6
  | 7,_,hc=>exact hc.symm.trans c7
 ·rw[aZ (by omega),aZ (by simpa[fQ] using hj)]
theorem Mw.atO {w X: aI} {o: Nat} {m: Mb} {fp: Fp} (h:Mw w X B o m fp g off c) (hk:k<m.rows.length) (hk':k'<m.rows.length) (hne:k'≠k) (hf':qo (dO m.rows k')) (Lp:RV X g (off+k'*8) A' (dO m.rows k')) (hj:(jo (dO m.rows k))[j]?=au cl):∃ u f,X.cell? ⟨g,off+k*8+j,ak⟩=au u/\X.frozen? ⟨g,off+k*8+j,ak⟩=aC/\dY.ow X cl u f/\(∀ b,f b->b<X.heap.size) /\
  ∀ (X1:aI) (c':dY) (u':aJ) (f':Fp) (r':Rw),(jo (dO m.rows k)).set j c'=jo r'->eX f X X1->dY.ow X1 c' u' f'->(∀ b,f' b->f b\/X.heap.size<=b)->X1.cell? ⟨g,off+k*8+j,ak⟩=au u/\X1.frozen? ⟨g,off+k*8+j,ak⟩=aC/\Mw w (X1.setCell ⟨g,off+k*8+j,ak⟩ u') B o { m with rows:=m.rows.set k r' } fp g off c/\RV (X1.setCell ⟨g,off+k*8+j,ak⟩ u') g (off+k'*8) A' (dO m.rows k'):=by
 obtain⟨gU,hp,hf1,hgo⟩:=h.iw.next;obtain⟨g',off',c',f,f2,vs2,h1,hgB,hfs,hpl,hpv,hdis,hvl,hput⟩:=hp.elO (F:=jo) jU (by omega) (j:=2) (L:=m.rows) rfl (iV hk) (iV hk') hne
 have e:=bT (h1.symm.trans h.rws)
 cases e
 obtain⟨u,fj,hu,hfz,hc,hsub,hnB,hset⟩:=hpl.at hj;have IW:=hp.lt;refine⟨u,fj,hu,hfz,hc,dY.kW hc,fun X1 c' u' f' r' er hw hc' aI0=>?_⟩
 obtain⟨k1,k2,k3,k4⟩:=hset X1 c' u' f' hw hc' aI0;rw[er] at k3;have VP:¬ fj B:=fun hb=>hp.nB (hfs B (hsub B hb))
 have hr1:X1.cell? ⟨B,o+2,ak⟩=au (aj (au ⟨g,off,ak⟩) m.rows.length c):=(bf (hw.block B IW VP)).trans h.rws;refine⟨k1,k2,⟨hgo _ (jY { m with rows:=m.rows.set k r' }) rfl (hput _ r' k3), ?_⟩, ?_⟩
 ·rw[World.cell?_setCell_other _ _ _ _ (by simp only[ne_eq,Addr.mk.injEq,not_and];intro e;exact absurd e hgB),hr1]
  simp
 ·have hm1:k'*8+8<=k*8\/k*8+8<=k'*8:=by omega
  exact (hpv.stay k3 hdis (by rw[hvl,jU];omega)).rv (hpv.vals Lp) hf'
theorem F9 {s r: List Int} (hj:j<r.length):kF id s (r.take (j+1))=if el r j=(id:Int) then kF id s (r.take j) else gV (kF id s (r.take j)) (el r j):=by
 have e:el r j=r[j]:=by simp[el,hj]
 unfold kF;rw[aQ hj,List.foldl_append,e]
 rfl
theorem Jb {R: List Rw} {o: Rw} (hk:k<L.length):learn R id o (L.take (k+1))=lM id (learn R id o (L.take k)) (L.getD k 0) (dO R (L.getD k 0)):=by
 have e:L.getD k 0=L[k]:=by simp[List.getD,hk]
 unfold learn;rw[aQ hk,List.foldl_append,e]
 rfl
theorem Dy {id:Nat}:∀ {r s:List Int},s.Pairwise (·<·)->(kF id s r).Pairwise (·<·)
 | [],s,h=>h
 | x::r,s,h=>by
  have ih:=Dy (id:=id) (r:=r) (s:=if x=(id:Int) then s else gV s x)
  unfold kF at ih ⊢;rw[List.foldl_cons]
  apply ih
  split
  ·exact h
  ·exact wG h
theorem Jc {o: Rw} (ok:iR o n) (IB:iR r n) (j:Nat):iR { o with wed:=aB,dQ:=kF i o.dQ (r.dQ.take j) } n :=
 ⟨ok.n5,ok.ver,ok.tl,ok.ts,ok.got,ok.gl,ok.g12,fun x hx => by
  rcases wJ.1 hx with h|⟨h,_⟩
  ·exact ok.dQ x h
  ·exact IB.dQ x (List.mem_of_mem_take h),kZ.2 (Dy (kZ.1 ok.oL)),fun h=>⟨rfl,(ok.dV h).2⟩,ok.not⟩
theorem ER {R:List Rw} {n i:Nat} (hR:∀ k,k<n->iR (dO R k) n):∀ {L:List Nat} {o:Rw},iR o n->(∀ k∈L,k<n)->iR (learn R i o L) n
 | [],o,h,_=>h
 | k::L,o,h,hL=>by
  refine ER hR (L:=L) (o:=lM i o k (dO R k)) ?_ (fun x hx=>hL x (bC _ hx))
  unfold lM
  split
  ·exact h
  ·have:=Jc (i:=i) h (hR k (hL k bF)) (dO R k).dQ.length
   rw[List.take_length] at this;exact this
theorem OD {m: Mb} (ok:iO m i n) (hr:iR r n):nG { m with rows:=m.rows.set k r }:=by
 refine⟨fun x hx=>?_,ok.fit.2⟩
 rcases List.mem_or_eq_of_mem_set hx with h|h
 ·exact ok.fit.1 x h
 ·rw[h];exact hr.fit
theorem Mw.sub {w X X5: aI} {o: Nat} {m: Mb} {fp: Fp} (h:Mw w X B o m fp g off c) (hb:Below X.heap.size X X5):∃ jw,(∀ b,jw b->b<X.heap.size)/\B<X.heap.size/\(∀ b,jw b->fp b\/w.heap.size<=b)/\Mw X5 X5 B o m jw g off c/\∀ (Y:aI) (m':Mb),Mw X5 Y B o m' jw g off c->Mw w Y B o m' fp g off c:=by
 obtain⟨gU,hp,hf1,hgo⟩:=h.iw.next;have hlt:=hp.flt;have hB:=hp.lt;refine⟨gU,hlt,hB,hf1,⟨fH.refl (hp.below hb),gy hb h.rws⟩,fun Y m' hY=>⟨hgo Y _ rfl (hY.iw.first hb hB hlt),hY.rws⟩⟩
theorem Mw.bx {w X: aI} {o: Nat} {m: Mb} {fp: Fp} (h:Mw w X B o m fp g off c) {b: Nat} {T: TypeId} {cs: Array aJ} (hx:Bx w b T cs) (h1:¬ fp b) (h2:b≠B):Bx X b T cs:=hx.wrt h.iw.wrt (fun k=>k.elim h1 h2)
theorem Mw.RU {w X: aI} {o: Nat} {m: Mb} {fp: Fp} (h:Mw w X B o m fp g off c) {u: aJ} (hx:dY.ow w cl u f) (h1:∀ b,f b->¬ fp b/\b≠B):dY.ow X cl u f:=dY.lJ hx h.iw.wrt (fun b hb k=>k.elim (h1 b hb).1 (h1 b hb).2)
structure Mk (w X:aI) (B o:Nat) (m:Mb) (fp:Fp):Prop where
 iw:fH w X B o (jY m) fp
 rws:X.cell? ⟨B,o+2,ak⟩=w.cell? ⟨B,o+2,ak⟩
theorem Mw.mk' {w X: aI} {o: Nat} {m: Mb} {fp: Fp} (h:Mw w X B o m fp g off c) (hc:w.cell? ⟨B,o+2,ak⟩=au (aj (au ⟨g,off,ak⟩) n c)) (hl:m.rows.length=n):Mk w X B o m fp:=⟨h.iw,by rw[h.rws,hc,hl]⟩
theorem mO {m: Mb} (r:Rw):({ m with rows:=m.rows.set i r }:Mb).rows.length=m.rows.length:=by simp
end Go.Proofs.YtafimeakbdmkjaaGreat