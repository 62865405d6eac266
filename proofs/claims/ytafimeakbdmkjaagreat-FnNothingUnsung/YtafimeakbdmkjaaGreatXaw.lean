/-
  Texts in one.
-/
import Derived.Test.YtafimeakbdmkjaaGreatXaa
import Derived.Test.YtafimeakbdmkjaaGreatXav
import Derived.Test.YtafimeakbdmkjaaGreatXam
import Derived.Test.YtafimeakbdmkjaaGreatXal
import Derived.Test.YtafimeakbdmkjaaGreatXao
import Derived.Test.YtafimeakbdmkjaaGreatXae
import Derived.Test.YtafimeakbdmkjaaGreatXab
import Derived.RangeFuncNested
import Derived.RangeFuncBound
import Derived.RangeFuncCalls
import Derived.RangeFuncLeaves
import Derived.RangeFuncBox
import Derived.Maps.AppendAt
import Derived.Shelf.Abstract
import Derived.Shelf.RegionOpen
import Derived.WalkKit
import Derived.OwnWalkIn
import Derived.TacticsInMore
import Derived.LoopNIn
import Derived.LoopIn
import Derived.BigQuiet
import Derived.Deep.RegionHeld3
namespace Go.Proofs.YtafimeakbdmkjaaGreat
open Bool renaming and_eq_true->bI,false->aC,true->aB
open Go renaming Addr->dH,Calls->dF,Value->aJ,World->aI,bodyPost_ret->bY,maxLen->dD,wpQuiet_nil->dh
open Go.Ending renaming returned->aK
open Go.IntKind renaming i64->aA
open Go.Obj renaming cells->aH
open Go.Proofs.Tryz renaming prog->dA,underlying41->bG
open Go.RowKit renaming Hid->aG,intOf->dG
open Go.RowKit.Below renaming refl->dw
open Go.Value renaming bool->aF,int->ah,int->dB,pointer->aO,slice->aj
open Go.World renaming block_lt_of_cell?->aX,cell?_of_block->bf,size_alloc->bH
open List renaming all_eq_true->bJ,getD_eq_getElem?_getD->aS,getElem?_append_left->aU,length_append->bD,length_cons->bP,length_take->bM,mem_cons_of_mem->bC,mem_cons_self->bF,mem_iff_getElem->bg,take_of_length_le->aY,take_succ_eq_append_getElem->aQ
open Nat renaming le_refl->cO,le_trans->bZ,zero_le->cZ
open Option renaming none->ak,some->au
open Option.some renaming inj->bT
set_option linter.unusedVariables false
set_option linter.unusedSimpArgs false
open Go.RowKit Go.Sort
set_option maxRecDepth 100000
set_option maxHeartbeats 12800000
variable {Bn c g i j k n n₀:Nat} {Z cs r x:List Int} {A B w:aI} {L:List Nat} {m:Mb} {vs:List aJ}
theorem ar1 (w0:aI) (B:Nat) (m:Mb) (i n f:Nat) (fp:Fp) (g off c:Nat) (X:aI) (M:Iw w0 X B m fp g off c) (ok:OkW m i n) (hf:f<n) :
  dF dA 170 #[aO (au ⟨B,0,ak⟩),ah aA (f:Int)] X fun e w'=>e=aK (.tuple #[])/\Iw w0 w' B { m with rows:=m.rows.set i (adopt m.rows i (dO m.rows i) f) } fp g off c:=by
 have jq:=ok.n5;have hil:i<m.rows.length:=by rw[ok.len];exact ok.lt
 have hfl:f<m.rows.length:=by rw[ok.len];exact hf
 have hml:m.rows.length<=5:=by rw[ok.len];exact jq.2
 obtain⟨AJ,⟨⟨d0,d1,d2,d3⟩,d4,d5,d6,d7⟩,hrs⟩:=M.row ok.fit hfl;have nK:=M.rws;have hokr:=ok.ok f hf;have Ce:aG ((dO m.rows f).dQ.length<=dD):=by have:=hokr.sl;have:=hokr.n5;unfold dD;rw[aG];omega
 have sN:aG ((dO m.rows f).dU.length<=100):=by have:=hokr.ml;have:=hokr.n5;rw[aG];omega
 have HT:aG ((dO m.rows f).dV=aB/\(dO m.rows f).dW=(f:Int)/\(i:Int)∉(dO m.rows f).dQ/\(!(dO m.rows i).dV||decide ((dO m.rows i).dW<(f:Int)))=true->adopt m.rows i (dO m.rows i) f={ dO m.rows i with dV:=true,dW:=(f:Int),dU:=(dO m.rows f).dU }):=fun h=>by
  rw[adopt,if_pos];refine⟨h.1,h.2.1,h.2.2.1,fun hh=>?_⟩
  have h4:=h.2.2.2;rw[hh.1] at h4;simp at h4
  omega
 have HF:aG (¬ ((dO m.rows f).dV=aB/\(dO m.rows f).dW=(f:Int)/\(i:Int)∉(dO m.rows f).dQ/\(!(dO m.rows i).dV||decide ((dO m.rows i).dW<(f:Int)))=true)->({ m with rows:=m.rows.set i (adopt m.rows i (dO m.rows i) f) }:Mb)=m):=fun h=>by
  rw[adopt,if_neg,oP (iV hil)];rintro⟨h1,h2,h3,h4⟩;refine h ⟨h1,h2,h3, ?_⟩
  cases hr:(dO m.rows i).dV with
  | false=>rfl
  | true =>
   simp
   by_cases h5:(dO m.rows i).dW<(f:Int)
   ·exact h5
   ·exact absurd ⟨hr,by omega⟩ h4
 have HM:=dP M;have iE:=dP ok;have f0:(0:Int)<=f:=by omega
 have f1:(f:Int)<m.rows.length:=by omega
 clear hokr M ok;generalize dO m.rows f=r at *;have hba:=dX X (aH #[ah aA r.ver,aj AJ.ta r.txt.length AJ.tc,aj AJ.ga r.got.length AJ.gc,aj AJ.sa r.dQ.length AJ.sc,aF r.wed,aF r.dV,ah aA r.dW,aj AJ.ma r.dU.length AJ.mc] 44);have hxr:=Bx.new X 44 #[ah aA r.ver,aj AJ.ta r.txt.length AJ.tc,aj AJ.ga r.got.length AJ.gc,aj AJ.sa r.dQ.length AJ.sc,aF r.wed,aF r.dV,ah aA r.dW,aj AJ.ma r.dU.length AJ.mc];have qK:=dP hxr;have XU:=dP (hrs.dQ.below hba (cO _));have HTv:=dP (hrs.dU.below hba (cO _));have Ec:=dP (HM.out.step hba);clear hrs hba hxr;go_enter Tryz.func170,Tryz.ntmps170
 go_upto_region 2 with fail
 generalize X.alloc (aH #[ah aA r.ver,aj AJ.ta r.txt.length AJ.tc,aj AJ.ga r.got.length AJ.gc,aj AJ.sa r.dQ.length AJ.sc,aF r.wed,aF r.dV,ah aA r.dW,aj AJ.ma r.dU.length AJ.mc] 44)=W5 at *;clear d0 d1 d2 d3 d4 d5 d6 d7 nK;have T:∀ {x v},W5.cell? x=au v->∀ q:Bk W5,q.w.cell? x=au v:=fun h q=>gy q.h h
 have p5:=T (qK.out.at 5 (v:=aF r.dV) rfl);have p6:=T (qK.out.at 6 (v:=ah aA r.dW) rfl);have p7:=T (qK.out.at 7 (v:=aj AJ.ma r.dU.length AJ.mc) rfl);have p3:=T (qK.out.at 3 (v:=aj AJ.sa r.dQ.length AJ.sc) rfl);obtain⟨c0,_⟩:=Ec.out.id';rw[iE.out.hid] at c0;have p0:=T c0;have CC:=fun q:Bk W5=>(tZ AJ.sa AJ.sc r.dQ (i:Int) q.w (XU.out.below q.h (cO _)) Ce.out).mono (fun e w' h=>(⟨h.1,h.2 ▸ dw _ _⟩:e=aK (aF (decide ((i:Int)∈r.dQ)))/\Below q.w.heap.size q.w w'))
 have CH:=fun q:Bk W5=>Tv w0 B m i n (f:Int) fp g off c q.w (Ec.out.step q.h) iE.out
 clear c0 T;go_wp2_with fail
 cases hrd:r.dV with
 | false =>
  rw[hrd] at p5;have HN:aG (({ m with rows:=m.rows.set i (adopt m.rows i (dO m.rows i) f) }:Mb)=m):=HF.out (fun h=>by rw[hrd] at h;exact absurd h.1 (by decide))
  clear HT HF hrd;refine jg ?_;repeat (go_big_quiet_step ((first|rfl)))
  refine dh (iL fun wE eG=>?_)
  have HE:aG (Iw w0 wE B { m with rows:=m.rows.set i (adopt m.rows i (dO m.rows i) f) } fp g off c):=by rw[aG,HN.out];exact Ec.out.step eG
  clear eG p5 p6 p7 p3 p0 CC CH HN;go_wp2
  first|go_end0|go_ret
  exact⟨rfl,HE.out⟩
 | true =>
  rw[hrd] at p5;by_cases hby:r.dW=(f:Int);rotate_left
  ·have e1:(r.dW==(f:Int))=aC:=by simp[hby]
   have HN:aG (({ m with rows:=m.rows.set i (adopt m.rows i (dO m.rows i) f) }:Mb)=m):=HF.out (fun h=>hby h.2.1)
   clear HT HF hrd hby;refine jg ?_;repeat (go_big_quiet_step ((first|rfl)))
   refine dh (iL fun wE eG=>?_)
   have HE:aG (Iw w0 wE B { m with rows:=m.rows.set i (adopt m.rows i (dO m.rows i) f) } fp g off c):=by rw[aG,HN.out];exact Ec.out.step eG
   clear eG p5 p6 p7 p3 p0 CC CH HN;go_wp2
   first|go_end0|go_ret
   exact⟨rfl,HE.out⟩
  have e1:(r.dW==(f:Int))=aB:=by simp[hby]
  by_cases hin:(i:Int)∈r.dQ
  ·rw[decide_eq_true hin] at CC
   have HN:aG (({ m with rows:=m.rows.set i (adopt m.rows i (dO m.rows i) f) }:Mb)=m):=HF.out (fun h=>h.2.2.1 hin)
   clear HT HF hrd hby hin;refine jg ?_;repeat (go_big_quiet_step ((first|(go_at_call 88;exact eY _ (CC _))|rfl)))
   refine dh (iL fun wE eG=>?_)
   have HE:aG (Iw w0 wE B { m with rows:=m.rows.set i (adopt m.rows i (dO m.rows i) f) } fp g off c):=by rw[aG,HN.out];exact Ec.out.step eG
   clear eG p5 p6 p7 p3 p0 CC CH HN;go_wp2
   first|go_end0|go_ret
   exact⟨rfl,HE.out⟩
  rw[decide_eq_false hin] at CC
  cases MF:(!(dO m.rows i).dV||decide ((dO m.rows i).dW<(f:Int))) with
  | false =>
   rw[MF] at CH;have HN:aG (({ m with rows:=m.rows.set i (adopt m.rows i (dO m.rows i) f) }:Mb)=m):=HF.out (fun h=>by have:=h.2.2.2;rw[MF] at this;cases this)
   clear HT HF hrd hby hin MF;refine jg ?_;repeat (go_big_quiet_step ((first|(go_at_call 88;exact eY _ (CC _))|(go_at_call 184;exact eY _ (CH _))|rfl)))
   refine dh (iL fun wE eG=>?_)
   have HE:aG (Iw w0 wE B { m with rows:=m.rows.set i (adopt m.rows i (dO m.rows i) f) } fp g off c):=by rw[aG,HN.out];exact Ec.out.step eG
   clear eG p5 p6 p7 p3 p0 CC CH HN;go_wp2
   first|go_end0|go_ret
   exact⟨rfl,HE.out⟩
  | true =>
   rw[MF] at CH;have HN:aG (adopt m.rows i (dO m.rows i) f={ dO m.rows i with dV:=aB,dW:=(f:Int),dU:=r.dU }):=HT.out ⟨hrd,hby,hin,MF⟩
   clear HT HF hrd hby hin MF;refine jg ?_;repeat (go_big_quiet_step ((first|(go_at_call 88;exact eY _ (CC _))|(go_at_call 184;exact eY _ (CH _))|rfl)))
   refine dh (iL fun wE eG=>?_)
   have t7:=p7 ⟨wE,eG⟩;simp only at t7
   have hE:=Tz w0 B m i n (f:Int) r.dU AJ.ma AJ.mc fp g off c wE (Ec.out.step eG) iE.out (HTv.out.below eG (cO _)) sN.out;rw[<- HN.out] at hE;clear eG p5 p6 p7 p3 p0 CC CH HN;go_wp2_with (go_at_call 185;refine hE.mono ?_;rintro e w9 ⟨rfl,vY⟩;have jL:aG _:=vY;clear vY)
   first|go_end0|go_ret
   exact⟨rfl,jL⟩
section
open Go.RowKit Go.Sort Go.Shelf
attribute [local go_sem] Oper.semAt_some
theorem QU (cs:List Int) (k:Nat) (h:i<=j):kJ cs k i <+: kJ cs k j:=by
  induction j with
  | zero => obtain rfl : i = 0 := by omega
            exact List.prefix_refl _
  | succ j ih =>
    rcases Nat.lt_or_ge j i with h1|h1
    · obtain rfl:i=j+1:=by omega
      exact List.prefix_refl _
    · rw[yC]
      exact (ih h1).trans (List.prefix_append _ _)
theorem QV (cs:List Int) (h:i<=j):gZ cs i <+: gZ cs j:=by
  induction j with
  | zero => obtain rfl : i = 0 := by omega
            exact List.prefix_refl _
  | succ j ih =>
    rcases Nat.lt_or_ge j i with h1|h1
    · obtain rfl:i=j+1:=by omega
      exact List.prefix_refl _
    · rw[qM]
      exact (ih h1).trans (List.prefix_append _ _)
theorem QW {M: Nat} (hk:k<M) (hj:j<=cs.length):gZ cs k++kJ cs k j <+: gZ cs M:=by
 refine List.IsPrefix.trans ?_ (QV cs (Nat.succ_le_of_lt hk));rw[qM];exact (List.prefix_append_right_inj _).2 (QU cs k hj)
def uX (n₀ Bn:Nat) (W W':aI):Prop:=Below n₀ W W'/\W'.heap[Bn]?=W.heap[Bn]?
theorem uX.trans {C: aI} (h:uX n₀ Bn A B) (k:uX n₀ Bn B C):uX n₀ Bn A C:=⟨h.1.trans k.1,k.2.trans h.2⟩
theorem uX.refl (n₀ Bn:Nat) (W:aI):uX n₀ Bn W W:=⟨dw _ _,rfl⟩
theorem uX.drewN (h:uX n₀ Bn A B) (n:Nat):uX n₀ Bn A (B.drewN n):=⟨fO h.1,h.2⟩
theorem uX.box (h:uX n₀ Bn A B) {v: aJ} (hv:A.cell? ⟨Bn,0,ak⟩=au v):B.cell? ⟨Bn,0,ak⟩=au v:=(bf (w:=A) h.2).trans hv
theorem uX.put (hn:n₀<=w.heap.size) (hB:Bn<w.heap.size) (W:aI) (l:Nat) (o o':Obj) (hl:w.heap.size<=l) (h:W.heap[l]?=au o) (h1:o.isCells=aC) (h2:o.isWalk=aC):uX n₀ Bn W (W.putObj l o') :=
 ⟨belowK_b hn W l o o' hl h h1 h2,World.putObj_heap_other (by omega)⟩
theorem Qi {β: Type} {B: Nat} {J: β->aI->Prop} (h:AbidesFrom B J) {s: β} {W: aI} (hs:J s W) (n:Nat):J s (W.drewN n) :=
 h s W _ ak hs ⟨rfl,rfl,rfl,cO _,fun _ _ _=>rfl⟩ (fun r e=>by cases e)
theorem ae1 (n:Nat) (hn:1<=n) (l Bn n₀ b off len cap:Nat) (cs:List Int) (hok:rZ cs=aB) (hlen:cs.length=len) (hf:Fits cs) (hcap:len<=cap) (hm:cap<=dD) (hb:b<n₀) (J Jx:List Int->aI->Prop)
  (hY : ∀ pre x W,J pre W -> pre.length < (gZ cs (gr cs).toNat).length -> YieldAt Fence.wide (n - 1) dA l #[ah aA x] W fun e W' =>
   (e=aK (aF aB)/\J (pre++[x]) W'/\uX n₀ Bn W W')\/(e=aK (aF aC)/\Jx (pre++[x]) W'))
  (W:aI) (SN:AbidesFrom W.heap.size J) (hBn:W.cell? ⟨Bn,0,ak⟩=au (aj (au ⟨b,off,ak⟩) len cap)) (hc:∀ i,i<len->W.cell? ⟨b,off+i,ak⟩=au (ah aA (el cs i))) (h0:J [] W) :
  CallsIn Fence.wide n dA 135 #[.func (.yield l) #[] #[],aO (au ⟨Bn,0,ak⟩)] W fun e W'=>(∃ v,e=aK v) /\
   ((∃ ys,ys=gZ cs (gr cs).toNat/\J ys W')\/(∃ pre,pre <+: gZ cs (gr cs).toNat/\Jx pre W')):=by
 obtain⟨hokB,hall⟩:=xK hok;have h18:=mM hokB;have h1:1<=len:=by omega
 have h8:len<=8:=by omega
 have hG:aG (∀ w,(∀ i,i<len->w.cell? ⟨b,off+i,ak⟩=au (ah aA (el cs i)))->dF dA 131 #[aj (au ⟨b,off,ak⟩) len cap] w fun e w'=>e=aK (ah aA (gr cs))/\∃ m,w'=w.drewN m) :=
  fun w hcw=>rJ b off len cap cs w hlen hf hcw (by omega) hcap hm
 have g0:0<=gr cs:=Int.le_trans (hall 0 (by omega)).1 (aj2 (by omega))
 have g1:gr cs<=100000:=(Np (by omega)).2 (fun i hi=>(hall i hi).2)
 obtain⟨M,hM⟩:∃ M:Nat,gr cs=(M:Int):=⟨(gr cs).toNat,by omega⟩
 have hS:aG (∀ (k j:Nat) (w:aI),k<M->j<len->dF dA 136 #[ah aA len,ah aA j,ah aA k] w fun e w'=>e=aK (ah aA ((len:Int)*(k:Int)+(j:Int)))/\w'=w):=by
  intro k j w hk hj;have:=ad7 (len:Int) (j:Int) (k:Int) ⟨by omega,by omega⟩ w
  rwa [show zG (len:Int) (j:Int) (k:Int)=(len:Int)*(k:Int)+(j:Int) by rw[zG,if_pos (YK.2 ⟨⟨by omega,by omega⟩,⟨by omega,by omega⟩,by omega,by omega⟩)]] at this
 have eM:(gr cs).toNat=M:=by omega
 rw[eM] at hY ⊢;have HG:=dP hM;have HL:=dP hlen;have HA:aG (∀ i,i<len->0<=el cs i/\el cs i<=100000):=fun i hi=>hall i (by omega)
 have hm1:(M:Int)<=100000:=by omega
 clear eM hlen hall g0 g1 h18 hokB hok;have hG0:=hG.out W hc;rw[HG.out] at hG0;clear hM hG HG;refine callsIn_of_wp Tryz.func135 rfl trivial ?_ rfl;simp only[Tryz.ntmps135,List.size_toArray,bP,List.length_nil,Nat.reduceAdd,Nat.reduceSub,Array.replicate_succ,Array.replicate_zero,List.push_toArray,List.append_toArray,List.nil_append,List.cons_append]
 gi_wp2_with (refine⟨trivial, ?_⟩;gi_at_call 131;refine (callsIn_wide.2 hG0).mono ?_;rintro e w' ⟨rfl,m,rfl⟩)
 have hK0:uX n₀ Bn W (W.drewN m):=(uX.refl _ _ _).drewN m;have hJ0:J (gZ cs 0) (W.drewN m):=Qi SN h0 m;generalize W.drewN m=W1 at *
 gi_loopw [11] (fun i wr=>∃ k:Nat,k<=M/\i=ah aA k/\J (gZ cs k) wr/\uX n₀ Bn W wr)
  (fun i _=>M-(dG i).toNat)
 case atStart=>exact⟨0,cZ _,rfl,hJ0,hK0⟩
 case round =>
  obtain⟨k,hk,rfl,hJs,hnx⟩:=hrel;have hbx:=hnx.box hBn;by_cases hlt:k<M
  ·gi_wp2
   gi_loopw [16] (fun i wr2=>∃ j:Nat,j<=len/\i=ah aA j/\J (gZ cs k++kJ cs k j) wr2/\uX n₀ Bn W wr2)
    (fun i _=>len-(dG i).toNat)
   case atStart=>exact⟨0,cZ _,rfl,by simpa[kJ] using hJs,hnx⟩
   case round =>
    obtain⟨j,hj,rfl,hJ2,hn2⟩:=hrel;by_cases hjl:j<len
    ·have hcx:=(hn2.1.cell (p:=⟨b,off+j,ak⟩) hb).trans (hc j hjl)
     have hbd:=HA.out j hjl;by_cases hx:(k:Int)<el cs j
     ·have HW:aG (kJ cs k (j+1)=kJ cs k j++[(len:Int)*(k:Int)+(j:Int)]):=by rw[aG,yC,if_pos hx,HL.out]
      have HP:aG (gZ cs k++kJ cs k (j+1) <+: gZ cs M):=QW hlt (by rw[HL.out];omega)
      have hS1:=fun w=>hS.out k j w hlt hjl
      obtain ⟨fn,tmps,assign,body,hy,hR⟩ := hY _ ((len : Int) * (k : Int) + (j : Int)) wr hJ2 (by
       have:=HP.out.length_le;rw[HW.out] at this;simp only[bD,bP,List.length_nil] at this ⊢
       omega)
      generalize (len:Int)*(k:Int)+(j:Int)=x at *
      gi_wp2_with (refine⟨trivial, ?_⟩;gi_at_call 136;refine (callsIn_wide.2 (hS1 _)).mono ?_;rintro e w' ⟨rfl,rfl⟩)
      refine hR.mono ?_;rintro e W3 (⟨rfl,hJ3,hk3⟩|⟨rfl,hJx3⟩)
      ·gi_wp2
       go_roundw
       case rel=>exact⟨j+1,by omega,by go_num,by rw[HW.out,<- List.append_assoc];exact hJ3,hn2.trans hk3⟩
       case measure=>simp[dG];omega
      ·gi_wp2
       refine bY (results_none rfl _ _ _) rfl ?_;exact⟨⟨_,rfl⟩,.inr ⟨_,by have:=HP.out;rw[HW.out,<- List.append_assoc] at this;exact this,hJx3⟩⟩
     ·have HW:aG (kJ cs k (j+1)=kJ cs k j):=by rw[aG,yC,if_neg hx,List.append_nil]
      gi_wp2
      refine⟨trivial, ?_⟩
      gi_wp2
      refine⟨fun _ h=>(by cases h), ?_⟩
      gi_wp2
      go_roundw
      case rel=>exact⟨j+1,by omega,by go_num,by rw[HW.out];exact hJ2,hn2⟩
      case measure=>simp[dG];omega
    ·obtain rfl:j=len:=by omega
     have HW:aG (gZ cs (k+1)=gZ cs k++kJ cs k j):=by rw[aG,qM,HL.out]
     gi_wp2
     go_roundw
     case rel=>exact⟨k+1,by omega,by go_num,by rw[HW.out];exact hJ2,hn2⟩
     case measure=>simp[dG];omega
  ·obtain rfl:k=M:=by omega
   gi_wp2
   go_end0;exact⟨⟨_,rfl⟩,.inl ⟨_,rfl,hJs⟩⟩
end
section
open Go.RowKit Go.Sort Go.Shelf
attribute [local go_sem] Oper.semAt_some
theorem U1 (a:Option dH) (len cap:Nat) (w:aI):dF dA 104 #[aj a len cap] w fun e w'=>e=aK (.func (.func 135) #[] #[aO (au ⟨w.heap.size,0,ak⟩)])/\w'=w.alloc (aH #[aj a len cap] 166):=by
 go_enter Tryz.func104,Tryz.ntmps104
 go_wp2;go_ret
 exact⟨rfl,rfl⟩
theorem U2 (n:Nat) (hn:1<=n) (Bn n₀ b off len cap:Nat) (cs:List Int) (hok:rZ cs=aB) (hlen:cs.length=len) (hf:Fits cs) (hcap:len<=cap) (hm:cap<=dD) (hb:b<n₀) (w:aI) (hBn:Bn<w.heap.size) (hn₀:n₀<=w.heap.size)
  (hc:w.cell? ⟨Bn,0,ak⟩=au (aj (au ⟨b,off,ak⟩) len cap)) (hcs:∀ i,i<len->w.cell? ⟨b,off+i,ak⟩=au (ah aA (el cs i))) :
  SeqStopsK Fence.wide n dA 135 #[aO (au ⟨Bn,0,ak⟩)] (fun x:Int=>#[dB aA x]) (uX n₀ Bn) (fun ys=>ys=gZ cs (gr cs).toNat) (fun pre=>pre <+: gZ cs (gr cs).toNat) (gZ cs (gr cs).toNat).length w:=fun l J Jx W hW hJ _ hY h0 =>
 ae1 n hn l Bn n₀ b off len cap cs hok hlen hf hcap hm hb J Jx hY W hJ ((hW.cell (p:=⟨Bn,0,ak⟩) hBn).trans hc) (fun i hi=>(hW.cell (p:=⟨b,off+i,ak⟩) (by show b<_;omega)).trans (hcs i hi)) h0
theorem ar2 (cs:List Int) (M:Nat):∀ j,yP cs M j<=j*M:=by
 intro j
 induction j with
 | zero=>simp[yP]
 | succ j ih=>rw[yD,Nat.succ_mul];omega
theorem ae2 (hok:rZ cs=aB):(gZ cs (gr cs).toNat).length<=800000:=by
 obtain⟨hokB,hall⟩:=xK hok;have h18:=mM hokB;have g1:gr cs<=100000:=(Np (by omega)).2 (fun i hi=>(hall i hi).2)
 rw[NZ];refine bZ (ar2 _ _ _) ?_;exact Nat.mul_le_mul (by omega:cs.length<=8) (by omega:(gr cs).toNat<=100000)
theorem ae3 (hok:rZ cs=aB):FN cs (gZ cs (gr cs).toNat):=by
 obtain⟨hokB,hall⟩:=xK hok;have h18:=mM hokB;refine JQ (by omega) (fun i hi=>?_)
 have:=aj2 hi;omega
end
section
open Go.RowKit Go.Sort Go.Shelf
attribute [local go_sem] Oper.semAt_some
theorem appendSeq_in (g Bn n₀ b off len cap:Nat) (cs:List Int) (w:aI) (hok:rZ cs=aB) (hlen:cs.length=len) (hf:Fits cs) (hcap:len<=cap) (hm:cap<=dD) (hb:b<n₀) (hn₀:n₀<=w.heap.size)
  (hcs:∀ i,i<len->w.cell? ⟨b,off+i,ak⟩=au (ah aA (el cs i))) (hbN:Boxed w Bn 166 (aj (au ⟨b,off,ak⟩) len cap)) (hrow:w.ownsRow n₀ 2 1 (aj (au ⟨g,0,ak⟩) 0 0) 0 []) :
  dF dA 103 #[aj (au ⟨g,0,ak⟩) 0 0,.func (.func 135) #[] #[aO (au ⟨Bn,0,ak⟩)]] w fun e W' => (∃ g' c,e = aK (aj (au ⟨g',0,ak⟩) (gZ cs (gr cs).toNat).length c) /\
   W'.ownsRow n₀ 2 1 (aj (au ⟨g',0,ak⟩) (gZ cs (gr cs).toNat).length c) (gZ cs (gr cs).toNat).length ((gZ cs (gr cs).toNat).map (dB aA)))/\Below n₀ w W':=by
 obtain⟨i0,hi0,hz0,hz1,hz2⟩:=jX Tryz.info2n;have hN:=ae2 hok;have HL:=dP hlen;clear hlen;refine (callsIn_wide (n:=3)).1 ?_;refine callsIn_of_wp_marks Tryz.func103 rfl trivial ?_ rfl;simp only[Tryz.ntmps103,List.size_toArray,bP,List.length_nil,Nat.reduceAdd,Nat.reduceSub,Array.replicate_succ,Array.replicate_zero,List.push_toArray,List.append_toArray,List.nil_append,List.cons_append]
 gi_wp2
 have bS:=Boxed.new w 41 (aj (au ⟨g,0,ak⟩) 0 0);have hB1:Below n₀ w (w.alloc (aH #[aj (au ⟨g,0,ak⟩) 0 0] 41)):=(dw _ w).alloc hn₀ _;have aO6:=hbN.lt
 refine wpIn_rangeFunc_ownG rfl (by omega) (gf:=135) (lb:=#[aO (au ⟨Bn,0,ak⟩)]) rfl trivial (enters_of Tryz.func135 (by kernel_rfl) rfl)
  (U2 2 (by omega) Bn n₀ b off len cap cs hok HL.out hf hcap hm hb _ (by simp;omega) (by simp;omega) (hbN.alloc _).cell (fun i hi=>(hB1.cell (p:=⟨b,off+i,ak⟩) hb).trans (hcs i hi))) uX.trans (uX.put (by simp;omega) (by simp;omega)) (dw _ _) (fun _=>rfl)
  (fun pre W=>((∃ v,Boxed W w.heap.size 41 v/\W.ownsRow n₀ 2 1 v pre.length (pre.map (dB aA))/\∃ g c,v=aj (au ⟨g,0,ak⟩) pre.length c)/\Boxed W Bn 166 (aj (au ⟨b,off,ak⟩) len cap))/\Below n₀ w W)
  (fun _ _ _=>False)
  (OwnFrom.and (OwnFrom.and (Own.from (holdsRow_own n₀ w.heap.size 41 2 1 (fun pre:List Int=>pre.length) (fun pre=>pre.map (dB aA)) (fun pre v=>∃ g c,v=aj (au ⟨g,0,ak⟩) pre.length c)) _) (Own.from (boxed_own Bn 166 (fun _=>aj (au ⟨b,off,ak⟩) len cap)) _)) (ownFrom_below hn₀ (by simp;omega)))
  (fun _ _ _ _ _ hs _ _=>hs)
  ⟨⟨⟨_,bS,hrow.alloc _,g,0,rfl⟩,hbN.alloc _⟩,hB1⟩
  (fun x=>{ tmps:=#[aj (au ⟨g,0,ak⟩) 0 0,.func (.func 135) #[] #[aO (au ⟨Bn,0,ak⟩)],aO (au ⟨w.heap.size,0,ak⟩),undef,aj ak 0 0,ah aA x,.func (.func 135) #[] #[aO (au ⟨Bn,0,ak⟩)],ah aA x,undef,undef,undef,undef,undef],defers:=[] }) ?assign ?body ?done ?stop
 case assign =>
  intro l x W K hK
  gi_wp2
  exact hK
 case body =>
  rintro l pre x W ⟨⟨⟨v,hv,hrw,g1,c1,rfl⟩,hbn⟩,hB⟩ hlt;have hc:=hv.cell;have hpl:pre.length<800000:=by omega
  have hml:pre.length+1<=dD:=by unfold dD;omega
  have hsz:=hB.size
  gi_wp2_with (gi_at_builtin;refine wpListIn_append_own _ rfl _ _ 41 rfl n₀ 2 i0 (ah aA 0) 1 8 bG hi0 hz0 hz1 hz2 rfl (by decide) _ _ _ rfl (hrw.alloc _) ⟨W.heap.size,0,ak⟩ 1 1 [ah aA x] rfl rfl (cell_one_new _ _ _) (by simp[Value.oneCell']) (by omega) (by omega) (by simp;omega) ?_;intro v' w1 hown' hgrow _;obtain⟨g',cap',rfl⟩:=ownsRow_succ hown';obtain⟨hv1,hv2,hr2,hk2,hb2⟩:=hv.appended (by decide) hrw (bZ hn₀ hsz) hn₀ hown' hgrow;have hc1:=hv1.cell;have hf1:=hv1.frozen)
  have aB0:=((hbn.alloc _).kept hgrow (hbn.not_row (by decide) hrw)).other (B':=w.heap.size) (by omega) (aj (au ⟨g',0,ak⟩) (pre.length+1) cap')
  exact⟨hk2.from _,⟨hb2,aB0.trans (show W.heap[Bn]?=_ from hbn).symm⟩,⟨⟨_,hv2,by simpa using hr2,g',cap',by simp⟩,aB0⟩,hB.trans hb2⟩
 case done =>
  rintro D ys W hD rfl ⟨⟨⟨v,hv,hrw,g1,c1,rfl⟩,hbn⟩,hB⟩ hK;have hc:=hv.cell
  gi_wp2
  refine⟨by simp,.inl ⟨_,_,rfl,run_takeDeferred hK, ?_⟩⟩
  exact⟨_,results_tmp rfl _ _ _,⟨g1,c1,rfl,ownsRow_putObj hrw _ hK rfl⟩,hB.trans (belowK_b (w:=w) hn₀ W D _ _ (by simp at hD;omega) hK rfl rfl)⟩
 case stop =>
  rintro D c pre W _ _ h _;exact h.elim
theorem MG:XQ:=by
 intro a len cap cs w hv hcap hm
 have hAr:dF dA 101 #[aj a len cap] w fun e w'=>e=aK (aF (rZ cs))/\Below w.heap.size w w' :=
  (MZ _ len cap cs w hv hcap hm).mono (fun e w' ⟨he,n,hw⟩=>⟨he,hw ▸ fO (dw _ _)⟩)
 have hSm:aG (∀ w1,Below w.heap.size w w1->dF dA 102 #[aj a len cap] w1 fun e w'=>e=aK (ah aA (Nu cs))/\Below w.heap.size w w') :=
  fun w1 h1=>(QI a len cap cs w1 (hv.below h1 (cO _)) hcap hm).mono (fun e w' ⟨he,n,hw⟩=>⟨he,hw ▸ fO h1⟩)
 cases hb:rZ cs with
 | false =>
  rw[hb] at hAr;have HZ:aG (nX cs []):=.inr ⟨.inl hb,rfl⟩;clear hb hSm;go_enter Tryz.func58,Tryz.ntmps58
  go_wp2_with (go_at_call 101;refine hAr.mono ?_;rintro e w1 ⟨rfl,hB1⟩)
  go_ret
  exact⟨[],HZ.out,_,0,0,rfl,hB1.size,nS _ 2,hB1.alloc hB1.size _⟩
 | true =>
  rw[hb] at hAr;obtain⟨hok,hall⟩:=xK hb;have hsb:Nu cs=pq cs:=by rw[Nu,if_pos hok]
  rw[hsb] at hSm;by_cases EI:(200:Int)<pq cs
  ·have HZ:aG (nX cs []):=.inr ⟨.inr EI,rfl⟩
   clear hb hsb hall hok;generalize pq cs=z at *;go_enter Tryz.func58,Tryz.ntmps58
   go_wp2_with (first|(go_at_call 101;refine hAr.mono ?_;rintro e w1 ⟨rfl,hB1⟩)|(go_at_call 102;refine (hSm.out _ hB1).mono ?_;rintro e w2 ⟨rfl,hB2⟩))
   go_ret
   exact⟨[],HZ.out,_,0,0,rfl,hB2.size,nS _ 2,hB2.alloc hB2.size _⟩
  ·have h18:=mM hok
   have hl:=hv.1;have hf:Fits cs:=hv.2.1;obtain⟨b,off,rfl,hc⟩:=hv.cells (by omega)
   have hbl:b<w.heap.size:=aX _ _ (hc 0 (by omega))
   have HZ:aG (nX cs (gZ cs (gr cs).toNat)):=.inl ⟨hb,by omega,ae3 hb⟩
   have hW:aG (∀ w2,Below w.heap.size w w2->dF dA 103 #[aj (au ⟨w2.heap.size,0,ak⟩) 0 0,.func (.func 135) #[] #[aO (au ⟨w2.heap.size+1,0,ak⟩)]] ((w2.alloc (aH #[] 2)).alloc (aH #[aj (au ⟨b,off,ak⟩) len cap] 166)) fun e w'=>Dj w w' e (gZ cs (gr cs).toNat)):=by
    intro w2 h2;have hs2:=h2.size;have hB3:Below w.heap.size w ((w2.alloc (aH #[] 2)).alloc (aH #[aj (au ⟨b,off,ak⟩) len cap] 166)):=(h2.alloc hs2 _).alloc (by simp;omega) _
    have bN:=Boxed.new (w2.alloc (aH #[] 2)) 166 (aj (au ⟨b,off,ak⟩) len cap);rw[bH] at bN;refine (appendSeq_in w2.heap.size (w2.heap.size+1) w.heap.size b off len cap cs _ hb hl hf hcap hm hbl (by simp;omega) (fun i hi=>(hB3.cell (p:=⟨b,off+i,ak⟩) hbl).trans (hc i hi)) bN ((World.ownsRow_made w2 #[] 0 hs2 (cZ _) rfl).alloc _)).mono ?_
    rintro e W' ⟨⟨g,c,rfl,ho⟩,hB⟩;obtain⟨g2,c2,hv2,hg2,ho2⟩:=jE.uj ho (by simp)
    cases hv2
    exact⟨g,0,c,rfl,hg2,ho2,hB3.trans hB⟩
   have hd:decide ((200:Int)<pq cs)=aC:=by simpa using EI
   clear hb hsb hall hok hc h18 hl EI hv hf;generalize gZ cs (gr cs).toNat=Z at *;generalize pq cs=z at *;go_enter Tryz.func58,Tryz.ntmps58
   go_wp2_with (first|(go_at_call 101;refine hAr.mono ?_;rintro e w1 ⟨rfl,hB1⟩)|(go_at_call 102;refine (hSm.out _ hB1).mono ?_;rintro e w2 ⟨rfl,hB2⟩)|(go_at_call 104;refine (U1 _ _ _ _).mono ?_;rintro e w3 ⟨rfl,rfl⟩)|(go_at_call 103;refine (hW.out _ hB2).mono ?_;rintro e w4 ⟨g,og,c,rfl,hg,ho,hB4⟩))
   go_ret
   exact⟨_,HZ.out,g,og,c,rfl,hg,ho,hB4⟩
end
theorem Qj:∀ {L:List Int} {x:Int},(∀ y∈L,y<x)->gV L x=L++[x]
 | [],x,_=>rfl
 | y::L,x,h=>by
  rw[gV,if_pos (h y bF),Qj (fun z hz=>h z (bC _ hz))]
  rfl
theorem Na (hr:Z.Pairwise (·<·)) (hj:j<Z.length) {y: Int} (hy:y∈Z.take j):y<el Z j:=by
 obtain⟨k,hk,rfl⟩:=bg.1 hy;rw[bM] at hk;rw[List.getElem_take];have:el Z j=Z[j]:=by simp[el,hj]
 rw[this];exact (List.pairwise_iff_getElem.1 hr) k j (by omega) hj (by omega)
theorem XV {s: List Int} (hs:∀ q,q<s.length->el s q=(q:Int)) (hr:Z.Pairwise (·<·)) (h0:∀ x∈Z,0<=x) (hj:j<Z.length) (hn:el Z j∉jy s Z j):gV (jy s Z j) (el Z j)=jy s Z j++[el Z j]:=by
 refine Qj (fun y hy=>?_)
 rcases sS.1 hy with h|h
 ·obtain⟨q,hq,rfl⟩:=(Hf hs).1 h
  have hx:=h0 _ (kK hj);rcases Int.lt_or_le (q:Int) (el Z j) with h1|h1
  ·exact h1
  ·refine absurd (sS.2 (.inl ((Hf hs).2 ⟨(el Z j).toNat,by omega,by omega⟩))) hn
 ·exact Na hr hj h
theorem TB {R: List Rw} {id: Nat} {o: Rw} (h:ends R id o L=aB) (hk:k∈L):(dO R k).dV=aB:=by
 rw[ends,bJ] at h;have:=h k hk;simp only[bI] at this;exact this.1
theorem Qk {T: List Int} (hn:1<=n/\n<=5) (hl:T.length=n) (h12:∀ j,j<n->0<=el T j/\el T j<=12) (h:nX T Z):Z=gZ T 12:=by
 refine h.unique (.inl ⟨?_, ?_,JQ (by omega) (fun i hi=>by have:=h12 i (by omega);omega)⟩)
 ·obtain⟨h1,h2⟩:=(jF hn hl).2 h12
  simp only[rZ,bI,bJ,decide_eq_true_eq]
  exact⟨h1,fun x hx=>by have:=h2 x hx;omega⟩
 ·have h1:=Iu (cs:=T) (M:=12) (fun i hi=>h12 i (by omega))
  have h2:=FU T 12;omega
theorem Iw.aB1 {X: aI} {B: Nat} {fp: Fp} {off: Nat} (h:Iw w X B m fp g off c) (hf:nG m) (hk:k<m.rows.length):∃ Ak:Ra,C8 X g (off+k*8) (ah aA (dO m.rows k).ver) (aj Ak.ta (dO m.rows k).txt.length Ak.tc) (aj Ak.ga (dO m.rows k).got.length Ak.gc) (aj Ak.sa (dO m.rows k).dQ.length Ak.sc) (aF (dO m.rows k).wed) (aF (dO m.rows k).dV) (ah aA (dO m.rows k).dW) (aj Ak.ma (dO m.rows k).dU.length Ak.mc)/\qj X Ak (dO m.rows k)/\((dO m.rows k).got.length<=Ak.gc/\Ak.gc<=dD)/\((dO m.rows k).dU.length<=Ak.mc/\Ak.mc<=dD):=by
 obtain⟨Ak,h8,hs⟩:=h.row hf hk;obtain⟨f1,f2,f3⟩:=hf.1 _ (pG hk);obtain⟨⟨q0,q1,q2,q3⟩,q4,q5,q6,q7⟩:=h8;refine⟨Ak,⟨⟨q0,q1,q2,q3⟩,q4,q5,q6,q7⟩,hs, ?_, ?_⟩
 ·obtain⟨u,f,hu,_,how,_⟩:=h.at hk (j:=2) rfl
  obtain⟨a,cc,e,_,h1,h2⟩:=l7 (dY.wF how) f1;have:=bT (q2.symm.trans (hu.trans (by rw[e])))
  simp only[Value.slice.injEq] at this;rw[this.2.2];exact⟨h1,h2⟩
 ·obtain⟨u,f,hu,_,how,_⟩:=h.at hk (j:=7) rfl
  obtain⟨a,cc,e,_,h1,h2⟩:=l7 (dY.wF how) f3;have:=bT (q7.symm.trans (hu.trans (by rw[e])))
  simp only[Value.slice.injEq] at this;rw[this.2.2];exact⟨h1,h2⟩
def Ql (m:Mb) (i n:Nat):Mb:=if n<2*(fA n (dO m.rows i).dQ).length/\ends m.rows i (dO m.rows i) (fA n (dO m.rows i).dQ)=aB then { m with dR:=jJ m.dR (dO m.rows i).dU,done:=aB } else m
theorem ar4 (w0:aI) (B:Nat) (m:Mb) (i n:Nat) (fp:Fp) (g off c:Nat) (X:aI) (M:Iw w0 X B m fp g off c) (ok:iO m i n) (hd:m.done=aC) :
  dF dA 144 #[aO (au ⟨B,0,ak⟩)] X fun e w'=>e=aK (.tuple #[])/\Iw w0 w' B (Ql m i n) fp g off c:=by
 have hil:i<m.rows.length:=by rw[ok.len];exact ok.lt
 have hr:=ok.ok i ok.lt;have jq:=ok.n5;have hL:=Ko w0 B m i n fp g off c X M ok;have kQ:=dP M;have HLn:aG (∀ k∈fA n (dO m.rows i).dQ,k<n):=fun k hk=>(jh.1 hk).1
 have HLi:aG (i∈fA n (dO m.rows i).dQ):=jh.2 ⟨ok.lt,ok.self⟩;have Jd:=tK n (dO m.rows i).dQ;have HE:aG (Ql m i n=if n<2*(fA n (dO m.rows i).dQ).length/\ends m.rows i (dO m.rows i) (fA n (dO m.rows i).dQ)=aB then { m with dR:=jJ m.dR (dO m.rows i).dU,done:=aB } else m):=rfl
 generalize Ql m i n=mE at *;generalize Gf:fA n (dO m.rows i).dQ=L at *;have hL5:L.length<=5:=by omega
 clear Gf M;go_enter Tryz.func144,Tryz.ntmps144
 go_wp2_with fail
 refine hL.mono ?_;rintro e wl ⟨la,lc,rfl,fl,hl1,hl2,hl3⟩;rw[jl] at hl1 ⊢;have rQ:Vec wl la (lN L).length (lN L):=lW (by rw[jl];exact hl1) (wo HLn.out (by omega))
 have fU:=dP (kQ.out.step hl3);have hMs:=SQ B m.rows.length c L.length lc (au ⟨g,off,ak⟩) la wl fU.out.rws (by omega) (by rw[ok.len];exact jq.2)
 have TD:=ar0 w0 B m i n fp g off c wl fU.out ok.XR L la lc rQ HLn.out hL5;rw[ok.len] at hMs;clear hl1 hl2 hl3 hL kQ rQ;by_cases hmj:n<2*L.length;rotate_left
 ·have HN:aG (mE=m):=by rw[aG,HE.out,if_neg (fun h=>hmj h.1)]
  rw[decide_eq_false hmj] at hMs;clear HE hmj TD;go_wp2_with (go_at_call 171;refine fV hMs ?_)
  try simp only[Exit.inBlock,Exit.then]
  refine bY (results_none rfl _ _ _) rfl ?_;exact⟨rfl,by rw[HN.out];exact fU.out⟩
 rw[decide_eq_true hmj] at hMs
 cases hen:ends m.rows i (dO m.rows i) L with
 | false =>
  have HN:aG (mE=m):=by rw[aG,HE.out,if_neg (fun h=>by rw[hen] at h;cases h.2)]
  rw[hen] at TD;clear HE hmj hen;go_wp2_with (first|(go_at_call 171;refine fV hMs ?_)|(go_at_call 173;refine TD.mono ?_;rintro e w2 ⟨rfl,hb2⟩;have HB2:aG (Below wl.heap.size wl w2):=hb2;clear hb2))
  try simp only[Exit.inBlock,Exit.then]
  refine bY (results_none rfl _ _ _) rfl ?_;exact⟨rfl,by rw[HN.out];exact fU.out.step HB2.out⟩
 | true =>
  have HRD:=dP (TB hen HLi.out);have HN:aG (mE={ m with dR:=jJ m.dR (dO m.rows i).dU,done:=aB }):=by rw[aG,HE.out,if_pos ⟨hmj,hen⟩]
  rw[hen] at TD;clear HE hmj hen;go_upto_region 2 with (first|(go_at_call 171;refine fV hMs ?_)|(go_at_call 173;refine TD.mono ?_;rintro e w2 ⟨rfl,hb2⟩;have HB2:aG (Below wl.heap.size wl w2):=hb2;clear hb2))
  have M2:=fU.out.step HB2.out;clear hMs TD fU HB2;obtain⟨u4,f4,q1,q2,q3,_,q4⟩:=M2.KX (j:=3) (cl:=.v (aF m.done)) rfl (by omega)
  obtain⟨rfl,_⟩:=q3;obtain⟨_,_,M3⟩:=q4 w2 (.v (aF aB)) (aF aB) (fun _=>False) { m with done:=aB } rfl rfl (eX.refl _ _) ⟨rfl,fun _ h=>h⟩ (fun b hb=>hb.elim)
  have lC:=dP M3;have q1':w2.cell? ⟨B,3,ak⟩=au (aF m.done):=by simpa using q1
  have q2':w2.frozen? ⟨B,3,ak⟩=aC:=by simpa using q2
  clear M2 M3 q4 q1 q2;rw[show 0+3=3 from rfl] at lC
  go_upto_region 3 with fail
  generalize w2.setCell ⟨B,3,ak⟩ (aF aB)=W3 at *;clear q1' q2';obtain⟨c0,_⟩:=lC.out.id';have c1:=lC.out.rws;simp only at c0 c1
  rw[ok.hid] at c0;have qR:=nY B i m.rows.length g off c W3 c0 c1 hil;clear c0 c1;go_wp2_with fail
  refine qR.mono ?_;rintro e W4 ⟨rfl,hb4⟩;have mG:=dP (lC.out.step hb4);clear qR hb4 lC;obtain⟨Ai,⟨⟨_,_,_,_⟩,_,_,_,d7⟩,yS,_,hkm⟩:=mG.out.aB1 (m:={ m with done:=aB }) ok.fit hil
  simp only at d7 yS hkm
  obtain⟨_,_,aB2,htl,h12⟩:=hr.dV HRD.out;have hsm:=(jF hr.n5 htl).1 ⟨aB2,h12⟩;have hW:=MG Ai.ma (dO m.rows i).dU.length Ai.mc (dO m.rows i).dU W4 yS.dU hkm.1 hkm.2;have Gm:=dP htl;have CX:=dP hsm;have HSg:aG (jJ m.dR (dO m.rows i).dU=jy m.dR (gZ (dO m.rows i).dU 12) (gZ (dO m.rows i).dU 12).length):=by rw[aG,LJ];rfl
  clear yS htl hsm aB2 h12 hr hkm;generalize (dO m.rows i).dU=T at *;go_wp2_with (go_at_call 58;refine hW.mono ?_;rintro e W5 ⟨Z,hZ,sg,so,sc,rfl,hsg,hO,hb5⟩)
  obtain rfl:=Qk jq Gm.out CX.out hZ
  have zN:(gZ T 12).length<=60:=by
   have:=FU T 12;rw[Gm.out] at this;omega
  have WO:Fits (gZ T 12):=ES (by rw[Gm.out];omega) (by omega)
  have HZr:=dP (wI T 12)
  have HZ0:aG (∀ x∈gZ T 12,0<=x):=fun x hx=>by
   obtain⟨k,j,_,_,_,rfl⟩:=xG.1 hx;have:(T.length:Int)*(k:Int)=((T.length*k:Nat):Int):=by simp
   omega
  obtain⟨jw,f1,f2,_,M5,WM⟩:=mG.out.sub hb5;have yJ:=dP WM;have iM:=dP M5;have HsB:aG (¬ jw sg/\sg≠B):=⟨fun k=>by have:=f1 _ k;omega,by omega⟩
  have HUp:aG (∀ q,q<m.dR.length->el m.dR q=(q:Int)):=fun q hq=>(ok.sg q hq).2 hd
  generalize gZ T 12=Z at *;have HOs:aG (dY.ow W5 (gJ Z) (aj (au ⟨sg,so,ak⟩) Z.length sc) (fun b=>b=sg)):=je.2 ⟨_,sc,au sg,rfl,iQ.of hO,fun b=>by simp[eq_comm]⟩
  clear hW hZ hO hb5 f1 f2 WM M5 hsg mG d7;go_wp2_with fail
  go_loopw [35] (fun v wr=>∃ j:Nat,j<=Z.length/\v=ah aA (j:Int)/\Iw W5 wr B { m with done:=aB,dR:=jy m.dR Z j } jw g off c) (fun v _=>Z.length-(dG v).toNat)
  case atStart=>exact⟨0,cZ _,rfl,iM.out⟩
  case round =>
   obtain⟨j,hj,rfl,M⟩:=hrel;by_cases hlt2:j<Z.length
   ·have j1:(j:Int)<Z.length:=by omega
    have j0:(0:Int)<=j:=by omega
    have hsl:=Ba (s:=m.dR) (Z:=Z) j;have hsf:=zq (s:=m.dR) (Z:=Z) ok.fit.2 WO j;have hms:=ok.sl;have yV:aG (jy m.dR Z (j+1)=if el Z j∈jy m.dR Z j then jy m.dR Z j else gV (jy m.dR Z j) (el Z j)):=zn hlt2
    have Jt:aG (el Z j∉jy m.dR Z j->gV (jy m.dR Z j) (el Z j)=jy m.dR Z j++[el Z j]):=fun h=>XV HUp.out HZr.out HZ0.out hlt2 h
    have WQ:=lW (M.RU HOs.out (fun b hb=>by rw[hb];exact HsB.out)) WO
    rcases WQ.2.2 with hz|⟨zb,zo,ez,hzc⟩
    ·omega
    cases ez
    have hzj:=hzc j hlt2;generalize el Z j=x at *;generalize hsj:jy m.dR Z j=sj at *;have hfm:nG { m with done:=aB,dR:=sj }:=⟨ok.fit.1,hsf⟩
    obtain⟨sa,sc2,⟨c0,c1,c2,c3⟩,aB3⟩:=M.box hfm;simp only at c2
    have hsv:=aB3.dR;have hC:=tZ sa sc2 sj x wr hsv (by unfold dD;omega)
    have HM:=dP M;have HSj:aG (sj.length<=1000):=by rw[aG];omega
    clear aB3 hsv hzc WQ hsf hsl M c0 c1 c3;by_cases hin:x∈sj
    ·rw[decide_eq_true hin] at hC
     have HK:aG (jy m.dR Z (j+1)=sj):=by rw[aG,yV.out,if_pos hin]
     clear hin yV Jt hsj;go_wp2_with (go_at_call 88;refine fV hC ?_)
     go_roundw
     case rel=>exact⟨j+1,by omega,by go_num,by rw[HK.out];exact HM.out⟩
     case measure=>simp[dG];omega
    ·rw[decide_eq_false hin] at hC
     have HK:aG (jy m.dR Z (j+1)=sj++[x]):=by rw[aG,yV.out,if_neg hin,Jt.out hin]
     clear hin yV Jt hsj;obtain⟨u,f,hu,hz,how,hlt,hset⟩:=HM.out.KX (j:=2) rfl (by decide)
     obtain rfl:=bT (hu.symm.trans c2);obtain⟨sa',sc',es,hA⟩:=nP x how (bZ HSj.out (by decide))
     cases es
     have Ku:aG (∀ (X1:aI) (c':dY) (u':aJ) (f':Fp) (m':Mb),(lH { m with done:=aB,dR:=sj }).set 2 c'=lH m'->m'.rows.length=m.rows.length->eX f wr X1->dY.ow X1 c' u' f'->(∀ b,f' b->f b\/wr.heap.size<=b)->X1.cell? ⟨B,2,ak⟩=au (aj sa sj.length sc2)/\X1.frozen? ⟨B,2,ak⟩=aC/\Iw W5 (X1.setCell ⟨B,2,ak⟩ u') B m' jw g off c):=by rw[aG];simpa using hset
     clear hset hu hz hlt how;go_upto_region 7 with (go_at_call 88;refine fV hC ?_)
     clear hzj;go_upto_region 8 with (at_builtin;refine fG (by rfl) _ _ _ _ (by rfl) _ _ (by rfl) (by rfl) hA ⟨rfl,rfl,rfl,rfl⟩ ?_;rintro v1 w1 ⟨a1,e1,f1,rfl,k1,k2,k3⟩;obtain⟨q1,q2,M2⟩:=Ku.out w1 (gJ (sj++[x])) (aj a1 (sj.length+1) e1) f1 { m with done:=aB,dR:=sj++[x] } rfl rfl k3 k1 k2;have jk:aG (Iw W5 (w1.setCell ⟨B,2,ak⟩ (aj a1 (sj.length+1) e1)) B { m with done:=aB,dR:=sj++[x] } jw g off c):=M2;clear M2 k1 k2 k3 hA c2 hC)
     generalize w1.setCell ⟨B,2,ak⟩ (aj a1 (sj.length+1) e1)=W9 at *;clear q1 q2;go_wp2;go_roundw
     case rel=>exact⟨j+1,by omega,by go_num,by rw[HK.out];exact jk.out⟩
     case measure=>simp[dG];omega
   ·have j1:¬ ((j:Int)<Z.length):=by omega
    obtain rfl:j=Z.length:=by omega
    have HK:aG (Iw w0 wr B mE fp g off c):=by
     rw[aG,HN.out,HSg.out];exact yJ.out _ _ M
    clear M;go_wp2
    first|go_end0|go_ret
    exact⟨rfl,HK.out⟩
theorem XW (F:Nat) (C:Array aJ) (a:Option dH) (n cap:Nat) (H:List (List Int)) (I:Nat->Option dH->Nat->Nat->aI->Prop) (a0:Option dH) (m0 c0:Nat) (w:aI) (hn:n<=8)
  (hE:∀ (args:Array aJ) (w:aI),(callFunc F args).run dA w=.ok (.enter F args) w) (hV:∀ k x m c X,I k x m c X->VV X a n cap H)
  (hF:∀ k x m c X y cy,k<n->I k x m c X->Vec X y (row H k).length (row H k)->(row H k).length<=cy->cy<=dD->dF dA F (#[aj x m c,aj y (row H k).length cy]++C) X fun e w'=>∃ x' m' c',e=aK (aj x' m' c')/\I (k+1) x' m' c' w')
  (h0:I 0 a0 m0 c0 w):dF dA 197 #[.func (.func F) #[] C,aj a n cap,aj a0 m0 c0] w fun e w'=>∃ x m c,e=aK (aj x m c)/\I n x m c w':=by
 have HV:=dP hV;clear hV;go_enter Tryz.func197,Tryz.ntmps197
 go_wp2
 go_loopw [7,9,13] (fun v _ i wr=>∃ (k:Nat) (x:Option dH) (m c:Nat),k<=n/\i=ah aA (k:Int)/\v=aj x m c/\I k x m c wr) (fun _ _ i _=>n-(dG i).toNat)
 case atStart=>exact⟨0,a0,m0,c0,cZ _,rfl,rfl,h0⟩
 case round =>
  obtain⟨k,x,m,c,hk,rfl,rfl,hI⟩:=hrel;have HI:=dP hI;clear hI h0;by_cases hlt:k<n
  ·have k1:(k:Int)<n:=by omega
   have k0:(0:Int)<=k:=by omega
   obtain⟨b,off,rfl,hc⟩:=PI (HV.out _ _ _ _ _ HI.out) (by omega)
   obtain⟨y,cy,hcy,hvy,hl,hm⟩:=hc k hlt;have hC:=hF k x m c wr y cy hlt HI.out hvy hl hm;clear hc hvy hF;generalize (row H k).length=L at *;go_wp2_with fail
   refine hC.mono ?_;rintro e w1 ⟨x1,m1,c1,rfl,hI1⟩;have HI1:=dP hI1;clear hI1 hC hcy;go_wp2;go_roundw
   case rel=>exact⟨k+1,x1,m1,c1,by omega,by go_num,rfl,HI1.out⟩
   case measure=>simp[dG];omega
  ·have k1:¬ ((k:Int)<n):=by omega
   obtain rfl:k=n:=by omega
   go_wp2;go_ret
   exact⟨x,m,c,rfl,HI.out⟩
def Ap (f:Int->Int->Int) (L:List (List Int)):Nat->List Int
 | 0=>row L 0
 | k+1=>jc f (Ap f L k) (row L k)
def EvR (L:List (List Int)):Prop:=∀ k,k<L.length->okB (row L k)=aB/\(row L k).length=(row L 0).length
theorem XY {f: Int->Int->Int} (hf:∀ x,f x x=x) (h:okB r=aB):jc f r r=r:=by
 have ht:vH r r=aB:=by simp[vH,h]
 rw[jc,if_pos ht];refine List.ext_getElem (by rw[lT]) (fun i h1 h2=>?_)
 simp[jn,hf,el,h2]
theorem XZ {f:Int->Int->Int} (hf:∀ x y,(0<=x/\x<=1000000)->(0<=y/\y<=1000000)->0<=f x y/\f x y<=1000000) {L:List (List Int)} (h:EvR L) (h1:1<=L.length):∀ k,k<=L.length->okB (Ap f L k)=aB/\(Ap f L k).length=(row L 0).length
 | 0,_=>h 0 (by omega)
 | k+1,hk=>by
  obtain⟨i1,i2⟩:=XZ hf h h1 k (by omega)
  obtain⟨a1,a2⟩:=h k (by omega)
  obtain⟨e1,e2,e3⟩:=Ro hf i1 a1 (by rw[i2,a2])
  exact⟨e3,by rw[Ap,e2,i2]⟩
theorem ar5 {L: List (List Int)} (hk:k<L.length):row (L++[x]) k=row L k:=by
 simp[row,aS,aU hk]
theorem ae4 {L: List (List Int)}:row (L++[x]) L.length=x:=by simp[row]
theorem ar6 (h:okB Z=aB):Fits Z:=fun y hy=>by
 obtain⟨j,hj,rfl⟩:=bg.1 hy;have:=wu h hj;simp[el,hj] at this
 omega
theorem U3 (F:Nat) (f:Int->Int->Int) (hf:∀ x y,(0<=x/\x<=1000000)->(0<=y/\y<=1000000)->0<=f x y/\f x y<=1000000)
  (hE:∀ (args:Array aJ) (w:aI),(callFunc F args).run dA w=.ok (.enter F args) w)
  (hP:∀ (a a':Option dH) (len cap len' cap':Nat) (xs ys:List Int) (w:aI),Vec w a len xs->Vec w a' len' ys->len<=cap->len'<=cap'->cap<=dD->cap'<=dD->dF dA F #[aj a len cap,aj a' len' cap'] w fun e w'=>∃ g c,e=aK (aj (au ⟨g,0,ak⟩) (jc f xs ys).length c)/\w.heap.size<=g/\OwnAt w' g c (jc f xs ys)/\Below w.heap.size w w')
  (a:Option dH) (n cap:Nat) (L:List (List Int)) (w:aI) (hv:VV w a n cap L) (hn:n<=8) (hL:EvR L) :
  dF dA 193 #[aj a n cap,.func (.func F) #[] #[]] w fun e w'=>Dj w w' e (if n=0 then [] else Ap f L n):=by
 have HN:=dP hv.n;by_cases h0:n=0
 ·subst h0
  have HA:aG (OI (w.alloc (aH #[] 2)) w.heap.size 0 0 0 []/\Below w.heap.size w (w.alloc (aH #[] 2))):=⟨nS w 2,(dw _ _).alloc (cO _) _⟩;clear hv hP hE;go_enter Tryz.func193,Tryz.ntmps193
  go_wp2;go_ret
  exact⟨_,0,0,rfl,cO _,HA.out.1,HA.out.2⟩
 ·rw[if_neg h0]
  have hF:=XZ hf hL (by rw[HN.out];omega)
  rw[HN.out] at hF;obtain⟨b,off,rfl,hc⟩:=PI hv (by omega)
  obtain⟨x0,c0,hc0,hv0,hl0,hm0⟩:=hc 0 (by omega)
  rw[Nat.add_zero] at hc0
  have hO:=XW F #[] (au ⟨b,off,ak⟩) n cap L (fun k x m c X=>m=(Ap f L k).length/\Below w.heap.size w X/\Vec X x m (Ap f L k)/\m<=c/\c<=dD/\(0<k->∃ g o,x=au ⟨g,o,ak⟩/\w.heap.size<=g/\OI X g o m c (Ap f L k))) x0 (row L 0).length c0 w hn hE
   (fun k x m c X h=>hv.below h.2.1)
   (fun k x m c X y cy hk h hy hl hm => by
    obtain⟨h1,h2,h3,h4,h5,_⟩:=h;refine (hP x y m c (row L k).length cy (Ap f L k) (row L k) X h3 hy h4 hl h5 hm).mono ?_;rintro e w' ⟨g,c',rfl,hg,hown,hb⟩;have hoi:=OI.own hown;have hfit:=ar6 (hF (k+1) (by omega)).1
    refine⟨_,_,_,rfl,rfl,eU h2 hb,hoi.vec hfit,hoi.le,hoi.max,fun _=>⟨g,0,rfl,bZ h2.size hg,hoi⟩⟩)
   ⟨rfl,dw _ _,hv0,hl0,hm0,fun h=>absurd h (by omega)⟩
  have n0:(0:Int)<n:=by omega
  have n1:((n:Int)==0)=aC:=by simp;omega
  have HS:aG (0<n):=by rw[aG];omega
  clear hv hc hv0 hP hE hF;generalize (row L 0).length=L0 at *;go_enter Tryz.func193,Tryz.ntmps193
  go_wp2_with fail
  refine hO.mono ?_;rintro e w1 ⟨x,m,c,rfl,hm,hb,_,_,_,hg⟩;obtain⟨g,o,hx,hgs,hoi⟩:=hg HS.out;have HH:aG (m=(Ap f L n).length/\Below w.heap.size w w1/\x=au ⟨g,o,ak⟩/\w.heap.size<=g/\OI w1 g o m c (Ap f L n)):=⟨hm,hb,hx,hgs,hoi⟩;clear hm hb hx hgs hoi hg hO hc0;go_wp2;go_ret
  obtain⟨q1,q2,q3,q4,q5⟩:=HH.out;subst q1;subst q3;exact⟨g,o,c,rfl,q4,q5,q2⟩
def TF (w:aI) (L:List (List Int)) (vs:List aJ):Prop:=vs.length=L.length/\∀ i,i<L.length->∃ x c,vs[i]?=au (aj x (row L i).length c)/\Vec w x (row L i).length (row L i)/\(row L i).length<=c/\c<=dD
theorem TF.snoc {L: List (List Int)} (h:TF w L vs) {x: Option dH} (hv:Vec w x r.length r) (h1:r.length<=c) (h2:c<=dD):TF w (L++[r]) (vs++[aj x r.length c]):=by
 refine⟨by simp[h.1],fun i hi=>?_⟩
 by_cases e:i=L.length
 ·rw[e,ae4]
  exact⟨x,c,by rw[<- h.1];simp,hv,h1,h2⟩
 ·have hi':i<L.length:=by simp at hi;omega
  obtain⟨y,d,a1,a2,a3,a4⟩:=h.2 i hi';rw[ar5 hi'];exact⟨y,d,by rw[aU (by rw[h.1];exact hi')];exact a1,a2,a3,a4⟩
theorem TF.vv {w': aI} {L: List (List Int)} {o: Nat} (h:TF w L vs) (hb:Below w.heap.size w w') (ho:jE w' 1 g o L.length c vs):VV w' (au ⟨g,o,ak⟩) L.length c L:=by
 refine⟨rfl,ho.le,ho.max,fun i hi=>?_⟩
 obtain⟨x,d,a1,a2,a3,a4⟩:=h.2 i hi;exact⟨g,o,x,d,rfl,by rw[ho.cell i (by omega),a1],a2.below hb (cO _),a3,a4⟩
theorem Qm {f:Int->Int->Int} (hf:∀ x,f x x=x) {r:List Int} {rs:List (List Int)} (hr:okB r=aB):∀ k,k<=rs.length->Ap f (r::rs) (k+1)=(rs.take k).foldl (jc f) r
 | 0,_=>by
  show jc f (row (r::rs) 0) (row (r::rs) 0)=r
  simp only[row,List.getD_cons_zero]
  exact XY hf hr
 | k+1,hk=>by
  have ih:=Qm hf hr (rs:=rs) k (by omega)
  show jc f (Ap f (r::rs) (k+1)) (row (r::rs) (k+1))=_
  rw[ih,aQ (by omega),List.foldl_append]
  simp[row,List.getD,show k<rs.length by omega]
theorem Ya (R:List Rw) (hL:∀ k∈L,okB (dO R k).got=aB) (h0:0<L.length):Ap min (L.map (fun j=>(dO R j).got)) L.length=meets R L:=by
 cases L with
 | nil=>cases h0
 | cons k t =>
  have:=Qm (f:=min) (fun x=>by omega) (r:=(dO R k).got) (rs:=t.map (fun j=>(dO R j).got)) (hL k bF) t.length (by simp)
  rw[List.map_cons,bP,this,aY (by simp),List.foldl_map]
  rfl
def lS (R:List Rw) (L:List Nat) (k:Nat):List (List Int):=(L.take k).map (fun j=>(dO R j).got)
theorem QX (R:List Rw) (hk:k<L.length):lS R L (k+1)=lS R L k++[(dO R (L.getD k 0)).got]:=by
 unfold lS;rw[aQ hk,List.map_append];simp[List.getD,hk]
theorem JB (R:List Rw) (hk:k<=L.length):(lS R L k).length=k:=by
 unfold lS;rw[List.length_map,bM];omega
theorem U4 (R:List Rw) (L:List Nat):lS R L L.length=L.map (fun j=>(dO R j).got):=by rw[lS,List.take_length]
theorem Yc (R:List Rw) (hk:k<L.length) (a:Int×List Int):best R (L.take (k+1)) a=if (dO R (L.getD k 0)).dV=aB/\(best R (L.take k) a).1<(dO R (L.getD k 0)).dW then ((dO R (L.getD k 0)).dW,(dO R (L.getD k 0)).dU) else best R (L.take k) a:=by
 have e:L.getD k 0=L[k]:=by simp[List.getD,hk]
 unfold best;rw[aQ hk,List.foldl_append,e]
 rfl
def aB4 (X:aI) (b:Int×List Int) (rd:Bool) (x7:aJ):Prop:=rd=decide (0<=b.1)/\(rd=aB->∃ ta tc,x7=aj ta b.2.length tc/\Vec X ta b.2.length b.2)
def aL6 (w w':aI) (e:Ending) (T:List Int):Prop:=∃ ta tc,e=aK (aj ta T.length tc)/\Vec w' ta T.length T/\Below w.heap.size w w'
theorem ae5 (ok:OkW m i n) (hL:∀ k∈L,k<n):EvR (L.map (fun j=>(dO m.rows j).got)):=by
 have key:∀ k,k<L.length->okB (row (L.map (fun j=>(dO m.rows j).got)) k)=aB/\(row (L.map (fun j=>(dO m.rows j).got)) k).length=n:=fun k hk=>by
  have e:row (L.map (fun j=>(dO m.rows j).got)) k=(dO m.rows L[k]).got:=by simp[row,List.getD,hk]
  have h:=ok.ok L[k] (hL _ (List.getElem_mem hk));rw[e];exact⟨h.got,h.gl⟩
 intro k hk;rw[List.length_map] at hk;exact⟨(key k hk).1,(key k hk).2.trans (key 0 (by omega)).2.symm⟩
theorem ar7 (w0:aI) (B:Nat) (m:Mb) (i n:Nat) (fp:Fp) (g off c:Nat) (X:aI) (M:Iw w0 X B m fp g off c) (ok:OkW m i n) (L:List Nat) (la:Option dH) (lc:Nat) (hv:Vec X la (lN L).length (lN L)) (hLn:∀ k∈L,k<n) (Jd:L.length<=5) (hL0:0<L.length) :
  dF dA 187 #[aO (au ⟨B,0,ak⟩),aj la L.length lc] X fun e w'=>aL6 X w' e (endOf m.rows L):=by
 obtain⟨i1,hi1,hy0,hy1,hy2⟩:=jX ZU;have jq:=ok.n5;have HM:=dP M;have HLn:=dP ok.len;have hml:m.rows.length<=5:=by rw[ok.len];exact jq.2
 have iE:=dP ok.ok;have Eb:=dP ok.fit;have HL:=dP hLn;have HV:=dP hv;have HEv:=dP (ae5 ok hLn);have oW:aG (Ap min (L.map (fun j=>(dO m.rows j).got)) L.length=meets m.rows L):=Ya m.rows (fun k hk=>(ok.ok k (hLn k hk)).got) hL0
 have HFz:aG (Fits (meets m.rows L)):=by
  obtain ⟨h1,h2⟩ := zk (R := m.rows) jq (L := L) (by intro e;rw [e] at hL0;cases hL0) (fun k hk => by
   have h:=ok.ok k (hLn k hk);exact⟨h.gl,(jF h.n5 h.gl).1 ⟨h.got,h.g12⟩⟩)
  intro x hx;obtain⟨j,hj,rfl⟩:=G7.1 hx;have:=h2 j (by omega)
  obtain⟨q1,_,q,hq,q2⟩:=this;have hh:=ok.ok q (hLn q hq);have:=(jF hh.n5 hh.gl).1 ⟨hh.got,hh.g12⟩ j (by omega)
  omega
 have hb0:Below X.heap.size X ((X.alloc (aH #[] 41)).alloc (aH #[ah aA 0,aj ak 0 0,aj ak 0 0,aj ak 0 0,aF aC,aF aC,ah aA (-1),aj ak 0 0] 44)):=(dX X _).trans ((dX _ _).mono (dX X _).size)
 have hx0:Bx ((X.alloc (aH #[] 41)).alloc (aH #[ah aA 0,aj ak 0 0,aj ak 0 0,aj ak 0 0,aF aC,aF aC,ah aA (-1),aj ak 0 0] 44)) (X.heap.size+1) 44 #[ah aA 0,aj ak 0 0,aj ak 0 0,aj ak 0 0,aF aC,aF aC,ah aA (-1),aj ak 0 0]:=by
  have:=Bx.new (X.alloc (aH #[] 41)) 44 #[ah aA 0,aj ak 0 0,aj ak 0 0,aj ak 0 0,aF aC,aF aC,ah aA (-1),aj ak 0 0];simp only[bH] at this;exact this
 have hE0:jE ((X.alloc (aH #[] 41)).alloc (aH #[ah aA 0,aj ak 0 0,aj ak 0 0,aj ak 0 0,aF aC,aF aC,ah aA (-1),aj ak 0 0] 44)) 1 X.heap.size 0 0 0 []:=jE.below (⟨rfl,cO _,cZ _,by simp,fun i hi=>by omega,fun i hi=>by omega,fun i hi=>by omega⟩:jE (X.alloc (aH #[] 41)) 1 X.heap.size 0 0 0 []) ((dw _ _).alloc (cO _) _) (by simp)
 have HB0:=dP hb0;have HX0:=dP hx0;have HE0:=dP hE0;clear M hv hLn hb0 hx0 hE0;go_enter Tryz.func187,Tryz.ntmps187
 go_wp2_with fail
 generalize (X.alloc (aH #[] 41)).alloc (aH #[ah aA 0,aj ak 0 0,aj ak 0 0,aj ak 0 0,aF aC,aF aC,ah aA (-1),aj ak 0 0] 44)=W0 at *
 go_loopw [6,14] (fun v i wr=>∃ (k gg og cg:Nat) (vs:List aJ) (b:Int×List Int) (x0 x1 x2 x3 x4 x7:aJ) (rd:Bool),k<=L.length/\i=ah aA (k:Int)/\v=aj (au ⟨gg,og,ak⟩) (lS m.rows L k).length cg/\X.heap.size<=gg/\gg≠X.heap.size+1/\jE wr 1 gg og (lS m.rows L k).length cg vs/\TF X (lS m.rows L k) vs/\aG (b=best m.rows (L.take k) (-1,[]))/\aG (aB4 X b rd x7)/\Bx wr (X.heap.size+1) 44 #[x0,x1,x2,x3,x4,aF rd,ah aA b.1,x7]/\Below X.heap.size X wr) (fun _ i _=>L.length-(dG i).toNat)
 case atStart=>exact⟨0,X.heap.size,0,0,[],(-1,[]),_,_,_,_,_,_,_,cZ _,rfl,rfl,cO _,by omega,HE0.out,⟨rfl,fun i hi=>by simp[lS] at hi⟩,rfl,⟨rfl,fun h=>by cases h⟩,HX0.out,HB0.out⟩
 case round =>
  obtain⟨k,gg,og,cg,vs,b,x0,x1,x2,x3,x4,x7,rd,hk,rfl,rfl,hg1,hg2,hO,hS,Gi,hLa,hxl,hb⟩:=hrel;have LO:=dP hO;have LS:=dP hS;have LB:=dP hb;have LG:aG (X.heap.size<=gg/\gg≠X.heap.size+1):=⟨hg1,hg2⟩;have LXl:=dP hxl;have LLE:(lS m.rows L k).length<=5:=by rw[JB m.rows hk];omega
  clear hO hS hg1 hg2 HB0 HX0 HE0;by_cases hlt:k<L.length
  ·have qI:L.getD k 0<n:=HL.out _ (lX hlt)
   have uG:L.getD k 0<m.rows.length:=by rw[HLn.out];exact qI
   rcases (HV.out.below hb (cO _)).2.2 with hz|⟨lb,lo,hla,hlc⟩
   ·rw[jl] at hz;omega
   have hlk:=hlc k (by rw[jl];exact hlt)
   rw[wQ hlt] at hlk;obtain⟨AJ0,_,zM⟩:=HM.out.row Eb.out uG;obtain⟨AJ,⟨⟨d0,d1,d2,d3⟩,d4,d5,d6,d7⟩,hrs,hkg,_⟩:=(HM.out.step hb).aB1 Eb.out uG;have nK:=(HM.out.step hb).rws;have tC:=dP (QX m.rows hlt)
   have Yd:aG (best m.rows (L.take (k+1)) (-1,[])=if (dO m.rows (L.getD k 0)).dV=aB/\b.1<(dO m.rows (L.getD k 0)).dW then ((dO m.rows (L.getD k 0)).dW,(dO m.rows (L.getD k 0)).dU) else b):=by
    have:=Yc m.rows hlt (-1,[]);rw[<- Gi.out] at this;exact this
   have hokr:=iE.out _ qI;have HR0:aG ((dO m.rows (L.getD k 0)).dV=aB->0<=(dO m.rows (L.getD k 0)).dW):=fun h=>(hokr.dV h).2.1.1
   generalize L.getD k 0=J at *;have k1:(k:Int)<L.length:=by omega
   have k0:(0:Int)<=k:=by omega
   have J0:(0:Int)<=J:=by omega
   have J1:(J:Int)<m.rows.length:=by omega
   have Sj:aG (Vec X AJ.ga (dO m.rows J).got.length (dO m.rows J).got/\Vec X AJ.ma (dO m.rows J).dU.length (dO m.rows J).dU):=by
    obtain⟨AK,⟨⟨q0,q1,q2,q3⟩,q4,q5,q6,q7⟩,hrk⟩:=HM.out.row Eb.out uG;have t:∀ {x v},X.cell? x=au v->wr.cell? x=au v:=fun h=>gy hb h
    have e2:=bT (d2.symm.trans (t q2));have e7:=bT (d7.symm.trans (t q7));simp only[Value.slice.injEq] at e2 e7;rw[e2.1,e7.1];exact⟨hrk.got,hrk.dU⟩
   have hmg:=hrs.mg;have TG:=dP hkg;clear hokr hrs zM hkg;generalize dO m.rows J=r at *;have hba:=dX wr (aH #[ah aA r.ver,aj AJ.ta r.txt.length AJ.tc,aj AJ.ga r.got.length AJ.gc,aj AJ.sa r.dQ.length AJ.sc,aF r.wed,aF r.dV,ah aA r.dW,aj AJ.ma r.dU.length AJ.mc] 44);have hxr:=Bx.new wr 44 #[ah aA r.ver,aj AJ.ta r.txt.length AJ.tc,aj AJ.ga r.got.length AJ.gc,aj AJ.sa r.dQ.length AJ.sc,aF r.wed,aF r.dV,ah aA r.dW,aj AJ.ma r.dU.length AJ.mc];have mZ:=dP hba;have hrl:wr.heap.size≠X.heap.size+1:=by have:=hxl.lt;omega
   have qK:=dP hxr;have MH:=dP (hxl.below hba);have LO5:=dP (jE.below LO.out hba LO.out.blk);have LB5:=dP (eU LB.out hba);rw[hla];have HLA:=dP hla;clear hlc hba hxr hla hxl hb;go_upto_region 6 with fail
   generalize wr.alloc (aH #[ah aA r.ver,aj AJ.ta r.txt.length AJ.tc,aj AJ.ga r.got.length AJ.gc,aj AJ.sa r.dQ.length AJ.sc,aF r.wed,aF r.dV,ah aA r.dW,aj AJ.ma r.dU.length AJ.mc] 44)=W5 at *;clear d0 d1 d2 d3 d4 d5 d6 d7 nK hlk;obtain⟨⟨_,_,p2,_⟩,_,p5,p6,_⟩:=Bx.r8 qK.out;have z6:=MH.out.at 6 (v:=ah aA b.1) rfl;generalize wr.heap.size=RB at *;by_cases hc:r.dV=aB/\b.1<r.dW
   ·have Pj:aG ((r.dW,r.dU)=best m.rows (L.take (k+1)) (-1,[])):=by rw[aG,Yd.out,if_pos hc]
    obtain⟨hrd,hgt⟩:=hc;have HR1:aG (0<=r.dW):=HR0.out hrd;rw[hrd] at p5;obtain⟨⟨s0,s1,s2,s3⟩,s4,s5,s6,s7⟩:=Bx.r8 qK.out;obtain⟨⟨f0,f1,f2,f3,f4⟩,f5,f6,f7⟩:(W5.frozen? ⟨X.heap.size+1,0,ak⟩=aC/\W5.frozen? ⟨X.heap.size+1,1,ak⟩=aC/\W5.frozen? ⟨X.heap.size+1,2,ak⟩=aC/\W5.frozen? ⟨X.heap.size+1,3,ak⟩=aC/\W5.frozen? ⟨X.heap.size+1,4,ak⟩=aC)/\W5.frozen? ⟨X.heap.size+1,5,ak⟩=aC/\W5.frozen? ⟨X.heap.size+1,6,ak⟩=aC/\W5.frozen? ⟨X.heap.size+1,7,ak⟩=aC:=⟨MH.out.f5,MH.out.f 5,MH.out.f 6,MH.out.f 7⟩;obtain⟨⟨y0,y1,y2,y3⟩,y4,y5,y6,y7⟩:=Bx.r8 MH.out;rw[hrd] at s5;have gt1:r.dW>b.1:=hgt;clear hgt Yd z6 p2 p6 p5;have aL7:aG (Bx ((((((((W5.setCell ⟨X.heap.size+1,0,ak⟩ (ah aA r.ver)).setCell ⟨X.heap.size+1,1,ak⟩ (aj AJ.ta r.txt.length AJ.tc)).setCell ⟨X.heap.size+1,2,ak⟩ (aj AJ.ga r.got.length AJ.gc)).setCell ⟨X.heap.size+1,3,ak⟩ (aj AJ.sa r.dQ.length AJ.sc)).setCell ⟨X.heap.size+1,4,ak⟩ (aF r.wed)).setCell ⟨X.heap.size+1,5,ak⟩ (aF aB)).setCell ⟨X.heap.size+1,6,ak⟩ (ah aA r.dW)).setCell ⟨X.heap.size+1,7,ak⟩ (aj AJ.ma r.dU.length AJ.mc)) RB 44 #[ah aA r.ver,aj AJ.ta r.txt.length AJ.tc,aj AJ.ga r.got.length AJ.gc,aj AJ.sa r.dQ.length AJ.sc,aF r.wed,aF r.dV,ah aA r.dW,aj AJ.ma r.dU.length AJ.mc]):=(((((((qK.out.far hrl _).far hrl _).far hrl _).far hrl _).far hrl _).far hrl _).far hrl _).far hrl _;have Ib:aG (Bx ((((((((W5.setCell ⟨X.heap.size+1,0,ak⟩ (ah aA r.ver)).setCell ⟨X.heap.size+1,1,ak⟩ (aj AJ.ta r.txt.length AJ.tc)).setCell ⟨X.heap.size+1,2,ak⟩ (aj AJ.ga r.got.length AJ.gc)).setCell ⟨X.heap.size+1,3,ak⟩ (aj AJ.sa r.dQ.length AJ.sc)).setCell ⟨X.heap.size+1,4,ak⟩ (aF r.wed)).setCell ⟨X.heap.size+1,5,ak⟩ (aF aB)).setCell ⟨X.heap.size+1,6,ak⟩ (ah aA r.dW)).setCell ⟨X.heap.size+1,7,ak⟩ (aj AJ.ma r.dU.length AJ.mc)) (X.heap.size+1) 44 #[ah aA r.ver,aj AJ.ta r.txt.length AJ.tc,aj AJ.ga r.got.length AJ.gc,aj AJ.sa r.dQ.length AJ.sc,aF r.wed,aF aB,ah aA r.dW,aj AJ.ma r.dU.length AJ.mc]):=am7 MH.out;have Qn:aG (jE ((((((((W5.setCell ⟨X.heap.size+1,0,ak⟩ (ah aA r.ver)).setCell ⟨X.heap.size+1,1,ak⟩ (aj AJ.ta r.txt.length AJ.tc)).setCell ⟨X.heap.size+1,2,ak⟩ (aj AJ.ga r.got.length AJ.gc)).setCell ⟨X.heap.size+1,3,ak⟩ (aj AJ.sa r.dQ.length AJ.sc)).setCell ⟨X.heap.size+1,4,ak⟩ (aF r.wed)).setCell ⟨X.heap.size+1,5,ak⟩ (aF aB)).setCell ⟨X.heap.size+1,6,ak⟩ (ah aA r.dW)).setCell ⟨X.heap.size+1,7,ak⟩ (aj AJ.ma r.dU.length AJ.mc)) 1 gg og (lS m.rows L k).length cg vs):=vU (vU (vU (vU (vU (vU (vU (vU LO5.out LG.out.2 _) LG.out.2 _) LG.out.2 _) LG.out.2 _) LG.out.2 _) LG.out.2 _) LG.out.2 _) LG.out.2 _
    have CY:aG (Below X.heap.size X ((((((((W5.setCell ⟨X.heap.size+1,0,ak⟩ (ah aA r.ver)).setCell ⟨X.heap.size+1,1,ak⟩ (aj AJ.ta r.txt.length AJ.tc)).setCell ⟨X.heap.size+1,2,ak⟩ (aj AJ.ga r.got.length AJ.gc)).setCell ⟨X.heap.size+1,3,ak⟩ (aj AJ.sa r.dQ.length AJ.sc)).setCell ⟨X.heap.size+1,4,ak⟩ (aF r.wed)).setCell ⟨X.heap.size+1,5,ak⟩ (aF aB)).setCell ⟨X.heap.size+1,6,ak⟩ (ah aA r.dW)).setCell ⟨X.heap.size+1,7,ak⟩ (aj AJ.ma r.dU.length AJ.mc))):=by
     have:=Nat.le_succ X.heap.size;exact (((((((LB5.out.setCell (p:=⟨X.heap.size+1,0,ak⟩) this _).setCell (p:=⟨X.heap.size+1,1,ak⟩) this _).setCell (p:=⟨X.heap.size+1,2,ak⟩) this _).setCell (p:=⟨X.heap.size+1,3,ak⟩) this _).setCell (p:=⟨X.heap.size+1,4,ak⟩) this _).setCell (p:=⟨X.heap.size+1,5,ak⟩) this _).setCell (p:=⟨X.heap.size+1,6,ak⟩) this _).setCell (p:=⟨X.heap.size+1,7,ak⟩) this _
    have p2:=(Bx.r8 aL7.out).1.2.2.1;go_upto_region 8 with fail
    clear s0 s1 s2 s3 s4 s5 s6 s7 f0 f1 f2 f3 f4 f5 f6 f7 y0 y1 y2 y3 y4 y5 y6 y7;generalize ((((((((W5.setCell ⟨X.heap.size+1,0,ak⟩ (ah aA r.ver)).setCell ⟨X.heap.size+1,1,ak⟩ (aj AJ.ta r.txt.length AJ.tc)).setCell ⟨X.heap.size+1,2,ak⟩ (aj AJ.ga r.got.length AJ.gc)).setCell ⟨X.heap.size+1,3,ak⟩ (aj AJ.sa r.dQ.length AJ.sc)).setCell ⟨X.heap.size+1,4,ak⟩ (aF r.wed)).setCell ⟨X.heap.size+1,5,ak⟩ (aF aB)).setCell ⟨X.heap.size+1,6,ak⟩ (ah aA r.dW)).setCell ⟨X.heap.size+1,7,ak⟩ (aj AJ.ma r.dU.length AJ.mc))=W6 at *;have hO2:jE (W6.alloc (aH #[aj AJ.ga r.got.length AJ.gc] 41)) 1 gg og (lS m.rows L k).length cg vs:=jE.below Qn.out ((dw _ _).alloc (cO _) _) Qn.out.blk;go_wp2_with (at_builtin;refine iI _ rfl _ _ _ rfl 41 i1 _ 1 24 Tryz.underlying204 hi1 hy0 hy1 hy2 rfl (by omega) gg og (lS m.rows L k).length cg vs rfl hO2 ⟨W6.heap.size,0,ak⟩ 1 1 [aj AJ.ga r.got.length AJ.gc] rfl rfl (World.news_of_block (cs:=#[aj AJ.ga r.got.length AJ.gc]) (t:=41) (fr:=(0,0)) (heap_alloc_new _ _)) (by simp[Value.oneCell']) (by unfold dD;omega) (by omega) ?_;intro g6 o6 c6 w6 CB yY xM)
    have hWs:(W6.alloc (aH #[aj AJ.ga r.got.length AJ.gc] 41)).heap.size=W6.heap.size+1:=by simp
    have TI:=CY.out.size;have Qp:=Ib.out.lt;have hgb:=LG.out
    have NG:aG (X.heap.size<=g6/\g6≠X.heap.size+1):=by
     rcases xM with h|h
     ·rw[h];exact LG.out
     ·rw[h,hWs];exact⟨by omega,by omega⟩
    have NO:=dP CB;have NB:aG (Below X.heap.size X w6):=oq (CY.out.alloc CY.out.size _) yY LG.out.1 (bZ CY.out.size (by simp))
    have Ye:aG (Bx w6 (X.heap.size+1) 44 #[ah aA r.ver,aj AJ.ta r.txt.length AJ.tc,aj AJ.ga r.got.length AJ.gc,aj AJ.sa r.dQ.length AJ.sc,aF r.wed,aF aB,ah aA r.dW,aj AJ.ma r.dU.length AJ.mc]):=(yY.block (X.heap.size+1) (by omega) (by simp;exact fun e=>LG.out.2 e.symm)).trans ((Ib.out.alloc _))
    clear CB yY xM hO2 hWs TI Qp hgb;go_roundw
    case rel=>exact⟨k+1,g6,o6,c6,vs++[aj AJ.ga r.got.length AJ.gc],(r.dW,r.dU),_,_,_,_,_,_,true,by omega,by go_num,by rw[tC.out,bD];rfl,NG.out.1,NG.out.2,by rw[tC.out,bD];exact NO.out,by rw[tC.out];exact LS.out.snoc Sj.out.1 TG.out.1 TG.out.2,Pj.out,⟨(decide_eq_true HR1.out).symm,fun _=>⟨_,_,rfl,Sj.out.2⟩⟩,Ye.out,NB.out⟩
    case measure=>simp[dG];omega
   ·have Pj:aG (b=best m.rows (L.take (k+1)) (-1,[])):=by rw[aG,Yd.out,if_neg hc]
    have Qn:=LO5;have CY:=LB5;have Ib:=MH
    cases hrd:r.dV with
    | false =>
     rw[hrd] at p5;clear hc Yd HR0 hrd;go_upto_region 8 with fail
     clear z6 p5 p6;have hO2:jE (W5.alloc (aH #[aj AJ.ga r.got.length AJ.gc] 41)) 1 gg og (lS m.rows L k).length cg vs:=jE.below Qn.out ((dw _ _).alloc (cO _) _) Qn.out.blk;go_wp2_with (at_builtin;refine iI _ rfl _ _ _ rfl 41 i1 _ 1 24 Tryz.underlying204 hi1 hy0 hy1 hy2 rfl (by omega) gg og (lS m.rows L k).length cg vs rfl hO2 ⟨W5.heap.size,0,ak⟩ 1 1 [aj AJ.ga r.got.length AJ.gc] rfl rfl (World.news_of_block (cs:=#[aj AJ.ga r.got.length AJ.gc]) (t:=41) (fr:=(0,0)) (heap_alloc_new _ _)) (by simp[Value.oneCell']) (by unfold dD;omega) (by omega) ?_;intro g6 o6 c6 w6 CB yY xM)
     have hWs:(W5.alloc (aH #[aj AJ.ga r.got.length AJ.gc] 41)).heap.size=W5.heap.size+1:=by simp
     have TI:=CY.out.size;have Qp:=Ib.out.lt;have hgb:=LG.out
     have NG:aG (X.heap.size<=g6/\g6≠X.heap.size+1):=by
      rcases xM with h|h
      ·rw[h];exact LG.out
      ·rw[h,hWs];exact⟨by omega,by omega⟩
     have NO:=dP CB;have NB:aG (Below X.heap.size X w6):=oq (CY.out.alloc CY.out.size _) yY LG.out.1 (bZ CY.out.size (by simp))
     have Ye:aG (Bx w6 (X.heap.size+1) 44 #[x0,x1,x2,x3,x4,aF rd,ah aA b.1,x7]):=(yY.block (X.heap.size+1) (by omega) (by simp;exact fun e=>LG.out.2 e.symm)).trans ((Ib.out.alloc _))
     clear CB yY xM hO2 hWs TI Qp hgb;go_roundw
     case rel=>exact⟨k+1,g6,o6,c6,vs++[aj AJ.ga r.got.length AJ.gc],b,_,_,_,_,_,_,rd,by omega,by go_num,by rw[tC.out,bD];rfl,NG.out.1,NG.out.2,by rw[tC.out,bD];exact NO.out,by rw[tC.out];exact LS.out.snoc Sj.out.1 TG.out.1 TG.out.2,Pj.out,hLa,Ye.out,NB.out⟩
     case measure=>simp[dG];omega
    | true =>
     rw[hrd] at p5;have gt1:¬ r.dW>b.1:=fun h=>hc ⟨hrd,h⟩
     clear hc Yd HR0 hrd;go_upto_region 8 with fail
     clear z6 p5 p6;have hO2:jE (W5.alloc (aH #[aj AJ.ga r.got.length AJ.gc] 41)) 1 gg og (lS m.rows L k).length cg vs:=jE.below Qn.out ((dw _ _).alloc (cO _) _) Qn.out.blk;go_wp2_with (at_builtin;refine iI _ rfl _ _ _ rfl 41 i1 _ 1 24 Tryz.underlying204 hi1 hy0 hy1 hy2 rfl (by omega) gg og (lS m.rows L k).length cg vs rfl hO2 ⟨W5.heap.size,0,ak⟩ 1 1 [aj AJ.ga r.got.length AJ.gc] rfl rfl (World.news_of_block (cs:=#[aj AJ.ga r.got.length AJ.gc]) (t:=41) (fr:=(0,0)) (heap_alloc_new _ _)) (by simp[Value.oneCell']) (by unfold dD;omega) (by omega) ?_;intro g6 o6 c6 w6 CB yY xM)
     have hWs:(W5.alloc (aH #[aj AJ.ga r.got.length AJ.gc] 41)).heap.size=W5.heap.size+1:=by simp
     have TI:=CY.out.size;have Qp:=Ib.out.lt;have hgb:=LG.out
     have NG:aG (X.heap.size<=g6/\g6≠X.heap.size+1):=by
      rcases xM with h|h
      ·rw[h];exact LG.out
      ·rw[h,hWs];exact⟨by omega,by omega⟩
     have NO:=dP CB;have NB:aG (Below X.heap.size X w6):=oq (CY.out.alloc CY.out.size _) yY LG.out.1 (bZ CY.out.size (by simp))
     have Ye:aG (Bx w6 (X.heap.size+1) 44 #[x0,x1,x2,x3,x4,aF rd,ah aA b.1,x7]):=(yY.block (X.heap.size+1) (by omega) (by simp;exact fun e=>LG.out.2 e.symm)).trans ((Ib.out.alloc _))
     clear CB yY xM hO2 hWs TI Qp hgb;go_roundw
     case rel=>exact⟨k+1,g6,o6,c6,vs++[aj AJ.ga r.got.length AJ.gc],b,_,_,_,_,_,_,rd,by omega,by go_num,by rw[tC.out,bD];rfl,NG.out.1,NG.out.2,by rw[tC.out,bD];exact NO.out,by rw[tC.out];exact LS.out.snoc Sj.out.1 TG.out.1 TG.out.2,Pj.out,hLa,Ye.out,NB.out⟩
     case measure=>simp[dG];omega
  ·have k1:¬ ((k:Int)<L.length):=by omega
   obtain rfl:k=L.length:=by omega
   rw[aG,List.take_length] at Gi;have z5:=hxl.at 5 (v:=aF rd) rfl;have z7:=hxl.at 7 (v:=x7) rfl
   cases rd with
   | true =>
    obtain⟨ta,tc,rfl,hvt⟩:=hLa.out.2 rfl;have h0:0<=b.1:=of_decide_eq_true hLa.out.1.symm;have Gl:aG (endOf m.rows L=b.2):=by rw[aG,endOf,<- Gi,if_neg (by omega)]
    have HVt:=dP (hvt.below LB.out (cO _));clear hxl hvt Gi hLa hb;go_wp2;go_ret
    rw[Gl.out];exact⟨ta,tc,rfl,HVt.out,LB.out⟩
   | false =>
    have h0:¬ 0<=b.1:=of_decide_eq_false hLa.out.1.symm;have Gl:aG (endOf m.rows L=meets m.rows L):=by rw[aG,endOf,<- Gi,if_pos (by omega)]
    have hvv:=LS.out.vv LB.out LO.out;rw[JB m.rows (cO _)] at hvv ⊢;rw[U4] at hvv;have hD:=U3 194 min ai2 (fun _ _=>enters_of Tryz.func194 (by kernel_rfl) rfl _ _) (fun a a' len cap len' cap' xs ys w=>Nw a a' len cap len' cap' xs ys w) (au ⟨gg,og,ak⟩) L.length cg _ wr hvv (by omega) HEv.out
    rw[if_neg (by omega),oW.out] at hD
    clear hxl Gi hLa hb hvv;go_wp2_with (go_at_call 193;refine hD.mono ?_;rintro e w3 ⟨sg,so,sc,rfl,hsg,hOi,hb3⟩)
    have HF:aG (Vec w3 (au ⟨sg,so,ak⟩) (meets m.rows L).length (meets m.rows L)/\Below X.heap.size X w3):=⟨lW (je.2 ⟨_,sc,au sg,rfl,iQ.of hOi,fun b=>Iff.rfl⟩) HFz.out,eU LB.out hb3⟩
    clear hOi hb3 hD;go_wp2;go_ret
    rw[Gl.out];exact⟨_,_,rfl,HF.out⟩
end Go.Proofs.YtafimeakbdmkjaaGreat