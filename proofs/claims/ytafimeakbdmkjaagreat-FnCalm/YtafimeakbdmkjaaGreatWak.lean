/-
  Texts in one.
-/
import Derived.Test.YtafimeakbdmkjaaGreatWaj
import Derived.Test.YtafimeakbdmkjaaGreatWae
import Derived.Test.YtafimeakbdmkjaaGreatWaf
import Derived.Test.YtafimeakbdmkjaaGreatWah
import Derived.Test.YtafimeakbdmkjaaGreatWag
import Derived.Test.YtafimeakbdmkjaaGreatWac
import Derived.Test.YtafimeakbdmkjaaGreatWaa
import Derived.RangeFuncNested
import Derived.RangeFuncBound
import Derived.RangeFuncCalls
import Derived.RangeFuncLeaves
import Derived.RangeFuncBox
import Derived.Maps.AppendAt
import Derived.Shelf.Abstract
import Derived.Shelf.RegionOpen
import Derived.WalkKit
import Derived.OwnWalkIn
import Derived.TacticsInMore
import Derived.LoopNIn
import Derived.LoopIn
import Derived.BigQuiet
import Derived.Deep.RegionHeld3
namespace Go.Proofs.YtafimeakbdmkjaaGreat
open Bool renaming and_eq_true->aU2,false->aC,true->aB
open Go renaming Addr->ba5,Calls->ba3,Value->aJ,World->aI,bodyPost_ret->aY1,maxLen->ba2,wpQuiet_nil->aZ2
open Go.Ending renaming returned->aK
open Go.Exit renaming inBlock->aY3
open Go.IntKind renaming i64->aA
open Go.Obj renaming cells->aH
open Go.Proofs.Tryz renaming prog->aZ8
open Go.RowKit renaming Hid->aG,intOf->ba4
open Go.RowKit.Below renaming refl->aZ5
open Go.Value renaming bool->aF,int->aZ9,int->ah,oneCell'->aX4,pointer->aO,slice->aj
open Go.Value.slice renaming injEq->aU0
open Go.World renaming cell?_of_block->bT,size_alloc->aU1
open List renaming all_eq_true->aU3,append_assoc->aT5,eq_nil_of_length_eq_zero->aT,foldl_append->aT7,getD->ba0,getD_eq_getElem?_getD->aV,getElem?_append_left->aY,getElem?_eq_getElem->bC,getElem_mem->aU7,length_append->dB,length_cons->aU6,length_map->aV7,length_nil->aV8,length_set->aV3,length_take->aU5,mem_cons_self->dD,mem_iff_getElem->bU,nil_append->aW1,prefix_refl->aV1,set_set->aY4,take_length->aV2,take_succ_eq_append_getElem->aS
open Nat renaming add_zero->aY5,le_refl->aZ0,le_trans->aY2,lt_or_ge->aY6,mod_lt->aZ7,zero_le->aZ1
open Option renaming none->ak,some->au
open Option.some renaming inj->aV4
set_option linter.unusedVariables false
set_option linter.unusedSimpArgs false
open Go.RowKit Go.Sort
set_option maxRecDepth 100000
set_option maxHeartbeats 12800000
variable {A X w:aI} {B Bn c g j k n₀ off:Nat} {fp:Fp} {Z cs r x:List Int} {L:List Nat} {vs:List aJ}
structure OkW (m:Mb) (i n:Nat):Prop where
 hid:m.id=(i:Int)
 n5:1<=n/\n<=5
 lt:i<n
 len:m.rows.length=n
 ok:∀ k,k<n->iR (dO m.rows k) n
 fit:nY m
theorem iP.Yx {m: Mb} {i n: Nat} (h:iP m i n):OkW m i n:=⟨h.hid,h.n5,h.lt,h.len,h.ok,h.fit⟩
theorem av5 (w0:aI) (B:Nat) (m:Mb) (i n q:Nat) (fp:Fp) (g off c:Nat) (X:aI) (M:Iw w0 X B m fp g off c) (ok:OkW m i n) (hq:q<=60) :
  ba3 aZ8 174 #[aO (au ⟨B,0,ak⟩),ah aA (q:Int)] X fun e w'=>e=aK (aF (nS m.rows n q))/\Below X.heap.size X w':=by
 have jy:=ok.n5;have c1:=M.rws;rw[ok.len] at c1;have hC:=zN B (au ⟨g,off,ak⟩) n c X c1;obtain⟨e1,e2⟩:=TR jy hq;have hS:=Qy (n:Int) (q:Int) X;have hI:=Qz (n:Int) (q:Int) X;rw[e1] at hS;rw[e2] at hI;obtain⟨z,hz⟩:∃ z:Nat,aG (q%n=z):=⟨_,rfl⟩;obtain⟨y,hy⟩:∃ y:Nat,aG (q/n=y):=⟨_,rfl⟩;have hzn:z<n:=by rw[<- hz.out];exact aZ7 _ (by omega)
 rw[hz.out] at hS;rw[hy.out] at hI;have HM:=dP M;have HLn:=dP ok.len;have iE:=dP ok.ok;have Es:=dP ok.fit;clear e1 e2 M;go_enter Tryz.func174,Tryz.ntmps174
 go_wp2_with (first|(go_at_call 166;refine fV hC ?_)|(go_at_call 91;refine fV hS ?_)|(go_at_call 92;refine fV hI ?_))
 clear hC hS hI c1
 go_loopw [22] (fun v wr=>∃ k:Nat,k<=n/\v=ah aA (k:Int)/\(∀ j,j<k->(y:Int)<el (dO m.rows j).got z)/\Below X.heap.size X wr) (fun v _=>n-(ba4 v).toNat)
 case atStart=>exact⟨0,aZ1 _,rfl,fun j hj=>by omega,aZ5 _ _⟩
 case round =>
  obtain⟨k,hk,rfl,hall,hb⟩:=hrel;have HA:=dP hall;have HB:=dP hb;clear hall;by_cases hlt:k<n
  ·have hkl:k<m.rows.length:=by rw[HLn.out];exact hlt
   obtain⟨Ak,⟨⟨d0,d1,d2,d3⟩,d4,d5,d6,d7⟩,hrs⟩:=(HM.out.step hb).row Es.out hkl;have hgl:=(iE.out k hlt).gl;have k0:(0:Int)<=k:=by omega
   have k1:(k:Int)<n:=by omega
   have jY:aG (¬ ((y:Int)<el (dO m.rows k).got z)->nS m.rows n q=aC):=fun h=>O7 hkl (by rw[hy.out,hz.out];exact h)
   have HY:aG ((y:Int)<el (dO m.rows k).got z->∀ j,j<k+1->(y:Int)<el (dO m.rows j).got z):=fun h1 j hj=>by
    rcases Nat.lt_succ_iff_lt_or_eq.1 hj with h|h
    ·exact HA.out j h
    ·rw[h];exact h1
   generalize dO m.rows k=r at *;have hba:=dX wr (aH #[ah aA r.ver,aj Ak.ta r.txt.length Ak.tc,aj Ak.ga r.got.length Ak.gc,aj Ak.sa r.dQ.length Ak.sc,aF r.wed,aF r.dV,ah aA r.dW,aj Ak.ma r.dU.length Ak.mc] 44);have hxr:=Bx.new wr 44 #[ah aA r.ver,aj Ak.ta r.txt.length Ak.tc,aj Ak.ga r.got.length Ak.gc,aj Ak.sa r.dQ.length Ak.sc,aF r.wed,aF r.dV,ah aA r.dW,aj Ak.ma r.dU.length Ak.mc];have ou:=dP (eP HB.out hba);rcases (hrs.got.below hba (aZ0 _)).2.2 with h0|⟨gb,go,hga,hgc⟩
   ·omega
   have hge:=hgc z (by omega)
   have z0:(0:Int)<=z:=by omega
   have z1:(z:Int)<r.got.length:=by omega
   have qV:=dP hxr;have JI:=dP hga;clear hrs hb hgc hba hxr hga hgl;generalize hxe:el r.got z=x at *;go_upto_region 5 with fail
   generalize wr.alloc (aH #[ah aA r.ver,aj Ak.ta r.txt.length Ak.tc,aj Ak.ga r.got.length Ak.gc,aj Ak.sa r.dQ.length Ak.sc,aF r.wed,aF r.dV,ah aA r.dW,aj Ak.ma r.dU.length Ak.mc] 44)=W5 at *;clear d0 d1 d2 d3 d4 d5 d6 d7;have x2:=qV.out.at 2 (v:=aj Ak.ga r.got.length Ak.gc) rfl;rw[JI.out] at x2;by_cases hxy:(y:Int)<x
   ·have e2:¬ (x<=(y:Int)):=by omega
    have e3:=decide_eq_false e2;have HN:=dP (HY.out hxy);clear HY jY hxy;go_wp2;go_roundw
    case rel=>exact⟨k+1,by omega,by go_num,HN.out,ou.out⟩
    case measure=>simp[ba4];omega
   ·have e2:x<=(y:Int):=by omega
    have e3:=decide_eq_true e2;have HN:=dP (jY.out hxy);clear HY jY hxy;go_wp2;go_ret
    exact⟨dZ (by rw[HN.out]),ou.out⟩
  ·have k1:¬ ((k:Int)<n):=by omega
   obtain rfl:k=n:=by omega
   have HN:aG (nS m.rows k q=aB):=LZ (fun j hj=>by rw[hy.out,hz.out];exact HA.out j (by rw[<- HLn.out];exact hj))
   clear hb;go_wp2;go_ret
   exact⟨dZ (by rw[HN.out]),HB.out⟩
theorem ag7 {m: Mb} {i n q: Nat} (ok:OkW m i n) (h:nS m.rows n q=aB):q<60:=by
 have h5:=ok.n5;have h0:=ok.ok 0 (by omega)
 have hl:=ok.len;rw[nS,aU3] at h;have:=h _ (List.mem_of_getElem? (iZ (R:=m.rows) (k:=0) (by omega)))
 simp only[decide_eq_true_eq] at this;have hm:q%n<n:=aZ7 _ (by omega)
 have hg:=(jG h0.n5 h0.gl).1 ⟨h0.got,h0.g12⟩ (q%n) hm;have hq:q/n<12:=by omega
 have hd:=Nat.div_add_mod q n;have h1:n*(q/n)<=n*11:=Nat.mul_le_mul_left n (by omega)
 omega
theorem av6 (w0:aI) (B:Nat) (m:Mb) (i n:Nat) (fp:Fp) (g off c:Nat) (X:aI) (M:Iw w0 X B m fp g off c) (ok:OkW m i n) (hsl:m.dR.length<=60) :
  ba3 aZ8 146 #[aO (au ⟨B,0,ak⟩)] X fun e w'=>e=aK (.tuple #[])/\Iw w0 w' B { m with dR:=kR m.rows n (60-m.dR.length) m.dR } fp g off c:=by
 have fU:=iq;have kU:=dP M;have iE:=dP ok;clear M;go_enter Tryz.func146,Tryz.ntmps146
 go_wp2_with fail
 go_loopg [] 61 (fun gk wr=>∃ s:List Int,s.length<=60/\60-s.length<gk/\Fits s/\aG (kR m.rows n (60-m.dR.length) m.dR=kR m.rows n (60-s.length) s)/\Iw w0 wr B { m with dR:=s } fp g off c)
 case atStart=>exact⟨m.dR,hsl,by omega,iE.out.fit.2,rfl,kU.out⟩
 case round =>
  obtain⟨s,Oy,hgk,hfs,hS,M⟩:=hrel;have BR:OkW { m with dR:=s } i n:=⟨iE.out.hid,iE.out.n5,iE.out.lt,iE.out.len,iE.out.ok,iE.out.fit.1,hfs⟩
  obtain⟨sa,sc,⟨c0,c1,c2,c3⟩,hms⟩:=M.box BR.fit;simp only at c0 c1 c2 c3
  have HM:=dP M;have FT:∀ q:Bk wr,ba3 aZ8 174 #[aO (au ⟨B,0,ak⟩),ah aA (s.length:Int)] q.w fun e w'=>e=aK (aF (nS m.rows n s.length))/\Below q.w.heap.size q.w w':=fun q=>av5 w0 B { m with dR:=s } i n s.length fp g off c q.w (HM.out.step q.h) BR Oy
  have y2:∀ q:Bk wr,q.w.cell? ⟨B,2,ak⟩=au (aj sa s.length sc):=fun q=>fM q.h c2
  have HLt:aG (nS m.rows n s.length=aB->s.length<60):=fun h=>ag7 iE.out h
  clear M hms c0 c1 c2 c3
  cases hsg:nS m.rows n s.length with
  | false =>
   have HE:aG (kR m.rows n (60-m.dR.length) m.dR=s):=by
    rw[aG,hS.out]
    cases 60-s.length with
    | zero=>rfl
    | succ f=>rw[kR,if_neg (by rw[hsg];decide)]
   rw[hsg] at FT;clear hsg;go_wp2_with fail
   refine jf ?_;repeat (go_big_quiet_step ((first|(go_at_call 174;exact eY _ (FT _))|rfl)))
   refine aZ2 (iI fun wE eH=>?_)
   have O8:=dP (HM.out.step eH);clear FT y2 eH;go_wp2
   first|go_end0|go_ret
   exact⟨rfl,by rw[HE.out];exact O8.out⟩
  | true =>
   have aS9:=HLt.out hsg
   have HE:aG (kR m.rows n (60-m.dR.length) m.dR=kR m.rows n (60-(s++[(s.length:Int)]).length) (s++[(s.length:Int)])):=by
    rw[aG,hS.out,dB,show 60-s.length=(60-(s.length+1))+1 by omega,kR,if_pos hsg]
    rfl
   rw[hsg] at FT;clear hsg HLt;go_upto_region 0 with fail
   refine jf ?_;repeat (go_big_quiet_step ((first|(go_at_call 174;exact eY _ (FT _))|rfl)))
   refine aZ2 (iI fun wE eH=>?_)
   have M1:=HM.out.step eH;obtain⟨u,f,hu,hz,how,hlt,hset⟩:=M1.LD (j:=2) rfl (by decide)
   have hu2:=y2 ⟨wE,eH⟩;simp only at hu2
   obtain rfl:=aV4 (hu.symm.trans hu2);obtain⟨sa',sc',es,hA⟩:=pO (s.length:Int) how (aY2 Oy (by decide))
   cases es
   have hbd:=(Same.drewN wE 1).below;have KS:∀ Z,Below wE.heap.size wE Z->Z.cell? ⟨B,2,ak⟩=au (aj sa s.length sc):=fun Z hZ=>fM hZ hu2
   have hba:=dX wE (aH #[ah aA (s.length:Int)] 2);have KT:=dP hset;clear FT y2 hset hu hz hlt M1 how eH;go_upto_region 1 with fail
   refine lG (S:=fun Z:aI=>Z.cell? ⟨B,2,ak⟩=au (aj sa s.length sc)) 14 fU ((KS _ hbd)) fun hHeld=>?_
   refine fC (i:=0) rfl hHeld ?_;refine fC (i:=1) rfl hHeld ?_;refine fC (i:=2) rfl hHeld ?_;refine fC (i:=3) rfl hHeld ?_;refine fC (i:=4) rfl hHeld ?_;refine fC (i:=5) rfl hHeld ?_;refine fC (i:=6) rfl hHeld ?_;refine fC (i:=7) rfl hHeld ?_;refine fC (i:=8) rfl hHeld ?_;refine fC (i:=9) rfl hHeld ?_;refine iy (i:=10) rfl fun K hK=>?_
   go_simp;refine hK.out _ _ (KS _ (hbd.trans ((dX wE.drew (aH #[ah aA (s.length:Int)] 2)).mono hbd.size))) (fun eG=>?_)
   clear hK hHeld;have hHeld:=eG;try simp only[gW]
   refine iy (i:=11) rfl fun K hK=>?_
   refine jm (by rfl) _ _ _ _ (by rfl) (aj sa s.length sc) _ (by rfl) (by rfl) hA ⟨rfl,rfl,rfl,rfl⟩ ?_
   rintro v9 w1 ⟨a1,e1,f1,rfl,k1,k2,k3⟩;obtain⟨q1,q2,M2⟩:=KT.out w1 (gQ (s++[(s.length:Int)])) (aj a1 (s.length+1) e1) f1 { m with dR:=s++[(s.length:Int)] } rfl rfl k3 k1 k2
   have ji:=dP M2;refine hK.out _ _ q1 (fun eG=>?_)
   clear hK hHeld;have hHeld:=eG;try simp only[gW]
   refine iy (i:=12) rfl fun K hK=>?_
   go_simp;refine hK.out _ _ q1 (fun eG=>?_)
   clear hK hHeld;have hHeld:=eG;try simp only[gW]
   refine iy (i:=13) rfl fun K hK=>?_
   go_simp;refine hK.out _ _ q1 (fun eG=>?_)
   clear hK hHeld;have hHeld:=eG;try simp only[gW]
   refine oH rfl fun K hK=>?_
   go_simp;refine hK.out _ _ ?_;clear hHeld hK M2 k1 k2 k3 hA KT q1 q2 KS hbd hba hu2;generalize w1.setCell ⟨B,2,ak⟩ (aj a1 (s.length+1) e1)=W9 at *;go_wp2
   go_roundg (60-s.length)
   case measure=>omega
   case rel => exact ⟨s ++ [(s.length : Int)],by simp;omega,by simp;omega,fun x hx => by
    rcases List.mem_append.1 hx with h|h
    ·exact hfs x h
    ·rw[List.mem_singleton.1 h];omega,HE.out,ji.out⟩
theorem Iw.aP7 {m: Mb} (h:Iw w X B m fp g off c) {i J: Nat} (hi:i<m.rows.length) (hJ:J<m.rows.length) (hne:J≠i) (hfit:qK (dO m.rows J)):∃ (f:Fp) (A:Ra),iO X g (off+i*8) (jr (dO m.rows i)) f/\B≠g/\¬ f B/\RV X g (off+J*8) A (dO m.rows J)/\(∀ b o,A.sa=au ⟨b,o,ak⟩->(dO m.rows J).dQ≠[]->¬ f b/\b≠g)/\∀ (X1 Y:aI) (r:Rw),Below X.heap.size X X1->fH X1 Y g (off+i*8) (jr r) f->Iw w Y B { m with rows:=m.rows.set i r } fp g off c:=by
 obtain⟨gI,hp,hf1,hgo⟩:=h.iw.next;obtain⟨g',off',c',f,f2,vs2,h1,hgB,hfs,hpl,hpv,hdis,hvl,hput⟩:=hp.elO (F:=jr) jW (by omega) (j:=1) (L:=m.rows) rfl (iZ hi) (iZ hJ) hne
 have e:=aV4 (h1.symm.trans h.rws)
 cases e
 have hfB:¬ f B:=fun hb=>hp.nB (hfs B hb)
 obtain⟨A,rfl,hl⟩:=wQ hpv.own;refine⟨f,A,hpl,fun e=>hgB e.symm,hfB,hpv.rv rfl hfit,fun b o e hn=>?_,fun X1 Y r hb hB=>?_⟩
 ·obtain⟨u1,vU,q1,g1,e1,o1,l2,d1,i1⟩:=hl
  cases e1
  obtain⟨u2,xu,q2,g2,e2,o2,l3,d2,i2⟩:=l2
  cases e2
  obtain⟨u3,EJ,q3,g3,e3,o3,l4,d3,i3⟩:=l3
  cases e3
  have hf2:∀ b,q3 b->f2 b:=fun b hb=>(i1 b).2 (.inr ((i2 b).2 (.inr ((i3 b).2 (.inl hb)))))
  have hlen:0<(dO m.rows J).dQ.length:=by
   rcases Nat.eq_zero_or_pos (dO m.rows J).dQ.length with h|h
   ·exact absurd (aT h) hn
   ·exact h
  obtain⟨g1',Sj,c1',ee,hq,_⟩:=l9 o3 hlen;rw[e] at ee
  cases ee
  exact⟨hdis _ (hf2 _ hq),fun e=>hpv.nB (e ▸ hf2 _ hq)⟩
 ·have hB1:=hB.first hb hpl.lt hpl.flt
  refine⟨hgo Y _ rfl (hput Y r hB1), ?_⟩;rw[bT (hB1.wrt.block B hp.lt (fun kk=>by rcases kk with kk|kk;exact hfB kk;exact hgB kk.symm)),h.rws]
  simp
theorem av7 (w0:aI) (B:Nat) (m:Mb) (i n:Nat) (fp:Fp) (g off c:Nat) (X:aI) (M:Iw w0 X B m fp g off c) (ok:iP m i n) :
  ba3 aZ8 142 #[aO (au ⟨B,0,ak⟩)] X fun e w'=>e=aK (.tuple #[])/\Iw w0 w' B { m with rows:=m.rows.set i (learn m.rows i (dO m.rows i) (fA n (dO m.rows i).dQ)) } fp g off c:=by
 have hil:i<m.rows.length:=by rw[ok.len];exact ok.lt
 have hr:=ok.ok i ok.lt;have jy:=ok.n5;have hL:=KN w0 B m i n fp g off c X M ok;have HM:=dP M;have HLn:aG (∀ k∈fA n (dO m.rows i).dQ,k<n):=fun k hk=>(jd.1 hk).1
 have Jo:=tX n (dO m.rows i).dQ;generalize GH:fA n (dO m.rows i).dQ=L at *;clear GH M;go_enter Tryz.func142,Tryz.ntmps142
 go_wp2_with fail
 refine hL.mono ?_;rintro e wl ⟨la,lc,rfl,fl,hl1,hl2,hl3⟩;obtain⟨jE,f1,f2,_,M5,f4⟩:=HM.out.sub hl3;have yP:=dP f4;have iM:=dP M5;have zl:=dP hl1;have Ea:aG (∀ b,fl b->¬ jE b/\b≠B):=fun b hb=>⟨fun k=>by have:=f1 b k;have:=hl2 b hb;omega,fun k=>by have:=hl2 b hb;omega⟩
 rw[jq] at zl ⊢;clear hl1 hl2 hl3 f1 f2 f4 M5 hL HM;go_wp2_with fail
 go_loopw [8] (fun v wr=>∃ (k:Nat) (ow:Rw),k<=L.length/\v=ah aA (k:Int)/\aG (ow=learn m.rows i (dO m.rows i) (L.take k))/\Iw wl wr B { m with rows:=m.rows.set i ow } jE g off c) (fun v _=>L.length-(ba4 v).toNat)
 case atStart =>
  refine⟨0,dO m.rows i,aZ1 _,rfl,rfl, ?_⟩
  have e:({ m with rows:=m.rows.set i (dO m.rows i) }:Mb)=m:=by
   have:=pK (iZ hil);rw[this]
  rw[e];exact iM.out
 case round =>
  obtain⟨k,ow,hk,rfl,ru,M⟩:=hrel;have HM:=dP M;clear iM;by_cases hlt:k<L.length
  ·have BR:iR ow n:=by rw[ru.out];exact Fa ok.ok hr (fun x hx=>HLn.out x (List.mem_of_mem_take hx))
   have hfm:nY { m with rows:=m.rows.set i ow }:=O1 ok BR
   have qQ:L.getD k 0<n:=HLn.out _ (mW hlt);have uI:L.getD k 0<({ m with rows:=m.rows.set i ow }:Mb).rows.length:=by rw[ni,ok.len];exact qQ
   have uP:i<({ m with rows:=m.rows.set i ow }:Mb).rows.length:=by rw[ni];exact hil
   have SB:=M.SA zl.out Ea.out;have rX:=mV (by rw[jq];exact SB) (xP HLn.out (by omega))
   rcases rX.2.2 with hz|⟨lb,lo,hla,hlc⟩
   ·rw[jq] at hz;omega
   have hlk:=hlc k (by rw[jq];exact hlt)
   rw[wR hlt] at hlk;have LY:aG (learn m.rows i (dO m.rows i) (L.take (k+1))=kZ i ow (L.getD k 0) (dO m.rows (L.getD k 0))):=by rw[aG,Jl hlt,<- ru.out]
   have HRk:aG (L.getD k 0≠i->dO (m.rows.set i ow) (L.getD k 0)=dO m.rows (L.getD k 0)):=fun hne=>by rw[gB hil,if_neg hne]
   generalize L.getD k 0=J at *;have k1:(k:Int)<L.length:=by omega
   have k0:(0:Int)<=k:=by omega
   have J0:(0:Int)<=J:=by omega
   have J1:(J:Int)<m.rows.length:=by rw[ok.len];omega
   have hml:m.rows.length<=5:=by rw[ok.len];exact jy.2
   have oq:=M.rws;rw[ni] at oq;obtain⟨c0,_⟩:=M.id';simp only at c0
   rw[ok.hid] at c0
   have hokr:iR (dO (m.rows.set i ow) J) n:=by
    rw[gB hil]
    split
    ·exact BR
    ·exact ok.ok J qQ
   have hs2:dO (m.rows.set i ow) i=ow:=iW hil;by_cases Bz:J=i
   ·-- itself: nothing
    subst Bz;obtain⟨AJ,⟨⟨d0,d1,d2,d3⟩,d4,d5,d6,d7⟩,_⟩:=M.row hfm uI;simp only at d0 d1 d2 d3 d4 d5 d6 d7
    have HT:aG (ow=learn m.rows J (dO m.rows J) (L.take (k+1))):=by rw[aG,LY.out,kZ,if_pos (.inl rfl)]
    have e1:((J:Int) != (J:Int))=aC:=by simp
    generalize dO (m.rows.set J ow) J=r at *;have hba:=dX wr (aH #[ah aA r.ver,aj AJ.ta r.txt.length AJ.tc,aj AJ.ga r.got.length AJ.gc,aj AJ.sa r.dQ.length AJ.sc,aF r.wed,aF r.dV,ah aA r.dW,aj AJ.ma r.dU.length AJ.mc] 44);have O8:=dP (HM.out.step hba);have b0:=fM hba c0;rw[hla];have HLA:=dP hla;clear M SB rX hlc hba hla hs2 hokr;go_upto_region 4 with fail
    generalize wr.alloc (aH #[ah aA r.ver,aj AJ.ta r.txt.length AJ.tc,aj AJ.ga r.got.length AJ.gc,aj AJ.sa r.dQ.length AJ.sc,aF r.wed,aF r.dV,ah aA r.dW,aj AJ.ma r.dU.length AJ.mc] 44)=W5 at *;clear d0 d1 d2 d3 d4 d5 d6 d7 oq c0 hlk;go_wp2;go_roundw
    case rel=>exact⟨k+1,ow,by omega,by go_num,HT,O8.out⟩
    case measure=>simp[ba4];omega
   obtain⟨f,AJ,hpl,hBg,hfB,Au,hvb,hput⟩:=M.aP7 uP uI Bz hokr.fit;simp only at hpl Au hvb hput
   rw[hs2] at hpl;obtain⟨⟨⟨d0,d1,d2,d3⟩,d4,d5,d6,d7⟩,hrs⟩:=Au;have Jp:=HRk.out Bz;have Xg:=dP Jp;rw[<- Jp] at LY;generalize dO (m.rows.set i ow) J=r at *;have e1:((J:Int) != (i:Int))=aB:=by simp;omega
   have hba:=dX wr (aH #[ah aA r.ver,aj AJ.ta r.txt.length AJ.tc,aj AJ.ga r.got.length AJ.gc,aj AJ.sa r.dQ.length AJ.sc,aF r.wed,aF r.dV,ah aA r.dW,aj AJ.ma r.dU.length AJ.mc] 44);have hxr:=Bx.new wr 44 #[ah aA r.ver,aj AJ.ta r.txt.length AJ.tc,aj AJ.ga r.got.length AJ.gc,aj AJ.sa r.dQ.length AJ.sc,aF r.wed,aF r.dV,ah aA r.dW,aj AJ.ma r.dU.length AJ.mc];have ou:=dP hba;have qV:=dP hxr;have b0:=fM hba c0;have b1:=fM hba oq;have hWd:=av2 B i m.rows.length g off c n ow f r.dQ AJ.sa AJ.sc _ (hpl.below hba) hBg hfB b0 b1 hil (hrs.dQ.below hba (aZ0 _)) hvb BR hokr.dQ (by have:=hokr.sl;have:=hokr.n5;omega)
   have aF5 : ba3 aZ8 169 #[aO (au ⟨B,0,ak⟩),aj AJ.sa r.dQ.length AJ.sc] (wr.alloc (aH #[ah aA r.ver,aj AJ.ta r.txt.length AJ.tc,aj AJ.ga r.got.length AJ.gc,aj AJ.sa r.dQ.length AJ.sc,aF r.wed,aF r.dV,ah aA r.dW,aj AJ.ma r.dU.length AJ.mc] 44)) fun e w' => e = aK (.tuple #[]) /\ Iw wl w' B { m with rows := m.rows.set i { ow with wed := aB,dQ := kP i ow.dQ r.dQ } } jE g off c := hWd.mono (fun e w' h => ⟨h.1,by
    have:=hput _ w' _ hba h.2;simp only[aY4,pW,aV2] at this;exact this⟩)
   have O8:=dP (HM.out.step hba);rw[hla];have HLA:=dP hla;have SC:=dP Bz;clear M SB rX hlc hba hxr hla hpl hput hvb hWd hrs hBg hfB hs2 Jp;go_upto_region 4 with fail
   generalize wr.alloc (aH #[ah aA r.ver,aj AJ.ta r.txt.length AJ.tc,aj AJ.ga r.got.length AJ.gc,aj AJ.sa r.dQ.length AJ.sc,aF r.wed,aF r.dV,ah aA r.dW,aj AJ.ma r.dU.length AJ.mc] 44)=W5 at *;clear d0 d1 d2 d3 d4 d5 d6 d7 oq c0 hlk Bz;obtain⟨⟨x0,x1,x2,x3⟩,x4,x5,x6,x7⟩:=Bx.r8 qV.out;by_cases hws:r.wed=aC/\r.dQ=[]
   ·have HT:aG (ow=learn m.rows i (dO m.rows i) (L.take (k+1))):=by rw[aG,LY.out,kZ,if_pos (.inr hws)]
    rw[hws.1] at x4;have e3:¬ ((0:Int)<r.dQ.length):=by rw[hws.2];simp
    clear hws;go_wp2;go_roundw
    case rel=>exact⟨k+1,ow,by omega,by go_num,HT,O8.out⟩
    case measure=>simp[ba4];omega
   have HT:aG ({ ow with wed:=aB,dQ:=kP i ow.dQ r.dQ }=learn m.rows i (dO m.rows i) (L.take (k+1))):=by rw[aG,LY.out,kZ,if_neg (by rintro (h|h);exact SC.out h;exact hws h)]
   cases hwd:r.wed with
   | true =>
    rw[hwd] at x4;clear hwd hws;go_wp2_with (go_at_call 169;refine aF5.mono ?_;rintro e w9 ⟨rfl,vW⟩;have jK:aG (Iw wl w9 B { m with rows:=m.rows.set i { ow with wed:=aB,dQ:=kP i ow.dQ r.dQ } } jE g off c):=vW;clear vW)
    go_roundw
    case rel=>exact⟨k+1,_,by omega,by go_num,HT,jK.out⟩
    case measure=>simp[ba4];omega
   | false =>
    rw[hwd] at x4
    have e3:(0:Int)<r.dQ.length:=by
     have:r.dQ≠[]:=fun h=>hws ⟨hwd,h⟩
     have:r.dQ.length≠0:=fun h=>this (aT h)
     omega
    clear hwd hws;go_wp2_with (go_at_call 169;refine aF5.mono ?_;rintro e w9 ⟨rfl,vW⟩;have jK:aG (Iw wl w9 B { m with rows:=m.rows.set i { ow with wed:=aB,dQ:=kP i ow.dQ r.dQ } } jE g off c):=vW;clear vW)
    go_roundw
    case rel=>exact⟨k+1,_,by omega,by go_num,HT,jK.out⟩
    case measure=>simp[ba4];omega
  ·have k1:¬ ((k:Int)<L.length):=by omega
   have eo:ow=learn m.rows i (dO m.rows i) L:=by rw[ru.out,show k=L.length by omega,aV2]
   have HF:aG (Iw w0 wr B { m with rows:=m.rows.set i (learn m.rows i (dO m.rows i) L) } fp g off c):=by rw[aG,<- eo];exact yP.out _ _ M
   clear M;go_wp2
   first|go_end0|go_ret
   exact⟨rfl,HF.out⟩
theorem av8 (w0:aI) (B:Nat) (m:Mb) (i n:Nat) (fp:Fp) (g off c:Nat) (X:aI) (M:Iw w0 X B m fp g off c) (ok:OkW m i n) :
  ba3 aZ8 145 #[aO (au ⟨B,0,ak⟩)] X fun e w'=>e=aK (.tuple #[])/\Iw w0 w' B { m with rows:=m.rows.set i { dO m.rows i with got:=kH m.rows (dO m.rows i) n } } fp g off c:=by
 have fU:=iq;have hil:i<m.rows.length:=by rw[ok.len];exact ok.lt
 have jy:=ok.n5;have hr:=ok.ok i ok.lt;obtain⟨c0,_⟩:=M.id';have c1:=M.rws;rw[ok.hid] at c0;have ru:=oK B i m.rows.length g off c X c0 c1 hil;have kU:=dP M;have HLn:=dP ok.len;have Ed:=dP hr.gl;have aT0:=dP ok.ok;have Es:=dP ok.fit;have hml:m.rows.length<=5:=by rw[ok.len];exact jy.2
 have ZV:aG (∀ k,nY ({ m with rows:=m.rows.set i { dO m.rows i with got:=kE m.rows (dO m.rows i) n k } }:Mb)):=fun k=>by
  refine⟨fun x hx=>?_,ok.fit.2⟩
  rcases List.mem_or_eq_of_mem_set hx with h|h
  ·exact ok.fit.1 x h
  ·rw[h]
   refine⟨fun y hy=>?_,hr.fit.2⟩
   have hy':=hy;unfold kE at hy';obtain⟨j,hj,rfl⟩:=List.mem_map.1 hy';have hjn:=List.mem_range.1 hj;have hg:=(jG hr.n5 hr.gl).1 ⟨hr.got,hr.g12⟩ j hjn;have ht:=(ok.ok j hjn).tl
   split
   ·omega
   ·omega
 clear M c0 c1;go_enter Tryz.func145,Tryz.ntmps145
 go_wp2_with fail
 refine ru.mono ?_;rintro e XA ⟨rfl,wz⟩;have M1:=kU.out.step wz;obtain⟨u,f,hu,hz,how,_,_⟩:=M1.at hil (j:=2) rfl;have how':=how;have hgi:0<(dO m.rows i).got.length:=by rw[Ed.out];omega
 obtain⟨gb,go,gc,rfl,_⟩:=l9 how' hgi;have c1:=M1.rws
 have fZ:aG (Iw w0 XA B ({ m with rows:=m.rows.set i { dO m.rows i with got:=kE m.rows (dO m.rows i) n 0 } }:Mb) fp g off c):=by
  rw[aG,MC Ed.out];have:=pK (iZ hil)
  have e:({ m with rows:=m.rows.set i { dO m.rows i with got:=(dO m.rows i).got } }:Mb)=m:=by
   show ({ m with rows:=m.rows.set i (dO m.rows i) }:Mb)=m
   rw[this]
  rw[e];exact M1
 have wW:=dP hu;clear ru wz M1 hz how how' kU;go_wp2_with fail
 clear hu c1;have HSL:aG (∀ k,dO (m.rows.set i { dO m.rows i with got:=kE m.rows (dO m.rows i) n k }) i={ dO m.rows i with got:=kE m.rows (dO m.rows i) n k }):=fun k=>iW hil
 go_loopw [15] (fun v wr=>∃ k:Nat,k<=m.rows.length/\v=ah aA (k:Int)/\Iw w0 wr B ({ m with rows:=m.rows.set i { dO m.rows i with got:=kE m.rows (dO m.rows i) n k } }:Mb) fp g off c/\wr.cell? ⟨g,off+i*8+2,ak⟩=au (aj (au ⟨gb,go,ak⟩) (dO m.rows i).got.length gc)) (fun v _=>m.rows.length-(ba4 v).toNat)
 case atStart=>exact⟨0,aZ1 _,rfl,fZ.out,wW.out⟩
 case round =>
  obtain⟨k,hk,rfl,M,hcg⟩:=hrel;have HM:=dP M;clear fZ wW;by_cases hlt:k<m.rows.length
  ·have hkn:k<n:=by rw[<- HLn.out];exact hlt
   have hkl2:k<(({ m with rows:=m.rows.set i { dO m.rows i with got:=kE m.rows (dO m.rows i) n k } }:Mb)).rows.length:=by rw[ni];exact hlt
   have uP:i<(({ m with rows:=m.rows.set i { dO m.rows i with got:=kE m.rows (dO m.rows i) n k } }:Mb)).rows.length:=by rw[ni];exact hil
   obtain⟨Ak,⟨⟨d0,d1,d2,d3⟩,d4,d5,d6,d7⟩,hrs⟩:=M.row (ZV.out k) hkl2;simp only at d0 d1 d2 d3 d4 d5 d6 d7
   have Tc:aG ((dO (m.rows.set i { dO m.rows i with got:=kE m.rows (dO m.rows i) n k }) k).txt.length=(dO m.rows k).txt.length):=by
    rw[aG,gB hil]
    split
    ·rename_i e;rw[e]
    ·rfl
   generalize hrk:dO (m.rows.set i { dO m.rows i with got:=kE m.rows (dO m.rows i) n k }) k=r at *
   have k0:(0:Int)<=k:=by omega
   have k1:(k:Int)<m.rows.length:=by omega
   have hba:=dX wr (aH #[ah aA r.ver,aj Ak.ta r.txt.length Ak.tc,aj Ak.ga r.got.length Ak.gc,aj Ak.sa r.dQ.length Ak.sc,aF r.wed,aF r.dV,ah aA r.dW,aj Ak.ma r.dU.length Ak.mc] 44);have hxr:=Bx.new wr 44 #[ah aA r.ver,aj Ak.ta r.txt.length Ak.tc,aj Ak.ga r.got.length Ak.gc,aj Ak.sa r.dQ.length Ak.sc,aF r.wed,aF r.dV,ah aA r.dW,aj Ak.ma r.dU.length Ak.mc];have M5:=HM.out.step hba;have iM:=dP M5;have qV:=dP hxr;have HCg:aG ((wr.alloc (aH #[ah aA r.ver,aj Ak.ta r.txt.length Ak.tc,aj Ak.ga r.got.length Ak.gc,aj Ak.sa r.dQ.length Ak.sc,aF r.wed,aF r.dV,ah aA r.dW,aj Ak.ma r.dU.length Ak.mc] 44)).cell? ⟨g,off+i*8+2,ak⟩=au (aj (au ⟨gb,go,ak⟩) (dO m.rows i).got.length gc)):=fM hba hcg;have oq:=M.rws;clear M hrs hba hxr M5 hrk hcg;go_upto_region 4 with fail
   generalize wr.alloc (aH #[ah aA r.ver,aj Ak.ta r.txt.length Ak.tc,aj Ak.ga r.got.length Ak.gc,aj Ak.sa r.dQ.length Ak.sc,aF r.wed,aF r.dV,ah aA r.dW,aj Ak.ma r.dU.length Ak.mc] 44)=W5 at *;clear d0 d1 d2 d3 d4 d5 d6 d7 oq;have GX:k<(kE m.rows (dO m.rows i) n k).length:=by rw[rJ];exact hkn
   obtain⟨u,f,hu,hz,how,_,_⟩:=iM.out.at uP (j:=2) (cl:=gQ (kE m.rows (dO m.rows i) n k)) (by simp only[HSL.out];rfl)
   obtain rfl:=aV4 (hu.symm.trans HCg.out);obtain⟨gb',go',gc',e4,_,hge,_⟩:=l9 how GX;rw[rJ,Ed.out] at e4
   cases e4
   rw[SV hkn,if_neg (Nat.lt_irrefl _)] at hge;have x1:=qV.out.at 1 (v:=aj Ak.ta r.txt.length Ak.tc) rfl;have T:∀ {x v},W5.cell? x=au v->∀ q:Bk W5,q.w.cell? x=au v:=fun h q=>fM q.h h
   have y1:=T x1;have y2:=T hge;have l1:(k:Int)<((dO m.rows i).got.length:Int):=by rw[Ed.out];omega
   have zi:aG ((kE m.rows (dO m.rows i) n k).set k (max (el (dO m.rows i).got k) (r.txt.length:Int))=kE m.rows (dO m.rows i) n (k+1)):=by
    rw[aG,Tc.out];exact MF hkn
   clear T x1 hge hu hz how;generalize el (dO m.rows i).got k=x at *;refine gJ (C:=fun w'=>∃ p:Bk W5,w'=p.w) 11 fU (by kernel_rfl) ⟨⟨W5.drewN 1,fO (aZ5 _ _)⟩,rfl⟩ ?_
   simp only[List.take_succ_cons,List.take_zero]
   repeat (go_big_quiet_step ((first|rfl)))
   refine aZ2 (iI fun wE eH=>?_)
   simp only[List.drop_succ_cons,List.drop_zero]
   have aF6:=fM eH HCg.out;obtain⟨u,f3,hu,hfz,how,hlt3,hset⟩:=(iM.out.step eH).at uP (j:=2) (cl:=gQ (kE m.rows (dO m.rows i) n k)) (by simp only[HSL.out];rfl)
   obtain rfl:=aV4 (hu.symm.trans aF6);obtain⟨gb',go',gc',e4,UZ,hge,hgz,hgs⟩:=l9 how GX;rw[rJ,Ed.out] at e4
   cases e4
   have HFin:aG (∀ y,y=max x (r.txt.length:Int)->Iw w0 (wE.setCell ⟨gb,go+k,ak⟩ (ah aA y)) B ({ m with rows:=m.rows.set i { dO m.rows i with got:=kE m.rows (dO m.rows i) n (k+1) } }:Mb) fp g off c/\(wE.setCell ⟨gb,go+k,ak⟩ (ah aA y)).cell? ⟨g,off+i*8+2,ak⟩=au (aj (au ⟨gb,go,ak⟩) (dO m.rows i).got.length gc)):=fun y hy=>by
    subst hy;obtain⟨q1,q2⟩:=hgs (max x (r.txt.length:Int));obtain⟨p1,_,_,p4⟩:=hset _ (gQ ((kE m.rows (dO m.rows i) n k).set k (max x (r.txt.length:Int)))) _ f3 { dO m.rows i with got:=(kE m.rows (dO m.rows i) n k).set k (max x (r.txt.length:Int)) } (by simp only[HSL.out];rfl) q2 q1 (fun b hb=>.inl hb)
    refine⟨?_,p1⟩;have:=p4 rfl;simp only[aY4] at this;rw[zi.out] at this;exact this
   clear hset hgs how UZ hlt3 y1 y2 hu hfz aF6;go_wp2;generalize hmx:max x (r.txt.length:Int)=mx at *;obtain⟨q1,q2⟩:=HFin.out mx rfl;have tY:aG _:=q1;have Ap:aG _:=q2;go_roundw
   case rel=>exact⟨k+1,by omega,by go_num,tY.out,Ap.out⟩
   case measure=>simp[ba4];omega
  ·have k1:¬ ((k:Int)<m.rows.length):=by omega
   have HF:aG (Iw w0 wr B { m with rows:=m.rows.set i { dO m.rows i with got:=kH m.rows (dO m.rows i) n } } fp g off c):=by
    rw[aG,<- PU,show n=k by rw[<- HLn.out];omega]
    have e:k=n:=by rw[<- HLn.out];omega
    subst e;exact M
   clear M hcg;go_wp2
   first|go_end0|go_ret
   exact⟨rfl,HF.out⟩
theorem JL (w:aI) (g o1 o2:Nat) (u v:aJ) (h:o1≠o2):(w.setCell ⟨g,o1,ak⟩ u).setCell ⟨g,o2,ak⟩ v=(w.setCell ⟨g,o2,ak⟩ v).setCell ⟨g,o1,ak⟩ u:=by
 unfold World.setCell;simp only[World.mk.injEq,and_true,true_and]
 refine Array.ext (by simp) (fun i h1 h2=>?_)
 simp only[Array.getElem_modify,Option.isSome_none,Bool.false_eq_true,if_false]
 by_cases e:g=i
 ·subst e
  simp only[if_true]
  cases w.heap[g]'(by simpa using h1) with
  | cells c t fz =>
   simp only
   rw[Array.setIfInBounds_comm _ _ h]
  | _=>rfl
 ·simp[e]
theorem TS (w0:aI) (B:Nat) (m:Mb) (i n:Nat) (dW:Int) (fp:Fp) (g off c:Nat) (X:aI) (M:Iw w0 X B m fp g off c) (ok:OkW m i n) :
  ba3 aZ8 184 #[aO (au ⟨B,0,ak⟩),ah aA dW] X fun e w'=>e=aK (aF (!(dO m.rows i).dV||decide ((dO m.rows i).dW<dW)))/\Below X.heap.size X w':=by
 have hil:i<m.rows.length:=by rw[ok.len];exact ok.lt
 have qp:aG (∀ Y,Below X.heap.size X Y->ba3 aZ8 140 #[aO (au ⟨B,0,ak⟩)] Y fun e w'=>e=aK (aO (au ⟨g,off+i*8,ak⟩))/\Below Y.heap.size Y w'):=fun Y hY=>by
  have M1:=M.step hY;obtain⟨c0,_⟩:=M1.id';rw[ok.hid] at c0;exact oK B i m.rows.length g off c Y c0 M1.rws hil
 have HC:aG (∀ Y,Below X.heap.size X Y->Y.cell? ⟨g,off+i*8+5,ak⟩=au (aF (dO m.rows i).dV)/\Y.cell? ⟨g,off+i*8+6,ak⟩=au (ah aA (dO m.rows i).dW)):=fun Y hY=>by
  obtain⟨Ak,⟨⟨d0,d1,d2,d3⟩,d4,d5,d6,d7⟩,_⟩:=(M.step hY).row ok.fit hil;exact⟨d5,d6⟩
 have Jh:=qp.out X (aZ5 _ _);clear M;generalize dO m.rows i=r at *
 cases hrd:r.dV with
 | false =>
  go_enter Tryz.func184,Tryz.ntmps184
  go_wp2_with (go_at_call 140;refine Jh.mono ?_;rintro e w1 ⟨rfl,hb1⟩;obtain⟨g5,g6⟩:=HC.out w1 hb1;rw[hrd] at g5;have HB1:aG (Below X.heap.size X w1):=hb1;clear hb1)
  go_ret
  exact⟨by simp,HB1.out⟩
 | true =>
  go_enter Tryz.func184,Tryz.ntmps184
  go_wp2_with fail
  refine Jh.mono ?_;rintro e w1 ⟨rfl,hb1⟩;obtain⟨g5,g6⟩:=HC.out w1 hb1;rw[hrd] at g5;have HB1:=dP hb1;have hO2:=qp.out w1 hb1;clear hb1 Jh;go_wp2_with fail
  refine hO2.mono ?_;rintro e w2 ⟨rfl,hb2⟩;have HB2:=dP (eP HB1.out hb2);clear g5 g6 hb2 hO2;obtain⟨g5,g6⟩:=HC.out w2 HB2.out;go_wp2;go_ret
  exact⟨by simp,HB2.out⟩
theorem TU (w0:aI) (B:Nat) (m:Mb) (i n:Nat) (dW:Int) (T:List Int) (ta:Option ba5) (tc:Nat) (fp:Fp) (g off c:Nat) (X:aI) (M:Iw w0 X B m fp g off c) (ok:OkW m i n) (hv:Vec X ta T.length T) (hT:T.length<=100) :
  ba3 aZ8 185 #[aO (au ⟨B,0,ak⟩),ah aA dW,aj ta T.length tc] X fun e w'=>e=aK (.tuple #[])/\Iw w0 w' B { m with rows:=m.rows.set i { dO m.rows i with dV:=aB,dW:=dW,dU:=T } } fp g off c:=by
 have hil:i<m.rows.length:=by rw[ok.len];exact ok.lt
 obtain⟨c0,_⟩:=M.id';rw[ok.hid] at c0;have ru:=oK B i m.rows.length g off c X c0 M.rws hil;have HM:=dP M;have HV:=dP hv;have rU:aG (T.length<=1000000):=aY2 hT (by decide)
 clear M hv c0;go_enter Tryz.func185,Tryz.ntmps185
 go_wp2_with fail
 refine ru.mono ?_;rintro e XA ⟨rfl,wz⟩;have MV:=CY ta tc T XA (HV.out.below wz (aZ0 _)) rU.out;have Et:=dP (HM.out.step wz);clear ru wz;go_wp2_with fail
 refine MV.mono ?_;rintro e XB ⟨a1,e1,rfl,f1,o1,p1,b1⟩;have hlt1:=eF.lg o1;obtain⟨fx,hpl,hBg,hfB,U0,hgl,_⟩:=Et.out.own hil
 -- Trim first,then Ready and By: one block's cells
 obtain⟨u,f,hu,hz,how,hlt,hset⟩:=Et.out.at hil (j:=7) rfl;obtain⟨_,_,M7,_⟩:=hset XB (gQ T) (aj a1 T.length e1) f1 { dO m.rows i with dU:=T } rfl (eU.of_below b1) o1 (fun b hb=>.inr (p1 b hb))
 have hs7:dO (m.rows.set i { dO m.rows i with dU:=T }) i={ dO m.rows i with dU:=T }:=iW hil
 have U1:i<(m.rows.set i { dO m.rows i with dU:=T }).length:=by rw[aV3];exact hil
 obtain⟨_,_,M5⟩:=M7.put U1 (j:=5) (x:=aF (dO m.rows i).dV) (y:=aF aB) (r':={ dO m.rows i with dU:=T,dV:=aB }) (by simp only[hs7];rfl) (by simp only[hs7];rfl)
 simp only[aY4] at M5;have hs5:dO (m.rows.set i { dO m.rows i with dU:=T,dV:=aB }) i={ dO m.rows i with dU:=T,dV:=aB }:=iW hil
 have aF7:i<(m.rows.set i { dO m.rows i with dU:=T,dV:=aB }).length:=by rw[aV3];exact hil
 obtain⟨_,_,M6⟩:=M5.put aF7 (j:=6) (x:=ah aA (dO m.rows i).dW) (y:=ah aA dW) (r':={ dO m.rows i with dV:=aB,dW:=dW,dU:=T }) (by simp only[hs5];rfl) (by simp only[hs5];rfl)
 simp only[aY4] at M6;rw[JL XB g (off+i*8+7) (off+i*8+5) _ _ (by omega),JL _ g (off+i*8+7) (off+i*8+6) _ _ (by omega)] at M6
 have jX:aG _:=M6;obtain⟨Ak,⟨⟨d0,d1,d2,d3⟩,d4,d5,d6,d7⟩,_⟩:=(Et.out.step b1).row ok.fit hil;obtain⟨⟨j0,j1,j2,j3⟩,j4,j5,j6,j7⟩:=(Et.out.step b1).free hil;clear M7 M5 M6 hset how hu hz hlt MV o1 p1 b1 hpl U0 hlt1 hs7 hs5 U1 aF7;go_wp2
 first|go_end0|go_ret
 exact⟨rfl,jX.out⟩
theorem Nh {α: Type} {p: α->Bool} {L: List α} {d: α} (hk:k<L.length) (h:(L.take k).all p=aB) (h2:p (L.getD k d)=aB):(L.take (k+1)).all p=aB:=by
 rw[aV,bC hk,Option.getD_some] at h2;rw[aS hk,List.all_append,h,Bool.true_and];simp[h2]
theorem TV {α: Type} {p: α->Bool} {L: List α} {d: α} (hk:k<L.length) (h2:p (L.getD k d)=aC):L.all p=aC:=by
 rw[aV,bC hk,Option.getD_some] at h2;exact List.all_eq_false.2 ⟨_,aU7 hk,by simp[h2]⟩
theorem av9 (w0:aI) (B:Nat) (m:Mb) (i n:Nat) (fp:Fp) (g off c:Nat) (X:aI) (M:Iw w0 X B m fp g off c) (ok:OkW m i n) (L:List Nat) (la:Option ba5) (lc:Nat) (hv:Vec X la (lN L).length (lN L)) (hLn:∀ k∈L,k<n) (Jo:L.length<=5) :
  ba3 aZ8 186 #[aO (au ⟨B,0,ak⟩),aj la L.length lc] X fun e w'=>e=aK (aF (kX m.rows (dO m.rows i) L))/\Below X.heap.size X w':=by
 have jy:=ok.n5;have HM:=dP M;have HLn:=dP ok.len;have hml:m.rows.length<=5:=by rw[ok.len];exact jy.2
 have iE:=dP ok.ok;have Es:=dP ok.fit;have QA:aG (i<m.rows.length):=by rw[aG,ok.len];exact ok.lt
 have HL:=dP hLn;have HV:=dP hv
 have qp:aG (∀ Y,Below X.heap.size X Y->ba3 aZ8 140 #[aO (au ⟨B,0,ak⟩)] Y fun e w'=>e=aK (aO (au ⟨g,off+i*8,ak⟩))/\Below Y.heap.size Y w'):=fun Y hY=>by
  have M1:=M.step hY;obtain⟨c0,_⟩:=M1.id';rw[ok.hid] at c0;exact oK B i m.rows.length g off c Y c0 M1.rws QA.out
 clear M hv hLn;go_enter Tryz.func186,Tryz.ntmps186
 go_wp2_with fail
 go_loopw [10] (fun v wr=>∃ k:Nat,k<=L.length/\v=ah aA (k:Int)/\aG ((L.take k).all (fun k=>(dO m.rows k).wed&&(dO m.rows i).dQ.all (fun x=>decide (x∈(dO m.rows k).dQ)))=aB)/\Below X.heap.size X wr) (fun v _=>L.length-(ba4 v).toNat)
 case atStart=>exact⟨0,aZ1 _,rfl,rfl,aZ5 _ _⟩
 case round =>
  obtain⟨k,hk,rfl,HA,hb⟩:=hrel;have HB:=dP hb;by_cases hlt:k<L.length
  ·have qQ:L.getD k 0<n:=HL.out _ (mW hlt)
   have uI:L.getD k 0<m.rows.length:=by rw[HLn.out];exact qQ
   rcases (HV.out.below hb (aZ0 _)).2.2 with hz|⟨lb,lo,hla,hlc⟩
   ·rw[jq] at hz;omega
   have hlk:=hlc k (by rw[jq];exact hlt)
   rw[wR hlt] at hlk;obtain⟨AJ,⟨⟨d0,d1,d2,d3⟩,d4,d5,d6,d7⟩,hrs⟩:=(HM.out.step hb).row Es.out uI;have oq:=(HM.out.step hb).rws;have HT:aG (((dO m.rows (L.getD k 0)).wed&&(dO m.rows i).dQ.all (fun x=>decide (x∈(dO m.rows (L.getD k 0)).dQ)))=aB->(L.take (k+1)).all (fun k=>(dO m.rows k).wed&&(dO m.rows i).dQ.all (fun x=>decide (x∈(dO m.rows k).dQ)))=aB):=fun h=>Nh (d:=0) hlt HA.out h
   have HF:aG (((dO m.rows (L.getD k 0)).wed&&(dO m.rows i).dQ.all (fun x=>decide (x∈(dO m.rows (L.getD k 0)).dQ)))=aC->kX m.rows (dO m.rows i) L=aC):=fun h=>TV (d:=0) hlt h
   have CB:aG ((dO m.rows (L.getD k 0)).dQ.length<=ba2):=by have h:=iE.out _ qQ;have:=h.sl;have:=h.n5;unfold ba2;rw[aG];omega
   have HSo:aG ((dO m.rows i).dQ.length<=ba2):=by have h:=iE.out i (by rw[<- HLn.out];exact QA.out);have:=h.sl;have:=h.n5;unfold ba2;rw[aG];omega
   generalize L.getD k 0=J at *;have k1:(k:Int)<L.length:=by omega
   have k0:(0:Int)<=k:=by omega
   have J0:(0:Int)<=J:=by omega
   have J1:(J:Int)<m.rows.length:=by omega
   generalize dO m.rows J=r at *;have hba:=dX wr (aH #[ah aA r.ver,aj AJ.ta r.txt.length AJ.tc,aj AJ.ga r.got.length AJ.gc,aj AJ.sa r.dQ.length AJ.sc,aF r.wed,aF r.dV,ah aA r.dW,aj AJ.ma r.dU.length AJ.mc] 44);have hxr:=Bx.new wr 44 #[ah aA r.ver,aj AJ.ta r.txt.length AJ.tc,aj AJ.ga r.got.length AJ.gc,aj AJ.sa r.dQ.length AJ.sc,aF r.wed,aF r.dV,ah aA r.dW,aj AJ.ma r.dU.length AJ.mc];have ou:=dP (eP HB.out hba);have qV:=dP hxr;have Yy:=dP (hrs.dQ.below hba (aZ0 _));rw[hla];have HLA:=dP hla;clear hrs hb hlc hba hxr hla;go_upto_region 5 with fail
   generalize wr.alloc (aH #[ah aA r.ver,aj AJ.ta r.txt.length AJ.tc,aj AJ.ga r.got.length AJ.gc,aj AJ.sa r.dQ.length AJ.sc,aF r.wed,aF r.dV,ah aA r.dW,aj AJ.ma r.dU.length AJ.mc] 44)=W5 at *;clear d0 d1 d2 d3 d4 d5 d6 d7 oq hlk;have T:∀ {x v},W5.cell? x=au v->∀ q:Bk W5,q.w.cell? x=au v:=fun h q=>fM q.h h
   have x4:=qV.out.at 4 (v:=aF r.wed) rfl;have p3:=T (qV.out.at 3 (v:=aj AJ.sa r.dQ.length AJ.sc) rfl);obtain⟨Ai,⟨⟨_,_,_,d3⟩,_⟩,zf⟩:=(HM.out.step ou.out).row Es.out QA.out;have q3:=T d3;have CO:=fun q:Bk W5=>qp.out q.w (eP ou.out q.h)
   have CA:=fun q:Bk W5=>(ac1 AJ.sa Ai.sa AJ.sc Ai.sc r.dQ (dO m.rows i).dQ q.w (Yy.out.below q.h (aZ0 _)) (zf.dQ.below q.h (aZ0 _)) CB.out HSo.out).mono (fun e w' h=>(⟨h.1,h.2 ▸ aZ5 _ _⟩:e=aK (aF ((dO m.rows i).dQ.all (fun x=>decide (x∈r.dQ))))/\Below q.w.heap.size q.w w'))
   clear zf d3
   cases hwd:r.wed with
   | false =>
    rw[hwd] at x4;have p4:=T x4;have HN:aG (kX m.rows (dO m.rows i) L=aC):=HF.out (by rw[hwd];rfl)
    clear HT HF T x4 p3 q3 CO CA;go_wp2_with fail
    refine jf ?_;repeat (go_big_quiet_step ((first|rfl)))
    refine aZ2 (iI fun wE eH=>?_)
    have HB1:=dP (eP ou.out eH);clear eH p4;go_wp2;go_ret
    exact⟨by first|(rw[HN.out];done)|(have h:=HN.out;simp only[h];done)|simp[HN.out],HB1.out⟩
   | true =>
    rw[hwd] at x4;have p4:=T x4;rw[hwd] at HT HF
    cases hin:(dO m.rows i).dQ.all (fun x=>decide (x∈r.dQ)) with
    | true =>
     rw[hin] at CA;have HN:aG _:=HT.out (by rw[hin];rfl)
     clear HT HF T x4 hin hwd;go_wp2_with fail
     refine jf ?_;repeat (go_big_quiet_step ((first|(go_at_call 140;exact eY _ (CO _))|(go_at_call 192;exact eY _ (CA _))|rfl)))
     refine aZ2 (iI fun wE eH=>?_)
     have HB1:=dP (eP ou.out eH);clear eH p4 p3 q3 CO CA;go_wp2;go_roundw
     case rel=>exact⟨k+1,by omega,by go_num,HN,HB1.out⟩
     case measure=>simp[ba4];omega
    | false =>
     rw[hin] at CA;have HN:aG (kX m.rows (dO m.rows i) L=aC):=HF.out (by rw[hin];rfl)
     clear HT HF T x4 hin hwd;go_wp2_with fail
     refine jf ?_;repeat (go_big_quiet_step ((first|(go_at_call 140;exact eY _ (CO _))|(go_at_call 192;exact eY _ (CA _))|rfl)))
     refine aZ2 (iI fun wE eH=>?_)
     have HB1:=dP (eP ou.out eH);clear eH p4 p3 q3 CO CA;go_wp2;go_ret
     exact⟨by first|(rw[HN.out];done)|(have h:=HN.out;simp only[h];done)|simp[HN.out],HB1.out⟩
  ·have k1:¬ ((k:Int)<L.length):=by omega
   have HN:aG (kX m.rows (dO m.rows i) L=aB):=by
    have:=HA.out;rw[show k=L.length by omega,aV2] at this
    exact this
   clear HA hb;go_wp2;go_ret
   exact⟨by first|(rw[HN.out];done)|(have h:=HN.out;simp only[h];done)|simp[HN.out],HB.out⟩
theorem aw0 (w0:aI) (B:Nat) (m:Mb) (i n:Nat) (fp:Fp) (g off c:Nat) (X:aI) (M:Iw w0 X B m fp g off c) (ok:OkW m i n) (L:List Nat) (la:Option ba5) (lc:Nat) (hv:Vec X la (lN L).length (lN L)) (hLn:∀ k∈L,k<n) (Jo:L.length<=5) :
  ba3 aZ8 173 #[aO (au ⟨B,0,ak⟩),aj la L.length lc] X fun e w'=>e=aK (aF (ends m.rows i (dO m.rows i) L))/\Below X.heap.size X w':=by
 have jy:=ok.n5;have HM:=dP M;have HLn:=dP ok.len;have hml:m.rows.length<=5:=by rw[ok.len];exact jy.2
 have iE:=dP ok.ok;have Es:=dP ok.fit;have HId:=dP ok.hid;have QA:aG (i<m.rows.length):=by rw[aG,ok.len];exact ok.lt
 have HL:=dP hLn;have HV:=dP hv
 have qp:aG (∀ Y,Below X.heap.size X Y->ba3 aZ8 140 #[aO (au ⟨B,0,ak⟩)] Y fun e w'=>e=aK (aO (au ⟨g,off+i*8,ak⟩))/\Below Y.heap.size Y w'):=fun Y hY=>by
  have M1:=M.step hY;obtain⟨c0,_⟩:=M1.id';rw[ok.hid] at c0;exact oK B i m.rows.length g off c Y c0 M1.rws QA.out
 have hO:=qp.out X (aZ5 _ _);clear M hv hLn;go_enter Tryz.func173,Tryz.ntmps173
 go_wp2_with fail
 refine hO.mono ?_;rintro e XA ⟨rfl,wz⟩;have HXA:=dP wz;clear hO wz;go_wp2_with fail
 go_loopw [13] (fun v wr=>∃ k:Nat,k<=L.length/\v=ah aA (k:Int)/\aG ((L.take k).all (fun k=>(dO m.rows k).dV&&(decide ((dO m.rows k).dW=(dO m.rows i).dW)&&(decide ((dO m.rows k).dU=(dO m.rows i).dU)&&decide ((i:Int)∉(dO m.rows k).dQ))))=aB)/\Below X.heap.size X wr) (fun v _=>L.length-(ba4 v).toNat)
 case atStart=>exact⟨0,aZ1 _,rfl,rfl,HXA.out⟩
 case round =>
  obtain⟨k,hk,rfl,HA,hb⟩:=hrel;have HB:=dP hb;by_cases hlt:k<L.length
  ·have qQ:L.getD k 0<n:=HL.out _ (mW hlt)
   have uI:L.getD k 0<m.rows.length:=by rw[HLn.out];exact qQ
   rcases (HV.out.below hb (aZ0 _)).2.2 with hz|⟨lb,lo,hla,hlc⟩
   ·rw[jq] at hz;omega
   have hlk:=hlc k (by rw[jq];exact hlt)
   rw[wR hlt] at hlk;obtain⟨AJ,⟨⟨d0,d1,d2,d3⟩,d4,d5,d6,d7⟩,hrs⟩:=(HM.out.step hb).row Es.out uI;have oq:=(HM.out.step hb).rws;have HT:aG (((dO m.rows (L.getD k 0)).dV&&(decide ((dO m.rows (L.getD k 0)).dW=(dO m.rows i).dW)&&(decide ((dO m.rows (L.getD k 0)).dU=(dO m.rows i).dU)&&decide ((i:Int)∉(dO m.rows (L.getD k 0)).dQ))))=aB->(L.take (k+1)).all (fun k=>(dO m.rows k).dV&&(decide ((dO m.rows k).dW=(dO m.rows i).dW)&&(decide ((dO m.rows k).dU=(dO m.rows i).dU)&&decide ((i:Int)∉(dO m.rows k).dQ))))=aB):=fun h=>Nh (d:=0) hlt HA.out h
   have HF:aG (((dO m.rows (L.getD k 0)).dV&&(decide ((dO m.rows (L.getD k 0)).dW=(dO m.rows i).dW)&&(decide ((dO m.rows (L.getD k 0)).dU=(dO m.rows i).dU)&&decide ((i:Int)∉(dO m.rows (L.getD k 0)).dQ))))=aC->ends m.rows i (dO m.rows i) L=aC):=fun h=>TV (d:=0) hlt h
   have CB:aG ((dO m.rows (L.getD k 0)).dQ.length<=ba2):=by have h:=iE.out _ qQ;have:=h.sl;have:=h.n5;unfold ba2;rw[aG];omega
   have rU:aG ((dO m.rows (L.getD k 0)).dU.length<=ba2):=by have h:=iE.out _ qQ;have:=h.ml;have:=h.n5;unfold ba2;rw[aG];omega
   have HSo:aG ((dO m.rows i).dQ.length<=ba2):=by have h:=iE.out i (by rw[<- HLn.out];exact QA.out);have:=h.sl;have:=h.n5;unfold ba2;rw[aG];omega
   generalize L.getD k 0=J at *;have k1:(k:Int)<L.length:=by omega
   have k0:(0:Int)<=k:=by omega
   have J0:(0:Int)<=J:=by omega
   have J1:(J:Int)<m.rows.length:=by omega
   generalize dO m.rows J=r at *;have hba:=dX wr (aH #[ah aA r.ver,aj AJ.ta r.txt.length AJ.tc,aj AJ.ga r.got.length AJ.gc,aj AJ.sa r.dQ.length AJ.sc,aF r.wed,aF r.dV,ah aA r.dW,aj AJ.ma r.dU.length AJ.mc] 44);have hxr:=Bx.new wr 44 #[ah aA r.ver,aj AJ.ta r.txt.length AJ.tc,aj AJ.ga r.got.length AJ.gc,aj AJ.sa r.dQ.length AJ.sc,aF r.wed,aF r.dV,ah aA r.dW,aj AJ.ma r.dU.length AJ.mc];have ou:=dP (eP HB.out hba);have qV:=dP hxr;have Yy:=dP (hrs.dQ.below hba (aZ0 _));have HTv:=dP (hrs.dU.below hba (aZ0 _));rw[hla];have HLA:=dP hla;clear hrs hb hlc hba hxr hla;go_upto_region 6 with fail
   generalize wr.alloc (aH #[ah aA r.ver,aj AJ.ta r.txt.length AJ.tc,aj AJ.ga r.got.length AJ.gc,aj AJ.sa r.dQ.length AJ.sc,aF r.wed,aF r.dV,ah aA r.dW,aj AJ.ma r.dU.length AJ.mc] 44)=W5 at *;clear d0 d1 d2 d3 d4 d5 d6 d7 oq hlk;have T:∀ {x v},W5.cell? x=au v->∀ q:Bk W5,q.w.cell? x=au v:=fun h q=>fM q.h h
   have p5:=T (qV.out.at 5 (v:=aF r.dV) rfl);have p6:=T (qV.out.at 6 (v:=ah aA r.dW) rfl);have p7:=T (qV.out.at 7 (v:=aj AJ.ma r.dU.length AJ.mc) rfl);have p3:=T (qV.out.at 3 (v:=aj AJ.sa r.dQ.length AJ.sc) rfl);obtain⟨Ai,⟨⟨_,_,_,_⟩,_,_,d6,d7⟩,zf⟩:=(HM.out.step ou.out).row Es.out QA.out;have q6:=T d6;have q7:=T d7;obtain⟨c0,_⟩:=(HM.out.step ou.out).id';rw[HId.out] at c0;have p0:=T c0;have CE:=fun q:Bk W5=>(yj AJ.ma Ai.ma r.dU.length AJ.mc (dO m.rows i).dU.length Ai.mc r.dU (dO m.rows i).dU q.w (HTv.out.below q.h (aZ0 _)) (zf.dU.below q.h (aZ0 _)) rU.out).mono (fun e w' h=>(⟨h.1,by obtain⟨_,n1,rfl⟩:=h;exact fO (aZ5 _ _)⟩:e=aK (aF (decide (r.dU=(dO m.rows i).dU)))/\Below q.w.heap.size q.w w'))
   have CC:=fun q:Bk W5=>(uh AJ.sa AJ.sc r.dQ (i:Int) q.w (Yy.out.below q.h (aZ0 _)) CB.out).mono (fun e w' h=>(⟨h.1,h.2 ▸ aZ5 _ _⟩:e=aK (aF (decide ((i:Int)∈r.dQ)))/\Below q.w.heap.size q.w w'))
   clear zf d6 d7 c0 T
   cases hrd:r.dV with
   | false =>
    rw[hrd] at p5;have HN:aG (ends m.rows i (dO m.rows i) L=aC):=HF.out (by rw[hrd];rfl)
    clear HT HF hrd;go_wp2_with fail
    refine jf ?_;repeat (go_big_quiet_step ((first|rfl)))
    refine aZ2 (iI fun wE eH=>?_)
    have HB1:=dP (eP ou.out eH);clear eH p5 p6 p7 p3 q6 q7 p0 CE CC;go_wp2;go_ret
    exact⟨by first|(rw[HN.out];done)|(have h:=HN.out;simp only[h];done)|simp[HN.out],HB1.out⟩
   | true =>
    rw[hrd] at p5 HT HF;clear hrd;by_cases hby:r.dW=(dO m.rows i).dW;rotate_left
    ·have e1:(r.dW != (dO m.rows i).dW)=aB:=by simp[hby]
     have HN:aG (ends m.rows i (dO m.rows i) L=aC):=HF.out (by rw[decide_eq_false hby];rfl)
     clear HT HF hby;go_wp2_with fail
     refine jf ?_;repeat (go_big_quiet_step ((first|rfl)))
     refine aZ2 (iI fun wE eH=>?_)
     have HB1:=dP (eP ou.out eH);clear eH p5 p6 p7 p3 q6 q7 p0 CE CC;go_wp2;go_ret
     exact⟨by first|(rw[HN.out];done)|(have h:=HN.out;simp only[h];done)|simp[HN.out],HB1.out⟩
    have e1:(r.dW != (dO m.rows i).dW)=aC:=by simp[hby]
    rw[decide_eq_true hby] at HT HF;clear hby;by_cases OX:r.dU=(dO m.rows i).dU;rotate_left
    ·rw[decide_eq_false OX] at CE
     have HN:aG (ends m.rows i (dO m.rows i) L=aC):=HF.out (by rw[decide_eq_false OX];rfl)
     clear HT HF OX;go_wp2_with fail
     refine jf ?_;repeat (go_big_quiet_step ((first|(go_at_call 176;exact eY _ (CE _))|rfl)))
     refine aZ2 (iI fun wE eH=>?_)
     have HB1:=dP (eP ou.out eH);clear eH p5 p6 p7 p3 q6 q7 p0 CE CC;go_wp2;go_ret
     exact⟨by first|(rw[HN.out];done)|(have h:=HN.out;simp only[h];done)|simp[HN.out],HB1.out⟩
    rw[decide_eq_true OX] at CE HT HF;clear OX;by_cases hin:(i:Int)∈r.dQ
    ·rw[decide_eq_true hin] at CC
     have HN:aG (ends m.rows i (dO m.rows i) L=aC):=HF.out (by rw[decide_eq_false (fun h=>h hin)];rfl)
     clear HT HF hin;go_wp2_with fail
     refine jf ?_;repeat (go_big_quiet_step ((first|(go_at_call 176;exact eY _ (CE _))|(go_at_call 88;exact eY _ (CC _))|rfl)))
     refine aZ2 (iI fun wE eH=>?_)
     have HB1:=dP (eP ou.out eH);clear eH p5 p6 p7 p3 q6 q7 p0 CE CC;go_wp2;go_ret
     exact⟨by first|(rw[HN.out];done)|(have h:=HN.out;simp only[h];done)|simp[HN.out],HB1.out⟩
    rw[decide_eq_false hin] at CC;have HN:aG _:=HT.out (by rw[decide_eq_true hin];rfl)
    clear HT HF hin;go_wp2_with fail
    refine jf ?_;repeat (go_big_quiet_step ((first|(go_at_call 176;exact eY _ (CE _))|(go_at_call 88;exact eY _ (CC _))|rfl)))
    refine aZ2 (iI fun wE eH=>?_)
    have HB1:=dP (eP ou.out eH);clear eH p5 p6 p7 p3 q6 q7 p0 CE CC;go_wp2;go_roundw
    case rel=>exact⟨k+1,by omega,by go_num,HN,HB1.out⟩
    case measure=>simp[ba4];omega
  ·have k1:¬ ((k:Int)<L.length):=by omega
   have HN:aG (ends m.rows i (dO m.rows i) L=aB):=by
    have:=HA.out;rw[show k=L.length by omega,aV2] at this
    exact this
   clear HA hb;go_wp2;go_ret
   exact⟨by first|(rw[HN.out];done)|(have h:=HN.out;simp only[h];done)|simp[HN.out],HB.out⟩
theorem aw1 (w0:aI) (B:Nat) (m:Mb) (i n f:Nat) (fp:Fp) (g off c:Nat) (X:aI) (M:Iw w0 X B m fp g off c) (ok:OkW m i n) (hf:f<n) :
  ba3 aZ8 170 #[aO (au ⟨B,0,ak⟩),ah aA (f:Int)] X fun e w'=>e=aK (.tuple #[])/\Iw w0 w' B { m with rows:=m.rows.set i (adopt m.rows i (dO m.rows i) f) } fp g off c:=by
 have jy:=ok.n5;have hil:i<m.rows.length:=by rw[ok.len];exact ok.lt
 have hfl:f<m.rows.length:=by rw[ok.len];exact hf
 have hml:m.rows.length<=5:=by rw[ok.len];exact jy.2
 obtain⟨AJ,⟨⟨d0,d1,d2,d3⟩,d4,d5,d6,d7⟩,hrs⟩:=M.row ok.fit hfl;have oq:=M.rws;have hokr:=ok.ok f hf;have CB:aG ((dO m.rows f).dQ.length<=ba2):=by have:=hokr.sl;have:=hokr.n5;unfold ba2;rw[aG];omega
 have rU:aG ((dO m.rows f).dU.length<=100):=by have:=hokr.ml;have:=hokr.n5;rw[aG];omega
 have HT:aG ((dO m.rows f).dV=aB/\(dO m.rows f).dW=(f:Int)/\(i:Int)∉(dO m.rows f).dQ/\(!(dO m.rows i).dV||decide ((dO m.rows i).dW<(f:Int)))=true->adopt m.rows i (dO m.rows i) f={ dO m.rows i with dV:=true,dW:=(f:Int),dU:=(dO m.rows f).dU }):=fun h=>by
  rw[adopt,if_pos];refine⟨h.1,h.2.1,h.2.2.1,fun hh=>?_⟩
  have h4:=h.2.2.2;rw[hh.1] at h4;simp at h4
  omega
 have HF:aG (¬ ((dO m.rows f).dV=aB/\(dO m.rows f).dW=(f:Int)/\(i:Int)∉(dO m.rows f).dQ/\(!(dO m.rows i).dV||decide ((dO m.rows i).dW<(f:Int)))=true)->({ m with rows:=m.rows.set i (adopt m.rows i (dO m.rows i) f) }:Mb)=m):=fun h=>by
  rw[adopt,if_neg,pK (iZ hil)];rintro⟨h1,h2,h3,h4⟩;refine h ⟨h1,h2,h3, ?_⟩
  cases hr:(dO m.rows i).dV with
  | false=>rfl
  | true =>
   simp
   by_cases h5:(dO m.rows i).dW<(f:Int)
   ·exact h5
   ·exact absurd ⟨hr,by omega⟩ h4
 have HM:=dP M;have iE:=dP ok;have f0:(0:Int)<=f:=by omega
 have f1:(f:Int)<m.rows.length:=by omega
 clear hokr M ok;generalize dO m.rows f=r at *;have hba:=dX X (aH #[ah aA r.ver,aj AJ.ta r.txt.length AJ.tc,aj AJ.ga r.got.length AJ.gc,aj AJ.sa r.dQ.length AJ.sc,aF r.wed,aF r.dV,ah aA r.dW,aj AJ.ma r.dU.length AJ.mc] 44);have hxr:=Bx.new X 44 #[ah aA r.ver,aj AJ.ta r.txt.length AJ.tc,aj AJ.ga r.got.length AJ.gc,aj AJ.sa r.dQ.length AJ.sc,aF r.wed,aF r.dV,ah aA r.dW,aj AJ.ma r.dU.length AJ.mc];have qV:=dP hxr;have Yy:=dP (hrs.dQ.below hba (aZ0 _));have HTv:=dP (hrs.dU.below hba (aZ0 _));have Et:=dP (HM.out.step hba);clear hrs hba hxr;go_enter Tryz.func170,Tryz.ntmps170
 go_upto_region 2 with fail
 generalize X.alloc (aH #[ah aA r.ver,aj AJ.ta r.txt.length AJ.tc,aj AJ.ga r.got.length AJ.gc,aj AJ.sa r.dQ.length AJ.sc,aF r.wed,aF r.dV,ah aA r.dW,aj AJ.ma r.dU.length AJ.mc] 44)=W5 at *;clear d0 d1 d2 d3 d4 d5 d6 d7 oq;have T:∀ {x v},W5.cell? x=au v->∀ q:Bk W5,q.w.cell? x=au v:=fun h q=>fM q.h h
 have p5:=T (qV.out.at 5 (v:=aF r.dV) rfl);have p6:=T (qV.out.at 6 (v:=ah aA r.dW) rfl);have p7:=T (qV.out.at 7 (v:=aj AJ.ma r.dU.length AJ.mc) rfl);have p3:=T (qV.out.at 3 (v:=aj AJ.sa r.dQ.length AJ.sc) rfl);obtain⟨c0,_⟩:=Et.out.id';rw[iE.out.hid] at c0;have p0:=T c0;have CC:=fun q:Bk W5=>(uh AJ.sa AJ.sc r.dQ (i:Int) q.w (Yy.out.below q.h (aZ0 _)) CB.out).mono (fun e w' h=>(⟨h.1,h.2 ▸ aZ5 _ _⟩:e=aK (aF (decide ((i:Int)∈r.dQ)))/\Below q.w.heap.size q.w w'))
 have CH:=fun q:Bk W5=>TS w0 B m i n (f:Int) fp g off c q.w (Et.out.step q.h) iE.out
 clear c0 T;go_wp2_with fail
 cases hrd:r.dV with
 | false =>
  rw[hrd] at p5;have HN:aG (({ m with rows:=m.rows.set i (adopt m.rows i (dO m.rows i) f) }:Mb)=m):=HF.out (fun h=>by rw[hrd] at h;exact absurd h.1 (by decide))
  clear HT HF hrd;refine jf ?_;repeat (go_big_quiet_step ((first|rfl)))
  refine aZ2 (iI fun wE eH=>?_)
  have HE:aG (Iw w0 wE B { m with rows:=m.rows.set i (adopt m.rows i (dO m.rows i) f) } fp g off c):=by rw[aG,HN.out];exact Et.out.step eH
  clear eH p5 p6 p7 p3 p0 CC CH HN;go_wp2
  first|go_end0|go_ret
  exact⟨rfl,HE.out⟩
 | true =>
  rw[hrd] at p5;by_cases hby:r.dW=(f:Int);rotate_left
  ·have e1:(r.dW==(f:Int))=aC:=by simp[hby]
   have HN:aG (({ m with rows:=m.rows.set i (adopt m.rows i (dO m.rows i) f) }:Mb)=m):=HF.out (fun h=>hby h.2.1)
   clear HT HF hrd hby;refine jf ?_;repeat (go_big_quiet_step ((first|rfl)))
   refine aZ2 (iI fun wE eH=>?_)
   have HE:aG (Iw w0 wE B { m with rows:=m.rows.set i (adopt m.rows i (dO m.rows i) f) } fp g off c):=by rw[aG,HN.out];exact Et.out.step eH
   clear eH p5 p6 p7 p3 p0 CC CH HN;go_wp2
   first|go_end0|go_ret
   exact⟨rfl,HE.out⟩
  have e1:(r.dW==(f:Int))=aB:=by simp[hby]
  by_cases hin:(i:Int)∈r.dQ
  ·rw[decide_eq_true hin] at CC
   have HN:aG (({ m with rows:=m.rows.set i (adopt m.rows i (dO m.rows i) f) }:Mb)=m):=HF.out (fun h=>h.2.2.1 hin)
   clear HT HF hrd hby hin;refine jf ?_;repeat (go_big_quiet_step ((first|(go_at_call 88;exact eY _ (CC _))|rfl)))
   refine aZ2 (iI fun wE eH=>?_)
   have HE:aG (Iw w0 wE B { m with rows:=m.rows.set i (adopt m.rows i (dO m.rows i) f) } fp g off c):=by rw[aG,HN.out];exact Et.out.step eH
   clear eH p5 p6 p7 p3 p0 CC CH HN;go_wp2
   first|go_end0|go_ret
   exact⟨rfl,HE.out⟩
  rw[decide_eq_false hin] at CC
  cases Nj:(!(dO m.rows i).dV||decide ((dO m.rows i).dW<(f:Int))) with
  | false =>
   rw[Nj] at CH;have HN:aG (({ m with rows:=m.rows.set i (adopt m.rows i (dO m.rows i) f) }:Mb)=m):=HF.out (fun h=>by have:=h.2.2.2;rw[Nj] at this;cases this)
   clear HT HF hrd hby hin Nj;refine jf ?_;repeat (go_big_quiet_step ((first|(go_at_call 88;exact eY _ (CC _))|(go_at_call 184;exact eY _ (CH _))|rfl)))
   refine aZ2 (iI fun wE eH=>?_)
   have HE:aG (Iw w0 wE B { m with rows:=m.rows.set i (adopt m.rows i (dO m.rows i) f) } fp g off c):=by rw[aG,HN.out];exact Et.out.step eH
   clear eH p5 p6 p7 p3 p0 CC CH HN;go_wp2
   first|go_end0|go_ret
   exact⟨rfl,HE.out⟩
  | true =>
   rw[Nj] at CH;have HN:aG (adopt m.rows i (dO m.rows i) f={ dO m.rows i with dV:=aB,dW:=(f:Int),dU:=r.dU }):=HT.out ⟨hrd,hby,hin,Nj⟩
   clear HT HF hrd hby hin Nj;refine jf ?_;repeat (go_big_quiet_step ((first|(go_at_call 88;exact eY _ (CC _))|(go_at_call 184;exact eY _ (CH _))|rfl)))
   refine aZ2 (iI fun wE eH=>?_)
   have t7:=p7 ⟨wE,eH⟩;simp only at t7
   have hE:=TU w0 B m i n (f:Int) r.dU AJ.ma AJ.mc fp g off c wE (Et.out.step eH) iE.out (HTv.out.below eH (aZ0 _)) rU.out;rw[<- HN.out] at hE;clear eH p5 p6 p7 p3 p0 CC CH HN;go_wp2_with (go_at_call 185;refine hE.mono ?_;rintro e w9 ⟨rfl,vW⟩;have jK:aG _:=vW;clear vW)
   first|go_end0|go_ret
   exact⟨rfl,jK⟩
section
open Go.RowKit Go.Sort Go.Shelf
attribute [local go_sem] Oper.semAt_some
theorem Rl (cs:List Int) (k:Nat) {i: Nat} (h:i<=j):kL cs k i <+: kL cs k j:=by
  induction j with
  | zero => obtain rfl : i = 0 := by omega
            exact aV1 _
  | succ j ih =>
    rcases aY6 j i with h1|h1
    · obtain rfl:i=j+1:=by omega
      exact aV1 _
    · rw[yG]
      exact (ih h1).trans (List.prefix_append _ _)
theorem Rn (cs:List Int) {i: Nat} (h:i<=j):iC cs i <+: iC cs j:=by
  induction j with
  | zero => obtain rfl : i = 0 := by omega
            exact aV1 _
  | succ j ih =>
    rcases aY6 j i with h1|h1
    · obtain rfl:i=j+1:=by omega
      exact aV1 _
    · rw[qX]
      exact (ih h1).trans (List.prefix_append _ _)
theorem Ro {M: Nat} (hk:k<M) (hj:j<=cs.length):iC cs k++kL cs k j <+: iC cs M:=by
 refine List.IsPrefix.trans ?_ (Rn cs (Nat.succ_le_of_lt hk));rw[qX];exact (List.prefix_append_right_inj _).2 (Rl cs k hj)
def uY (n₀ Bn:Nat) (W W':aI):Prop:=Below n₀ W W'/\W'.heap[Bn]?=W.heap[Bn]?
theorem uY.trans {B C: aI} (h:uY n₀ Bn A B) (k:uY n₀ Bn B C):uY n₀ Bn A C:=⟨h.1.trans k.1,k.2.trans h.2⟩
theorem uY.refl (n₀ Bn:Nat) (W:aI):uY n₀ Bn W W:=⟨aZ5 _ _,rfl⟩
theorem uY.drewN {B: aI} (h:uY n₀ Bn A B) (n:Nat):uY n₀ Bn A (B.drewN n):=⟨fO h.1,h.2⟩
theorem uY.box {B: aI} (h:uY n₀ Bn A B) {v: aJ} (hv:A.cell? ⟨Bn,0,ak⟩=au v):B.cell? ⟨Bn,0,ak⟩=au v:=(bT (w:=A) h.2).trans hv
theorem uY.put (hn:n₀<=w.heap.size) (hB:Bn<w.heap.size) (W:aI) (l:Nat) (o o':Obj) (hl:w.heap.size<=l) (h:W.heap[l]?=au o) (h1:o.isCells=aC) (h2:o.isWalk=aC):uY n₀ Bn W (W.putObj l o') :=
 ⟨belowK_b hn W l o o' hl h h1 h2,World.putObj_heap_other (by omega)⟩
theorem QB {β: Type} {J: β->aI->Prop} (h:AbidesFrom B J) {s: β} {W: aI} (hs:J s W) (n:Nat):J s (W.drewN n) :=
 h s W _ ak hs ⟨rfl,rfl,rfl,aZ0 _,fun _ _ _=>rfl⟩ (fun r e=>by cases e)
theorem ag8 (n:Nat) (hn:1<=n) (l Bn n₀ b off len cap:Nat) (cs:List Int) (hok:lX cs=aB) (hlen:cs.length=len) (hf:Fits cs) (hcap:len<=cap) (hm:cap<=ba2) (hb:b<n₀) (J Jx:List Int->aI->Prop)
  (hY : ∀ pre x W,J pre W -> pre.length < (iC cs (gr cs).toNat).length -> YieldAt Fence.wide (n - 1) aZ8 l #[ah aA x] W fun e W' =>
   (e=aK (aF aB)/\J (pre++[x]) W'/\uY n₀ Bn W W')\/(e=aK (aF aC)/\Jx (pre++[x]) W'))
  (W:aI) (Tm:AbidesFrom W.heap.size J) (hBn:W.cell? ⟨Bn,0,ak⟩=au (aj (au ⟨b,off,ak⟩) len cap)) (hc:∀ i,i<len->W.cell? ⟨b,off+i,ak⟩=au (ah aA (el cs i))) (h0:J [] W) :
  CallsIn Fence.wide n aZ8 135 #[.func (.yield l) #[] #[],aO (au ⟨Bn,0,ak⟩)] W fun e W'=>(∃ v,e=aK v) /\
   ((∃ ys,ys=iC cs (gr cs).toNat/\J ys W')\/(∃ pre,pre <+: iC cs (gr cs).toNat/\Jx pre W')):=by
 obtain⟨hokB,hall⟩:=uf hok;have h18:=mJ hokB;have h1:1<=len:=by omega
 have h8:len<=8:=by omega
 have hG:aG (∀ w,(∀ i,i<len->w.cell? ⟨b,off+i,ak⟩=au (ah aA (el cs i)))->ba3 aZ8 131 #[aj (au ⟨b,off,ak⟩) len cap] w fun e w'=>e=aK (ah aA (gr cs))/\∃ m,w'=w.drewN m) :=
  fun w hcw=>rO b off len cap cs w hlen hf hcw (by omega) hcap hm
 have g0:0<=gr cs:=Int.le_trans (hall 0 (by omega)).1 (am6 (by omega))
 have g1:gr cs<=100000:=(NS (by omega)).2 (fun i hi=>(hall i hi).2)
 obtain⟨M,hM⟩:∃ M:Nat,gr cs=(M:Int):=⟨(gr cs).toNat,by omega⟩
 have hS:aG (∀ (k j:Nat) (w:aI),k<M->j<len->ba3 aZ8 136 #[ah aA len,ah aA j,ah aA k] w fun e w'=>e=aK (ah aA ((len:Int)*(k:Int)+(j:Int)))/\w'=w):=by
  intro k j w hk hj;have:=ag4 (len:Int) (j:Int) (k:Int) ⟨by omega,by omega⟩ w
  rwa [show zU (len:Int) (j:Int) (k:Int)=(len:Int)*(k:Int)+(j:Int) by rw[zU,if_pos (Zm.2 ⟨⟨by omega,by omega⟩,⟨by omega,by omega⟩,by omega,by omega⟩)]] at this
 have eM:(gr cs).toNat=M:=by omega
 rw[eM] at hY ⊢;have HG:=dP hM;have HL:=dP hlen;have HA:aG (∀ i,i<len->0<=el cs i/\el cs i<=100000):=fun i hi=>hall i (by omega)
 have hm1:(M:Int)<=100000:=by omega
 clear eM hlen hall g0 g1 h18 hokB hok;have hG0:=hG.out W hc;rw[HG.out] at hG0;clear hM hG HG;refine callsIn_of_wp Tryz.func135 rfl trivial ?_ rfl;simp only[Tryz.ntmps135,List.size_toArray,aU6,aV8,Nat.reduceAdd,Nat.reduceSub,Array.replicate_succ,Array.replicate_zero,List.push_toArray,List.append_toArray,aW1,List.cons_append]
 gi_wp2_with (refine⟨trivial, ?_⟩;gi_at_call 131;refine (callsIn_wide.2 hG0).mono ?_;rintro e w' ⟨rfl,m,rfl⟩)
 have hK0:uY n₀ Bn W (W.drewN m):=(uY.refl _ _ _).drewN m;have hJ0:J (iC cs 0) (W.drewN m):=QB Tm h0 m;generalize W.drewN m=W1 at *
 gi_loopw [11] (fun i wr=>∃ k:Nat,k<=M/\i=ah aA k/\J (iC cs k) wr/\uY n₀ Bn W wr)
  (fun i _=>M-(ba4 i).toNat)
 case atStart=>exact⟨0,aZ1 _,rfl,hJ0,hK0⟩
 case round =>
  obtain⟨k,hk,rfl,hJs,hnx⟩:=hrel;have hbx:=hnx.box hBn;by_cases hlt:k<M
  ·gi_wp2
   gi_loopw [16] (fun i wr2=>∃ j:Nat,j<=len/\i=ah aA j/\J (iC cs k++kL cs k j) wr2/\uY n₀ Bn W wr2)
    (fun i _=>len-(ba4 i).toNat)
   case atStart=>exact⟨0,aZ1 _,rfl,by simpa[kL] using hJs,hnx⟩
   case round =>
    obtain⟨j,hj,rfl,hJ2,hn2⟩:=hrel;by_cases hjl:j<len
    ·have hcx:=(hn2.1.cell (p:=⟨b,off+j,ak⟩) hb).trans (hc j hjl)
     have hbd:=HA.out j hjl;by_cases hx:(k:Int)<el cs j
     ·have HW:aG (kL cs k (j+1)=kL cs k j++[(len:Int)*(k:Int)+(j:Int)]):=by rw[aG,yG,if_pos hx,HL.out]
      have HP:aG (iC cs k++kL cs k (j+1) <+: iC cs M):=Ro hlt (by rw[HL.out];omega)
      have hS1:=fun w=>hS.out k j w hlt hjl
      obtain ⟨fn,tmps,assign,body,hy,hR⟩ := hY _ ((len : Int) * (k : Int) + (j : Int)) wr hJ2 (by
       have:=HP.out.length_le;rw[HW.out] at this;simp only[dB,aU6,aV8] at this ⊢
       omega)
      generalize (len:Int)*(k:Int)+(j:Int)=x at *
      gi_wp2_with (refine⟨trivial, ?_⟩;gi_at_call 136;refine (callsIn_wide.2 (hS1 _)).mono ?_;rintro e w' ⟨rfl,rfl⟩)
      refine hR.mono ?_;rintro e W3 (⟨rfl,hJ3,hk3⟩|⟨rfl,hJx3⟩)
      ·gi_wp2
       go_roundw
       case rel=>exact⟨j+1,by omega,by go_num,by rw[HW.out,<- aT5];exact hJ3,hn2.trans hk3⟩
       case measure=>simp[ba4];omega
      ·gi_wp2
       refine aY1 (results_none rfl _ _ _) rfl ?_;exact⟨⟨_,rfl⟩,.inr ⟨_,by have:=HP.out;rw[HW.out,<- aT5] at this;exact this,hJx3⟩⟩
     ·have HW:aG (kL cs k (j+1)=kL cs k j):=by rw[aG,yG,if_neg hx,List.append_nil]
      gi_wp2
      refine⟨trivial, ?_⟩
      gi_wp2
      refine⟨fun _ h=>(by cases h), ?_⟩
      gi_wp2
      go_roundw
      case rel=>exact⟨j+1,by omega,by go_num,by rw[HW.out];exact hJ2,hn2⟩
      case measure=>simp[ba4];omega
    ·obtain rfl:j=len:=by omega
     have HW:aG (iC cs (k+1)=iC cs k++kL cs k j):=by rw[aG,qX,HL.out]
     gi_wp2
     go_roundw
     case rel=>exact⟨k+1,by omega,by go_num,by rw[HW.out];exact hJ2,hn2⟩
     case measure=>simp[ba4];omega
  ·obtain rfl:k=M:=by omega
   gi_wp2
   go_end0;exact⟨⟨_,rfl⟩,.inl ⟨_,rfl,hJs⟩⟩
end
section
open Go.RowKit Go.Sort Go.Shelf
attribute [local go_sem] Oper.semAt_some
theorem Vr (a:Option ba5) (len cap:Nat) (w:aI):ba3 aZ8 104 #[aj a len cap] w fun e w'=>e=aK (.func (.func 135) #[] #[aO (au ⟨w.heap.size,0,ak⟩)])/\w'=w.alloc (aH #[aj a len cap] 166):=by
 go_enter Tryz.func104,Tryz.ntmps104
 go_wp2;go_ret
 exact⟨rfl,rfl⟩
theorem Vs (n:Nat) (hn:1<=n) (Bn n₀ b off len cap:Nat) (cs:List Int) (hok:lX cs=aB) (hlen:cs.length=len) (hf:Fits cs) (hcap:len<=cap) (hm:cap<=ba2) (hb:b<n₀) (w:aI) (hBn:Bn<w.heap.size) (hn₀:n₀<=w.heap.size)
  (hc:w.cell? ⟨Bn,0,ak⟩=au (aj (au ⟨b,off,ak⟩) len cap)) (hcs:∀ i,i<len->w.cell? ⟨b,off+i,ak⟩=au (ah aA (el cs i))) :
  SeqStopsK Fence.wide n aZ8 135 #[aO (au ⟨Bn,0,ak⟩)] (fun x:Int=>#[aZ9 aA x]) (uY n₀ Bn) (fun ys=>ys=iC cs (gr cs).toNat) (fun pre=>pre <+: iC cs (gr cs).toNat) (iC cs (gr cs).toNat).length w:=fun l J Jx W hW hJ _ hY h0 =>
 ag8 n hn l Bn n₀ b off len cap cs hok hlen hf hcap hm hb J Jx hY W hJ ((hW.cell (p:=⟨Bn,0,ak⟩) hBn).trans hc) (fun i hi=>(hW.cell (p:=⟨b,off+i,ak⟩) (by show b<_;omega)).trans (hcs i hi)) h0
theorem aw2 (cs:List Int) (M:Nat):∀ j,yV cs M j<=j*M:=by
 intro j
 induction j with
 | zero=>simp[yV]
 | succ j ih=>rw[yH,Nat.succ_mul];omega
theorem ag9 (hok:lX cs=aB):(iC cs (gr cs).toNat).length<=800000:=by
 obtain⟨hokB,hall⟩:=uf hok;have h18:=mJ hokB;have g1:gr cs<=100000:=(NS (by omega)).2 (fun i hi=>(hall i hi).2)
 rw[Ox];refine aY2 (aw2 _ _ _) ?_;exact Nat.mul_le_mul (by omega:cs.length<=8) (by omega:(gr cs).toNat<=100000)
theorem ah0 (hok:lX cs=aB):FY cs (iC cs (gr cs).toNat):=by
 obtain⟨hokB,hall⟩:=uf hok;have h18:=mJ hokB;refine RU (by omega) (fun i hi=>?_)
 have:=am6 hi;omega
end
section
open Go.RowKit Go.Sort Go.Shelf
attribute [local go_sem] Oper.semAt_some
theorem appendSeq_in (g Bn n₀ b off len cap:Nat) (cs:List Int) (w:aI) (hok:lX cs=aB) (hlen:cs.length=len) (hf:Fits cs) (hcap:len<=cap) (hm:cap<=ba2) (hb:b<n₀) (hn₀:n₀<=w.heap.size)
  (hcs:∀ i,i<len->w.cell? ⟨b,off+i,ak⟩=au (ah aA (el cs i))) (hbN:Boxed w Bn 166 (aj (au ⟨b,off,ak⟩) len cap)) (hrow:w.ownsRow n₀ 2 1 (aj (au ⟨g,0,ak⟩) 0 0) 0 []) :
  ba3 aZ8 103 #[aj (au ⟨g,0,ak⟩) 0 0,.func (.func 135) #[] #[aO (au ⟨Bn,0,ak⟩)]] w fun e W' => (∃ g' c,e = aK (aj (au ⟨g',0,ak⟩) (iC cs (gr cs).toNat).length c) /\
   W'.ownsRow n₀ 2 1 (aj (au ⟨g',0,ak⟩) (iC cs (gr cs).toNat).length c) (iC cs (gr cs).toNat).length ((iC cs (gr cs).toNat).map (aZ9 aA)))/\Below n₀ w W':=by
 obtain⟨i0,hi0,hz0,hz1,hz2⟩:=ku Tryz.info2n;have hN:=ag9 hok;have HL:=dP hlen;clear hlen;refine (callsIn_wide (n:=3)).1 ?_;refine callsIn_of_wp_marks Tryz.func103 rfl trivial ?_ rfl;simp only[Tryz.ntmps103,List.size_toArray,aU6,aV8,Nat.reduceAdd,Nat.reduceSub,Array.replicate_succ,Array.replicate_zero,List.push_toArray,List.append_toArray,aW1,List.cons_append]
 gi_wp2
 have bS:=Boxed.new w 41 (aj (au ⟨g,0,ak⟩) 0 0);have hB1:Below n₀ w (w.alloc (aH #[aj (au ⟨g,0,ak⟩) 0 0] 41)):=(aZ5 _ w).alloc hn₀ _;have aT1:=hbN.lt
 refine wpIn_rangeFunc_ownG rfl (by omega) (gf:=135) (lb:=#[aO (au ⟨Bn,0,ak⟩)]) rfl trivial (enters_of Tryz.func135 (by kernel_rfl) rfl)
  (Vs 2 (by omega) Bn n₀ b off len cap cs hok HL.out hf hcap hm hb _ (by simp;omega) (by simp;omega) (hbN.alloc _).cell (fun i hi=>(hB1.cell (p:=⟨b,off+i,ak⟩) hb).trans (hcs i hi))) uY.trans (uY.put (by simp;omega) (by simp;omega)) (aZ5 _ _) (fun _=>rfl)
  (fun pre W=>((∃ v,Boxed W w.heap.size 41 v/\W.ownsRow n₀ 2 1 v pre.length (pre.map (aZ9 aA))/\∃ g c,v=aj (au ⟨g,0,ak⟩) pre.length c)/\Boxed W Bn 166 (aj (au ⟨b,off,ak⟩) len cap))/\Below n₀ w W)
  (fun _ _ _=>False)
  (OwnFrom.and (OwnFrom.and (Own.from (holdsRow_own n₀ w.heap.size 41 2 1 (fun pre:List Int=>pre.length) (fun pre=>pre.map (aZ9 aA)) (fun pre v=>∃ g c,v=aj (au ⟨g,0,ak⟩) pre.length c)) _) (Own.from (boxed_own Bn 166 (fun _=>aj (au ⟨b,off,ak⟩) len cap)) _)) (ownFrom_below hn₀ (by simp;omega)))
  (fun _ _ _ _ _ hs _ _=>hs)
  ⟨⟨⟨_,bS,hrow.alloc _,g,0,rfl⟩,hbN.alloc _⟩,hB1⟩
  (fun x=>{ tmps:=#[aj (au ⟨g,0,ak⟩) 0 0,.func (.func 135) #[] #[aO (au ⟨Bn,0,ak⟩)],aO (au ⟨w.heap.size,0,ak⟩),undef,aj ak 0 0,ah aA x,.func (.func 135) #[] #[aO (au ⟨Bn,0,ak⟩)],ah aA x,undef,undef,undef,undef,undef],defers:=[] }) ?assign ?body ?done ?stop
 case assign =>
  intro l x W K hK
  gi_wp2
  exact hK
 case body =>
  rintro l pre x W ⟨⟨⟨v,hv,hrw,g1,c1,rfl⟩,hbn⟩,hB⟩ hlt;have hc:=hv.cell;have hpl:pre.length<800000:=by omega
  have hml:pre.length+1<=ba2:=by unfold ba2;omega
  have hsz:=hB.size
  gi_wp2_with (gi_at_builtin;refine wpListIn_append_own _ rfl _ _ 41 rfl n₀ 2 i0 (ah aA 0) 1 8 Tryz.underlying41 hi0 hz0 hz1 hz2 rfl (by decide) _ _ _ rfl (hrw.alloc _) ⟨W.heap.size,0,ak⟩ 1 1 [ah aA x] rfl rfl (cell_one_new _ _ _) (by simp[aX4]) (by omega) (by omega) (by simp;omega) ?_;intro v' w1 hown' hgrow _;obtain⟨g',cap',rfl⟩:=ownsRow_succ hown';obtain⟨hv1,hv2,hr2,hk2,hb2⟩:=hv.appended (by decide) hrw (aY2 hn₀ hsz) hn₀ hown' hgrow;have hc1:=hv1.cell;have hf1:=hv1.frozen)
  have aF8:=((hbn.alloc _).kept hgrow (hbn.not_row (by decide) hrw)).other (B':=w.heap.size) (by omega) (aj (au ⟨g',0,ak⟩) (pre.length+1) cap')
  exact⟨hk2.from _,⟨hb2,aF8.trans (show W.heap[Bn]?=_ from hbn).symm⟩,⟨⟨_,hv2,by simpa using hr2,g',cap',by simp⟩,aF8⟩,hB.trans hb2⟩
 case done =>
  rintro D ys W hD rfl ⟨⟨⟨v,hv,hrw,g1,c1,rfl⟩,hbn⟩,hB⟩ hK;have hc:=hv.cell
  gi_wp2
  refine⟨by simp,.inl ⟨_,_,rfl,run_takeDeferred hK, ?_⟩⟩
  exact⟨_,results_tmp rfl _ _ _,⟨g1,c1,rfl,ownsRow_putObj hrw _ hK rfl⟩,hB.trans (belowK_b (w:=w) hn₀ W D _ _ (by simp at hD;omega) hK rfl rfl)⟩
 case stop =>
  rintro D c pre W _ _ h _;exact h.elim
theorem Yz:Yu:=by
 intro a len cap cs w hv hcap hm
 have hAr:ba3 aZ8 101 #[aj a len cap] w fun e w'=>e=aK (aF (lX cs))/\Below w.heap.size w w' :=
  (NJ _ len cap cs w hv hcap hm).mono (fun e w' ⟨he,n,hw⟩=>⟨he,hw ▸ fO (aZ5 _ _)⟩)
 have hSm:aG (∀ w1,Below w.heap.size w w1->ba3 aZ8 102 #[aj a len cap] w1 fun e w'=>e=aK (ah aA (NW cs))/\Below w.heap.size w w') :=
  fun w1 h1=>(QZ a len cap cs w1 (hv.below h1 (aZ0 _)) hcap hm).mono (fun e w' ⟨he,n,hw⟩=>⟨he,hw ▸ fO h1⟩)
 cases hb:lX cs with
 | false =>
  rw[hb] at hAr;have HZ:aG (vZ cs []):=.inr ⟨.inl hb,rfl⟩;clear hb hSm;go_enter Tryz.func58,Tryz.ntmps58
  go_wp2_with (go_at_call 101;refine hAr.mono ?_;rintro e w1 ⟨rfl,hB1⟩)
  go_ret
  exact⟨[],HZ.out,_,0,0,rfl,hB1.size,oG _ 2,hB1.alloc hB1.size _⟩
 | true =>
  rw[hb] at hAr;obtain⟨hok,hall⟩:=uf hb;have hsb:NW cs=pX cs:=by rw[NW,if_pos hok]
  rw[hsb] at hSm;by_cases Dx:(200:Int)<pX cs
  ·have HZ:aG (vZ cs []):=.inr ⟨.inr Dx,rfl⟩
   clear hb hsb hall hok;generalize pX cs=z at *;go_enter Tryz.func58,Tryz.ntmps58
   go_wp2_with (first|(go_at_call 101;refine hAr.mono ?_;rintro e w1 ⟨rfl,hB1⟩)|(go_at_call 102;refine (hSm.out _ hB1).mono ?_;rintro e w2 ⟨rfl,hB2⟩))
   go_ret
   exact⟨[],HZ.out,_,0,0,rfl,hB2.size,oG _ 2,hB2.alloc hB2.size _⟩
  ·have h18:=mJ hok
   have hl:=hv.1;have hf:Fits cs:=hv.2.1;obtain⟨b,off,rfl,hc⟩:=hv.cells (by omega)
   have hbl:b<w.heap.size:=World.block_lt_of_cell? _ _ (hc 0 (by omega))
   have HZ:aG (vZ cs (iC cs (gr cs).toNat)):=.inl ⟨hb,by omega,ah0 hb⟩
   have hW:aG (∀ w2,Below w.heap.size w w2->ba3 aZ8 103 #[aj (au ⟨w2.heap.size,0,ak⟩) 0 0,.func (.func 135) #[] #[aO (au ⟨w2.heap.size+1,0,ak⟩)]] ((w2.alloc (aH #[] 2)).alloc (aH #[aj (au ⟨b,off,ak⟩) len cap] 166)) fun e w'=>Hr w w' e (iC cs (gr cs).toNat)):=by
    intro w2 h2;have hs2:=h2.size;have hB3:Below w.heap.size w ((w2.alloc (aH #[] 2)).alloc (aH #[aj (au ⟨b,off,ak⟩) len cap] 166)):=(h2.alloc hs2 _).alloc (by simp;omega) _
    have bN:=Boxed.new (w2.alloc (aH #[] 2)) 166 (aj (au ⟨b,off,ak⟩) len cap);rw[aU1] at bN;refine (appendSeq_in w2.heap.size (w2.heap.size+1) w.heap.size b off len cap cs _ hb hl hf hcap hm hbl (by simp;omega) (fun i hi=>(hB3.cell (p:=⟨b,off+i,ak⟩) hbl).trans (hc i hi)) bN ((World.ownsRow_made w2 #[] 0 hs2 (aZ1 _) rfl).alloc _)).mono ?_
    rintro e W' ⟨⟨g,c,rfl,ho⟩,hB⟩;obtain⟨g2,c2,hv2,hg2,ho2⟩:=jk.uy ho (by simp)
    cases hv2
    exact⟨g,0,c,rfl,hg2,ho2,hB3.trans hB⟩
   have hd:decide ((200:Int)<pX cs)=aC:=by simpa using Dx
   clear hb hsb hall hok hc h18 hl Dx hv hf;generalize iC cs (gr cs).toNat=Z at *;generalize pX cs=z at *;go_enter Tryz.func58,Tryz.ntmps58
   go_wp2_with (first|(go_at_call 101;refine hAr.mono ?_;rintro e w1 ⟨rfl,hB1⟩)|(go_at_call 102;refine (hSm.out _ hB1).mono ?_;rintro e w2 ⟨rfl,hB2⟩)|(go_at_call 104;refine (Vr _ _ _ _).mono ?_;rintro e w3 ⟨rfl,rfl⟩)|(go_at_call 103;refine (hW.out _ hB2).mono ?_;rintro e w4 ⟨g,og,c,rfl,hg,ho,hB4⟩))
   go_ret
   exact⟨_,HZ.out,g,og,c,rfl,hg,ho,hB4⟩
end
theorem QC:∀ {L:List Int} {x:Int},(∀ y∈L,y<x)->gY L x=L++[x]
 | [],x,_=>rfl
 | y::L,x,h=>by
  rw[gY,if_pos (h y dD),QC (fun z hz=>h z (List.mem_cons_of_mem _ hz))]
  rfl
theorem NK (hr:Z.Pairwise (·<·)) (hj:j<Z.length) {y: Int} (hy:y∈Z.take j):y<el Z j:=by
 obtain⟨k,hk,rfl⟩:=bU.1 hy;rw[aU5] at hk;rw[List.getElem_take];have:el Z j=Z[j]:=by simp[el,hj]
 rw[this];exact (List.pairwise_iff_getElem.1 hr) k j (by omega) hj (by omega)
theorem YA {s: List Int} (hs:∀ q,q<s.length->el s q=(q:Int)) (hr:Z.Pairwise (·<·)) (h0:∀ x∈Z,0<=x) (hj:j<Z.length) (hn:el Z j∉jF s Z j):gY (jF s Z j) (el Z j)=jF s Z j++[el Z j]:=by
 refine QC (fun y hy=>?_)
 rcases tH.1 hy with h|h
 ·obtain⟨q,hq,rfl⟩:=(Dq hs).1 h
  have hx:=h0 _ (kM hj);rcases Int.lt_or_le (q:Int) (el Z j) with h1|h1
  ·exact h1
  ·refine absurd (tH.2 (.inl ((Dq hs).2 ⟨(el Z j).toNat,by omega,by omega⟩))) hn
 ·exact NK hr hj h
theorem TW {R: List Rw} {id: Nat} {o: Rw} (h:ends R id o L=aB) (hk:k∈L):(dO R k).dV=aB:=by
 rw[ends,aU3] at h;have:=h k hk;simp only[aU2] at this;exact this.1
theorem ah1 {T: List Int} {n: Nat} (hn:1<=n/\n<=5) (hl:T.length=n) (h12:∀ j,j<n->0<=el T j/\el T j<=12) (h:vZ T Z):Z=iC T 12:=by
 refine h.unique (.inl ⟨?_, ?_,RU (by omega) (fun i hi=>by have:=h12 i (by omega);omega)⟩)
 ·obtain⟨h1,h2⟩:=(jG hn hl).2 h12
  simp only[lX,aU2,aU3,decide_eq_true_eq]
  exact⟨h1,fun x hx=>by have:=h2 x hx;omega⟩
 ·have h1:=UM (cs:=T) (M:=12) (fun i hi=>h12 i (by omega))
  have h2:=Gh T 12;omega
theorem Iw.aF9 {m: Mb} (h:Iw w X B m fp g off c) (hf:nY m) (hk:k<m.rows.length):∃ Ak:Ra,C8 X g (off+k*8) (ah aA (dO m.rows k).ver) (aj Ak.ta (dO m.rows k).txt.length Ak.tc) (aj Ak.ga (dO m.rows k).got.length Ak.gc) (aj Ak.sa (dO m.rows k).dQ.length Ak.sc) (aF (dO m.rows k).wed) (aF (dO m.rows k).dV) (ah aA (dO m.rows k).dW) (aj Ak.ma (dO m.rows k).dU.length Ak.mc)/\qJ X Ak (dO m.rows k)/\((dO m.rows k).got.length<=Ak.gc/\Ak.gc<=ba2)/\((dO m.rows k).dU.length<=Ak.mc/\Ak.mc<=ba2):=by
 obtain⟨Ak,h8,hs⟩:=h.row hf hk;obtain⟨f1,f2,f3⟩:=hf.1 _ (oM hk);obtain⟨⟨q0,q1,q2,q3⟩,q4,q5,q6,q7⟩:=h8;refine⟨Ak,⟨⟨q0,q1,q2,q3⟩,q4,q5,q6,q7⟩,hs, ?_, ?_⟩
 ·obtain⟨u,f,hu,_,how,_⟩:=h.at hk (j:=2) rfl
  obtain⟨a,cc,e,_,h1,h2⟩:=nI (eF.xZ how) f1;have:=aV4 (q2.symm.trans (hu.trans (by rw[e])))
  simp only[aU0] at this;rw[this.2.2];exact⟨h1,h2⟩
 ·obtain⟨u,f,hu,_,how,_⟩:=h.at hk (j:=7) rfl
  obtain⟨a,cc,e,_,h1,h2⟩:=nI (eF.xZ how) f3;have:=aV4 (q7.symm.trans (hu.trans (by rw[e])))
  simp only[aU0] at this;rw[this.2.2];exact⟨h1,h2⟩
def QD (m:Mb) (i n:Nat):Mb:=if n<2*(fA n (dO m.rows i).dQ).length/\ends m.rows i (dO m.rows i) (fA n (dO m.rows i).dQ)=aB then { m with dR:=jO m.dR (dO m.rows i).dU,done:=aB } else m
theorem aw3 (w0:aI) (B:Nat) (m:Mb) (i n:Nat) (fp:Fp) (g off c:Nat) (X:aI) (M:Iw w0 X B m fp g off c) (ok:iP m i n) (hd:m.done=aC) :
  ba3 aZ8 144 #[aO (au ⟨B,0,ak⟩)] X fun e w'=>e=aK (.tuple #[])/\Iw w0 w' B (QD m i n) fp g off c:=by
 have hil:i<m.rows.length:=by rw[ok.len];exact ok.lt
 have hr:=ok.ok i ok.lt;have jy:=ok.n5;have hL:=KN w0 B m i n fp g off c X M ok;have kU:=dP M;have HLn:aG (∀ k∈fA n (dO m.rows i).dQ,k<n):=fun k hk=>(jd.1 hk).1
 have HLi:aG (i∈fA n (dO m.rows i).dQ):=jd.2 ⟨ok.lt,ok.self⟩;have Jo:=tX n (dO m.rows i).dQ;have HE:aG (QD m i n=if n<2*(fA n (dO m.rows i).dQ).length/\ends m.rows i (dO m.rows i) (fA n (dO m.rows i).dQ)=aB then { m with dR:=jO m.dR (dO m.rows i).dU,done:=aB } else m):=rfl
 generalize QD m i n=mE at *;generalize GH:fA n (dO m.rows i).dQ=L at *;have hL5:L.length<=5:=by omega
 clear GH M;go_enter Tryz.func144,Tryz.ntmps144
 go_wp2_with fail
 refine hL.mono ?_;rintro e wl ⟨la,lc,rfl,fl,hl1,hl2,hl3⟩;rw[jq] at hl1 ⊢;have rX:Vec wl la (lN L).length (lN L):=mV (by rw[jq];exact hl1) (xP HLn.out (by omega))
 have fZ:=dP (kU.out.step hl3);have hMs:=Tq B m.rows.length c L.length lc (au ⟨g,off,ak⟩) la wl fZ.out.rws (by omega) (by rw[ok.len];exact jy.2)
 have TY:=aw0 w0 B m i n fp g off c wl fZ.out ok.Yx L la lc rX HLn.out hL5;rw[ok.len] at hMs;clear hl1 hl2 hl3 hL kU rX;by_cases hmj:n<2*L.length;rotate_left
 ·have HN:aG (mE=m):=by rw[aG,HE.out,if_neg (fun h=>hmj h.1)]
  rw[decide_eq_false hmj] at hMs;clear HE hmj TY;go_wp2_with (go_at_call 171;refine fV hMs ?_)
  try simp only[aY3,Exit.then]
  refine aY1 (results_none rfl _ _ _) rfl ?_;exact⟨rfl,by rw[HN.out];exact fZ.out⟩
 rw[decide_eq_true hmj] at hMs
 cases hen:ends m.rows i (dO m.rows i) L with
 | false =>
  have HN:aG (mE=m):=by rw[aG,HE.out,if_neg (fun h=>by rw[hen] at h;cases h.2)]
  rw[hen] at TY;clear HE hmj hen;go_wp2_with (first|(go_at_call 171;refine fV hMs ?_)|(go_at_call 173;refine TY.mono ?_;rintro e w2 ⟨rfl,hb2⟩;have HB2:aG (Below wl.heap.size wl w2):=hb2;clear hb2))
  try simp only[aY3,Exit.then]
  refine aY1 (results_none rfl _ _ _) rfl ?_;exact⟨rfl,by rw[HN.out];exact fZ.out.step HB2.out⟩
 | true =>
  have HRD:=dP (TW hen HLi.out);have HN:aG (mE={ m with dR:=jO m.dR (dO m.rows i).dU,done:=aB }):=by rw[aG,HE.out,if_pos ⟨hmj,hen⟩]
  rw[hen] at TY;clear HE hmj hen;go_upto_region 2 with (first|(go_at_call 171;refine fV hMs ?_)|(go_at_call 173;refine TY.mono ?_;rintro e w2 ⟨rfl,hb2⟩;have HB2:aG (Below wl.heap.size wl w2):=hb2;clear hb2))
  have M2:=fZ.out.step HB2.out;clear hMs TY fZ HB2;obtain⟨u4,f4,q1,q2,q3,_,q4⟩:=M2.LD (j:=3) (cl:=.v (aF m.done)) rfl (by omega)
  obtain⟨rfl,_⟩:=q3;obtain⟨_,_,M3⟩:=q4 w2 (.v (aF aB)) (aF aB) (fun _=>False) { m with done:=aB } rfl rfl (eU.refl _ _) ⟨rfl,fun _ h=>h⟩ (fun b hb=>hb.elim)
  have lT:=dP M3;have q1':w2.cell? ⟨B,3,ak⟩=au (aF m.done):=by simpa using q1
  have q2':w2.frozen? ⟨B,3,ak⟩=aC:=by simpa using q2
  clear M2 M3 q4 q1 q2;rw[show 0+3=3 from rfl] at lT
  go_upto_region 3 with fail
  generalize w2.setCell ⟨B,3,ak⟩ (aF aB)=W3 at *;clear q1' q2';obtain⟨c0,_⟩:=lT.out.id';have c1:=lT.out.rws;simp only at c0 c1
  rw[ok.hid] at c0;have ru:=oK B i m.rows.length g off c W3 c0 c1 hil;clear c0 c1;go_wp2_with fail
  refine ru.mono ?_;rintro e W4 ⟨rfl,hb4⟩;have lU:=dP (lT.out.step hb4);clear ru hb4 lT;obtain⟨Ai,⟨⟨_,_,_,_⟩,_,_,_,d7⟩,zf,_,hkm⟩:=lU.out.aF9 (m:={ m with done:=aB }) ok.fit hil
  simp only at d7 zf hkm
  obtain⟨_,_,aG0,htl,h12⟩:=hr.dV HRD.out;have hsm:=(jG hr.n5 htl).1 ⟨aG0,h12⟩;have hW:=Yz Ai.ma (dO m.rows i).dU.length Ai.mc (dO m.rows i).dU W4 zf.dU hkm.1 hkm.2;have GV:=dP htl;have C9:=dP hsm;have HSg:aG (jO m.dR (dO m.rows i).dU=jF m.dR (iC (dO m.rows i).dU 12) (iC (dO m.rows i).dU 12).length):=by rw[aG,Me];rfl
  clear zf htl hsm aG0 h12 hr hkm;generalize (dO m.rows i).dU=T at *;go_wp2_with (go_at_call 58;refine hW.mono ?_;rintro e W5 ⟨Z,hZ,sg,so,sc,rfl,hsg,hO,hb5⟩)
  obtain rfl:=ah1 jy GV.out C9.out hZ
  have E5:(iC T 12).length<=60:=by
   have:=Gh T 12;rw[GV.out] at this;omega
  have Xw:Fits (iC T 12):=Mc (by rw[GV.out];omega) (by omega)
  have HZr:=dP (zC T 12)
  have HZ0:aG (∀ x∈iC T 12,0<=x):=fun x hx=>by
   obtain⟨k,j,_,_,_,rfl⟩:=xI.1 hx;have:(T.length:Int)*(k:Int)=((T.length*k:Nat):Int):=by simp
   omega
  obtain⟨jE,f1,f2,_,M5,Xv⟩:=lU.out.sub hb5;have yP:=dP Xv;have iM:=dP M5;have HsB:aG (¬ jE sg/\sg≠B):=⟨fun k=>by have:=f1 _ k;omega,by omega⟩
  have HUp:aG (∀ q,q<m.dR.length->el m.dR q=(q:Int)):=fun q hq=>(ok.sg q hq).2 hd
  generalize iC T 12=Z at *;have HOs:aG (eF.ow W5 (gQ Z) (aj (au ⟨sg,so,ak⟩) Z.length sc) (fun b=>b=sg)):=jv.2 ⟨_,sc,au sg,rfl,iV.of hO,fun b=>by simp[eq_comm]⟩
  clear hW hZ hO hb5 f1 f2 Xv M5 hsg lU d7;go_wp2_with fail
  go_loopw [35] (fun v wr=>∃ j:Nat,j<=Z.length/\v=ah aA (j:Int)/\Iw W5 wr B { m with done:=aB,dR:=jF m.dR Z j } jE g off c) (fun v _=>Z.length-(ba4 v).toNat)
  case atStart=>exact⟨0,aZ1 _,rfl,iM.out⟩
  case round =>
   obtain⟨j,hj,rfl,M⟩:=hrel;by_cases hlt2:j<Z.length
   ·have j1:(j:Int)<Z.length:=by omega
    have j0:(0:Int)<=j:=by omega
    have hsl:=BA (s:=m.dR) (Z:=Z) j;have hsf:=zJ (s:=m.dR) (Z:=Z) ok.fit.2 Xw j;have hms:=ok.sl;have zi:aG (jF m.dR Z (j+1)=if el Z j∈jF m.dR Z j then jF m.dR Z j else gY (jF m.dR Z j) (el Z j)):=zI hlt2
    have Qm:aG (el Z j∉jF m.dR Z j->gY (jF m.dR Z j) (el Z j)=jF m.dR Z j++[el Z j]):=fun h=>YA HUp.out HZr.out HZ0.out hlt2 h
    have Xx:=mV (M.SA HOs.out (fun b hb=>by rw[hb];exact HsB.out)) Xw
    rcases Xx.2.2 with hz|⟨zb,zo,ez,hzc⟩
    ·omega
    cases ez
    have hzj:=hzc j hlt2;generalize el Z j=x at *;generalize hsj:jF m.dR Z j=sj at *;have hfm:nY { m with done:=aB,dR:=sj }:=⟨ok.fit.1,hsf⟩
    obtain⟨sa,sc2,⟨c0,c1,c2,c3⟩,aG1⟩:=M.box hfm;simp only at c2
    have hsv:=aG1.dR;have hC:=uh sa sc2 sj x wr hsv (by unfold ba2;omega)
    have HM:=dP M;have HSj:aG (sj.length<=1000):=by rw[aG];omega
    clear aG1 hsv hzc Xx hsf hsl M c0 c1 c3;by_cases hin:x∈sj
    ·rw[decide_eq_true hin] at hC
     have HK:aG (jF m.dR Z (j+1)=sj):=by rw[aG,zi.out,if_pos hin]
     clear hin zi Qm hsj;go_wp2_with (go_at_call 88;refine fV hC ?_)
     go_roundw
     case rel=>exact⟨j+1,by omega,by go_num,by rw[HK.out];exact HM.out⟩
     case measure=>simp[ba4];omega
    ·rw[decide_eq_false hin] at hC
     have HK:aG (jF m.dR Z (j+1)=sj++[x]):=by rw[aG,zi.out,if_neg hin,Qm.out hin]
     clear hin zi Qm hsj;obtain⟨u,f,hu,hz,how,hlt,hset⟩:=HM.out.LD (j:=2) rfl (by decide)
     obtain rfl:=aV4 (hu.symm.trans c2);obtain⟨sa',sc',es,hA⟩:=pO x how (aY2 HSj.out (by decide))
     cases es
     have KT:aG (∀ (X1:aI) (c':eF) (u':aJ) (f':Fp) (m':Mb),(nG { m with done:=aB,dR:=sj }).set 2 c'=nG m'->m'.rows.length=m.rows.length->eU f wr X1->eF.ow X1 c' u' f'->(∀ b,f' b->f b\/wr.heap.size<=b)->X1.cell? ⟨B,2,ak⟩=au (aj sa sj.length sc2)/\X1.frozen? ⟨B,2,ak⟩=aC/\Iw W5 (X1.setCell ⟨B,2,ak⟩ u') B m' jE g off c):=by rw[aG];simpa using hset
     clear hset hu hz hlt how;go_upto_region 7 with (go_at_call 88;refine fV hC ?_)
     clear hzj;go_upto_region 8 with (at_builtin;refine fJ (by rfl) _ _ _ _ (by rfl) _ _ (by rfl) (by rfl) hA ⟨rfl,rfl,rfl,rfl⟩ ?_;rintro v1 w1 ⟨a1,e1,f1,rfl,k1,k2,k3⟩;obtain⟨q1,q2,M2⟩:=KT.out w1 (gQ (sj++[x])) (aj a1 (sj.length+1) e1) f1 { m with done:=aB,dR:=sj++[x] } rfl rfl k3 k1 k2;have ji:aG (Iw W5 (w1.setCell ⟨B,2,ak⟩ (aj a1 (sj.length+1) e1)) B { m with done:=aB,dR:=sj++[x] } jE g off c):=M2;clear M2 k1 k2 k3 hA c2 hC)
     generalize w1.setCell ⟨B,2,ak⟩ (aj a1 (sj.length+1) e1)=W9 at *;clear q1 q2;go_wp2;go_roundw
     case rel=>exact⟨j+1,by omega,by go_num,by rw[HK.out];exact ji.out⟩
     case measure=>simp[ba4];omega
   ·have j1:¬ ((j:Int)<Z.length):=by omega
    obtain rfl:j=Z.length:=by omega
    have HK:aG (Iw w0 wr B mE fp g off c):=by
     rw[aG,HN.out,HSg.out];exact yP.out _ _ M
    clear M;go_wp2
    first|go_end0|go_ret
    exact⟨rfl,HK.out⟩
theorem YB (F:Nat) (C:Array aJ) (a:Option ba5) (n cap:Nat) (H:List (List Int)) (I:Nat->Option ba5->Nat->Nat->aI->Prop) (a0:Option ba5) (m0 c0:Nat) (w:aI) (hn:n<=8)
  (hE:∀ (args:Array aJ) (w:aI),(callFunc F args).run aZ8 w=.ok (.enter F args) w) (hV:∀ k x m c X,I k x m c X->VV X a n cap H)
  (hF:∀ k x m c X y cy,k<n->I k x m c X->Vec X y (row H k).length (row H k)->(row H k).length<=cy->cy<=ba2->ba3 aZ8 F (#[aj x m c,aj y (row H k).length cy]++C) X fun e w'=>∃ x' m' c',e=aK (aj x' m' c')/\I (k+1) x' m' c' w')
  (h0:I 0 a0 m0 c0 w):ba3 aZ8 197 #[.func (.func F) #[] C,aj a n cap,aj a0 m0 c0] w fun e w'=>∃ x m c,e=aK (aj x m c)/\I n x m c w':=by
 have HV:=dP hV;clear hV;go_enter Tryz.func197,Tryz.ntmps197
 go_wp2
 go_loopw [7,9,13] (fun v _ i wr=>∃ (k:Nat) (x:Option ba5) (m c:Nat),k<=n/\i=ah aA (k:Int)/\v=aj x m c/\I k x m c wr) (fun _ _ i _=>n-(ba4 i).toNat)
 case atStart=>exact⟨0,a0,m0,c0,aZ1 _,rfl,rfl,h0⟩
 case round =>
  obtain⟨k,x,m,c,hk,rfl,rfl,hI⟩:=hrel;have HI:=dP hI;clear hI h0;by_cases hlt:k<n
  ·have k1:(k:Int)<n:=by omega
   have k0:(0:Int)<=k:=by omega
   obtain⟨b,off,rfl,hc⟩:=P9 (HV.out _ _ _ _ _ HI.out) (by omega)
   obtain⟨y,cy,hcy,hvy,hl,hm⟩:=hc k hlt;have hC:=hF k x m c wr y cy hlt HI.out hvy hl hm;clear hc hvy hF;generalize (row H k).length=L at *;go_wp2_with fail
   refine hC.mono ?_;rintro e w1 ⟨x1,m1,c1,rfl,hI1⟩;have HI1:=dP hI1;clear hI1 hC hcy;go_wp2;go_roundw
   case rel=>exact⟨k+1,x1,m1,c1,by omega,by go_num,rfl,HI1.out⟩
   case measure=>simp[ba4];omega
  ·have k1:¬ ((k:Int)<n):=by omega
   obtain rfl:k=n:=by omega
   go_wp2;go_ret
   exact⟨x,m,c,rfl,HI.out⟩
def Bc (f:Int->Int->Int) (L:List (List Int)):Nat->List Int
 | 0=>row L 0
 | k+1=>je f (Bc f L k) (row L k)
def EvR (L:List (List Int)):Prop:=∀ k,k<L.length->okB (row L k)=aB/\(row L k).length=(row L 0).length
theorem YC {f: Int->Int->Int} (hf:∀ x,f x x=x) (h:okB r=aB):je f r r=r:=by
 have ht:vG r r=aB:=by simp[vG,h]
 rw[je,if_pos ht];refine List.ext_getElem (by rw[mM]) (fun i h1 h2=>?_)
 simp[jn,hf,el,h2]
theorem YD {f:Int->Int->Int} (hf:∀ x y,(0<=x/\x<=1000000)->(0<=y/\y<=1000000)->0<=f x y/\f x y<=1000000) {L:List (List Int)} (h:EvR L) (h1:1<=L.length):∀ k,k<=L.length->okB (Bc f L k)=aB/\(Bc f L k).length=(row L 0).length
 | 0,_=>h 0 (by omega)
 | k+1,hk=>by
  obtain⟨i1,i2⟩:=YD hf h h1 k (by omega)
  obtain⟨a1,a2⟩:=h k (by omega)
  obtain⟨e1,e2,e3⟩:=RX hf i1 a1 (by rw[i2,a2])
  exact⟨e3,by rw[Bc,e2,i2]⟩
theorem aw4 {L: List (List Int)} (hk:k<L.length):row (L++[x]) k=row L k:=by
 simp[row,aV,aY hk]
theorem ah2 {L: List (List Int)}:row (L++[x]) L.length=x:=by simp[row]
theorem aw5 (h:okB Z=aB):Fits Z:=fun y hy=>by
 obtain⟨j,hj,rfl⟩:=bU.1 hy;have:=wF h hj;simp[el,hj] at this
 omega
theorem Vt (F:Nat) (f:Int->Int->Int) (hf:∀ x y,(0<=x/\x<=1000000)->(0<=y/\y<=1000000)->0<=f x y/\f x y<=1000000)
  (hE:∀ (args:Array aJ) (w:aI),(callFunc F args).run aZ8 w=.ok (.enter F args) w)
  (hP:∀ (a a':Option ba5) (len cap len' cap':Nat) (xs ys:List Int) (w:aI),Vec w a len xs->Vec w a' len' ys->len<=cap->len'<=cap'->cap<=ba2->cap'<=ba2->ba3 aZ8 F #[aj a len cap,aj a' len' cap'] w fun e w'=>∃ g c,e=aK (aj (au ⟨g,0,ak⟩) (je f xs ys).length c)/\w.heap.size<=g/\OwnAt w' g c (je f xs ys)/\Below w.heap.size w w')
  (a:Option ba5) (n cap:Nat) (L:List (List Int)) (w:aI) (hv:VV w a n cap L) (hn:n<=8) (hL:EvR L) :
  ba3 aZ8 193 #[aj a n cap,.func (.func F) #[] #[]] w fun e w'=>Hr w w' e (if n=0 then [] else Bc f L n):=by
 have HN:=dP hv.n;by_cases h0:n=0
 ·subst h0
  have HA:aG (OI (w.alloc (aH #[] 2)) w.heap.size 0 0 0 []/\Below w.heap.size w (w.alloc (aH #[] 2))):=⟨oG w 2,(aZ5 _ _).alloc (aZ0 _) _⟩;clear hv hP hE;go_enter Tryz.func193,Tryz.ntmps193
  go_wp2;go_ret
  exact⟨_,0,0,rfl,aZ0 _,HA.out.1,HA.out.2⟩
 ·rw[if_neg h0]
  have hF:=YD hf hL (by rw[HN.out];omega)
  rw[HN.out] at hF;obtain⟨b,off,rfl,hc⟩:=P9 hv (by omega)
  obtain⟨x0,c0,hc0,hv0,hl0,hm0⟩:=hc 0 (by omega)
  rw[aY5] at hc0
  have hO:=YB F #[] (au ⟨b,off,ak⟩) n cap L (fun k x m c X=>m=(Bc f L k).length/\Below w.heap.size w X/\Vec X x m (Bc f L k)/\m<=c/\c<=ba2/\(0<k->∃ g o,x=au ⟨g,o,ak⟩/\w.heap.size<=g/\OI X g o m c (Bc f L k))) x0 (row L 0).length c0 w hn hE
   (fun k x m c X h=>hv.below h.2.1)
   (fun k x m c X y cy hk h hy hl hm => by
    obtain⟨h1,h2,h3,h4,h5,_⟩:=h;refine (hP x y m c (row L k).length cy (Bc f L k) (row L k) X h3 hy h4 hl h5 hm).mono ?_;rintro e w' ⟨g,c',rfl,hg,hown,hb⟩;have hoi:=OI.own hown;have hfit:=aw5 (hF (k+1) (by omega)).1
    refine⟨_,_,_,rfl,rfl,eP h2 hb,hoi.vec hfit,hoi.le,hoi.max,fun _=>⟨g,0,rfl,aY2 h2.size hg,hoi⟩⟩)
   ⟨rfl,aZ5 _ _,hv0,hl0,hm0,fun h=>absurd h (by omega)⟩
  have n0:(0:Int)<n:=by omega
  have n1:((n:Int)==0)=aC:=by simp;omega
  have HS:aG (0<n):=by rw[aG];omega
  clear hv hc hv0 hP hE hF;generalize (row L 0).length=L0 at *;go_enter Tryz.func193,Tryz.ntmps193
  go_wp2_with fail
  refine hO.mono ?_;rintro e w1 ⟨x,m,c,rfl,hm,hb,_,_,_,hg⟩;obtain⟨g,o,hx,hgs,hoi⟩:=hg HS.out;have HH:aG (m=(Bc f L n).length/\Below w.heap.size w w1/\x=au ⟨g,o,ak⟩/\w.heap.size<=g/\OI w1 g o m c (Bc f L n)):=⟨hm,hb,hx,hgs,hoi⟩;clear hm hb hx hgs hoi hg hO hc0;go_wp2;go_ret
  obtain⟨q1,q2,q3,q4,q5⟩:=HH.out;subst q1;subst q3;exact⟨g,o,c,rfl,q4,q5,q2⟩
def Ua (w:aI) (L:List (List Int)) (vs:List aJ):Prop:=vs.length=L.length/\∀ i,i<L.length->∃ x c,vs[i]?=au (aj x (row L i).length c)/\Vec w x (row L i).length (row L i)/\(row L i).length<=c/\c<=ba2
theorem Ua.snoc {L: List (List Int)} (h:Ua w L vs) {x: Option ba5} (hv:Vec w x r.length r) (h1:r.length<=c) (h2:c<=ba2):Ua w (L++[r]) (vs++[aj x r.length c]):=by
 refine⟨by simp[h.1],fun i hi=>?_⟩
 by_cases e:i=L.length
 ·rw[e,ah2]
  exact⟨x,c,by rw[<- h.1];simp,hv,h1,h2⟩
 ·have hi':i<L.length:=by simp at hi;omega
  obtain⟨y,d,a1,a2,a3,a4⟩:=h.2 i hi';rw[aw4 hi'];exact⟨y,d,by rw[aY (by rw[h.1];exact hi')];exact a1,a2,a3,a4⟩
theorem Ua.vv {w': aI} {L: List (List Int)} {o: Nat} (h:Ua w L vs) (hb:Below w.heap.size w w') (ho:jk w' 1 g o L.length c vs):VV w' (au ⟨g,o,ak⟩) L.length c L:=by
 refine⟨rfl,ho.le,ho.max,fun i hi=>?_⟩
 obtain⟨x,d,a1,a2,a3,a4⟩:=h.2 i hi;exact⟨g,o,x,d,rfl,by rw[ho.cell i (by omega),a1],a2.below hb (aZ0 _),a3,a4⟩
theorem QE {f:Int->Int->Int} (hf:∀ x,f x x=x) {r:List Int} {rs:List (List Int)} (hr:okB r=aB):∀ k,k<=rs.length->Bc f (r::rs) (k+1)=(rs.take k).foldl (je f) r
 | 0,_=>by
  show je f (row (r::rs) 0) (row (r::rs) 0)=r
  simp only[row,List.getD_cons_zero]
  exact YC hf hr
 | k+1,hk=>by
  have ih:=QE hf hr (rs:=rs) k (by omega)
  show je f (Bc f (r::rs) (k+1)) (row (r::rs) (k+1))=_
  rw[ih,aS (by omega),aT7]
  simp[row,ba0,show k<rs.length by omega]
theorem YE (R:List Rw) (hL:∀ k∈L,okB (dO R k).got=aB) (h0:0<L.length):Bc min (L.map (fun j=>(dO R j).got)) L.length=meets R L:=by
 cases L with
 | nil=>cases h0
 | cons k t =>
  have:=QE (f:=min) (fun x=>by omega) (r:=(dO R k).got) (rs:=t.map (fun j=>(dO R j).got)) (hL k dD) t.length (by simp)
  rw[List.map_cons,aU6,this,List.take_of_length_le (by simp),List.foldl_map]
  rfl
def mD (R:List Rw) (L:List Nat) (k:Nat):List (List Int):=(L.take k).map (fun j=>(dO R j).got)
theorem Rq (R:List Rw) (hk:k<L.length):mD R L (k+1)=mD R L k++[(dO R (L.getD k 0)).got]:=by
 unfold mD;rw[aS hk,List.map_append];simp[ba0,hk]
theorem JM (R:List Rw) (hk:k<=L.length):(mD R L k).length=k:=by
 unfold mD;rw[aV7,aU5];omega
theorem Vu (R:List Rw) (L:List Nat):mD R L L.length=L.map (fun j=>(dO R j).got):=by rw[mD,aV2]
theorem YF (R:List Rw) (hk:k<L.length) (a:Int×List Int):best R (L.take (k+1)) a=if (dO R (L.getD k 0)).dV=aB/\(best R (L.take k) a).1<(dO R (L.getD k 0)).dW then ((dO R (L.getD k 0)).dW,(dO R (L.getD k 0)).dU) else best R (L.take k) a:=by
 have e:L.getD k 0=L[k]:=by simp[ba0,hk]
 unfold best;rw[aS hk,aT7,e]
 rfl
def aG2 (X:aI) (b:Int×List Int) (rd:Bool) (x7:aJ):Prop:=rd=decide (0<=b.1)/\(rd=aB->∃ ta tc,x7=aj ta b.2.length tc/\Vec X ta b.2.length b.2)
def aP8 (w w':aI) (e:Ending) (T:List Int):Prop:=∃ ta tc,e=aK (aj ta T.length tc)/\Vec w' ta T.length T/\Below w.heap.size w w'
theorem ah3 {m: Mb} {i n: Nat} (ok:OkW m i n) (hL:∀ k∈L,k<n):EvR (L.map (fun j=>(dO m.rows j).got)):=by
 have key:∀ k,k<L.length->okB (row (L.map (fun j=>(dO m.rows j).got)) k)=aB/\(row (L.map (fun j=>(dO m.rows j).got)) k).length=n:=fun k hk=>by
  have e:row (L.map (fun j=>(dO m.rows j).got)) k=(dO m.rows L[k]).got:=by simp[row,ba0,hk]
  have h:=ok.ok L[k] (hL _ (aU7 hk));rw[e];exact⟨h.got,h.gl⟩
 intro k hk;rw[aV7] at hk;exact⟨(key k hk).1,(key k hk).2.trans (key 0 (by omega)).2.symm⟩
theorem aw6 (w0:aI) (B:Nat) (m:Mb) (i n:Nat) (fp:Fp) (g off c:Nat) (X:aI) (M:Iw w0 X B m fp g off c) (ok:OkW m i n) (L:List Nat) (la:Option ba5) (lc:Nat) (hv:Vec X la (lN L).length (lN L)) (hLn:∀ k∈L,k<n) (Jo:L.length<=5) (hL0:0<L.length) :
  ba3 aZ8 187 #[aO (au ⟨B,0,ak⟩),aj la L.length lc] X fun e w'=>aP8 X w' e (endOf m.rows L):=by
 obtain⟨i1,hi1,hy0,hy1,hy2⟩:=ku ab4;have jy:=ok.n5;have HM:=dP M;have HLn:=dP ok.len;have hml:m.rows.length<=5:=by rw[ok.len];exact jy.2
 have iE:=dP ok.ok;have Es:=dP ok.fit;have HL:=dP hLn;have HV:=dP hv;have HEv:=dP (ah3 ok hLn);have pU:aG (Bc min (L.map (fun j=>(dO m.rows j).got)) L.length=meets m.rows L):=YE m.rows (fun k hk=>(ok.ok k (hLn k hk)).got) hL0
 have HFz:aG (Fits (meets m.rows L)):=by
  obtain ⟨h1,h2⟩ := zD (R := m.rows) jy (L := L) (by intro e;rw [e] at hL0;cases hL0) (fun k hk => by
   have h:=ok.ok k (hLn k hk);exact⟨h.gl,(jG h.n5 h.gl).1 ⟨h.got,h.g12⟩⟩)
  intro x hx;obtain⟨j,hj,rfl⟩:=H7.1 hx;have:=h2 j (by omega)
  obtain⟨q1,_,q,hq,q2⟩:=this;have hh:=ok.ok q (hLn q hq);have:=(jG hh.n5 hh.gl).1 ⟨hh.got,hh.g12⟩ j (by omega)
  omega
 have hb0:Below X.heap.size X ((X.alloc (aH #[] 41)).alloc (aH #[ah aA 0,aj ak 0 0,aj ak 0 0,aj ak 0 0,aF aC,aF aC,ah aA (-1),aj ak 0 0] 44)):=(dX X _).trans ((dX _ _).mono (dX X _).size)
 have hx0:Bx ((X.alloc (aH #[] 41)).alloc (aH #[ah aA 0,aj ak 0 0,aj ak 0 0,aj ak 0 0,aF aC,aF aC,ah aA (-1),aj ak 0 0] 44)) (X.heap.size+1) 44 #[ah aA 0,aj ak 0 0,aj ak 0 0,aj ak 0 0,aF aC,aF aC,ah aA (-1),aj ak 0 0]:=by
  have:=Bx.new (X.alloc (aH #[] 41)) 44 #[ah aA 0,aj ak 0 0,aj ak 0 0,aj ak 0 0,aF aC,aF aC,ah aA (-1),aj ak 0 0];simp only[aU1] at this;exact this
 have hE0:jk ((X.alloc (aH #[] 41)).alloc (aH #[ah aA 0,aj ak 0 0,aj ak 0 0,aj ak 0 0,aF aC,aF aC,ah aA (-1),aj ak 0 0] 44)) 1 X.heap.size 0 0 0 []:=jk.below (⟨rfl,aZ0 _,aZ1 _,by simp,fun i hi=>by omega,fun i hi=>by omega,fun i hi=>by omega⟩:jk (X.alloc (aH #[] 41)) 1 X.heap.size 0 0 0 []) ((aZ5 _ _).alloc (aZ0 _) _) (by simp)
 have HB0:=dP hb0;have HX0:=dP hx0;have Na:=dP hE0;clear M hv hLn hb0 hx0 hE0;go_enter Tryz.func187,Tryz.ntmps187
 go_wp2_with fail
 generalize (X.alloc (aH #[] 41)).alloc (aH #[ah aA 0,aj ak 0 0,aj ak 0 0,aj ak 0 0,aF aC,aF aC,ah aA (-1),aj ak 0 0] 44)=W0 at *
 go_loopw [6,14] (fun v i wr=>∃ (k gg og cg:Nat) (vs:List aJ) (b:Int×List Int) (x0 x1 x2 x3 x4 x7:aJ) (rd:Bool),k<=L.length/\i=ah aA (k:Int)/\v=aj (au ⟨gg,og,ak⟩) (mD m.rows L k).length cg/\X.heap.size<=gg/\gg≠X.heap.size+1/\jk wr 1 gg og (mD m.rows L k).length cg vs/\Ua X (mD m.rows L k) vs/\aG (b=best m.rows (L.take k) (-1,[]))/\aG (aG2 X b rd x7)/\Bx wr (X.heap.size+1) 44 #[x0,x1,x2,x3,x4,aF rd,ah aA b.1,x7]/\Below X.heap.size X wr) (fun _ i _=>L.length-(ba4 i).toNat)
 case atStart=>exact⟨0,X.heap.size,0,0,[],(-1,[]),_,_,_,_,_,_,_,aZ1 _,rfl,rfl,aZ0 _,by omega,Na.out,⟨rfl,fun i hi=>by simp[mD] at hi⟩,rfl,⟨rfl,fun h=>by cases h⟩,HX0.out,HB0.out⟩
 case round =>
  obtain⟨k,gg,og,cg,vs,b,x0,x1,x2,x3,x4,x7,rd,hk,rfl,rfl,hg1,hg2,hO,hS,GR,hLa,hxl,hb⟩:=hrel;have LO:=dP hO;have LS:=dP hS;have LB:=dP hb;have LG:aG (X.heap.size<=gg/\gg≠X.heap.size+1):=⟨hg1,hg2⟩;have LXl:=dP hxl;have LLE:(mD m.rows L k).length<=5:=by rw[JM m.rows hk];omega
  clear hO hS hg1 hg2 HB0 HX0 Na;by_cases hlt:k<L.length
  ·have qQ:L.getD k 0<n:=HL.out _ (mW hlt)
   have uI:L.getD k 0<m.rows.length:=by rw[HLn.out];exact qQ
   rcases (HV.out.below hb (aZ0 _)).2.2 with hz|⟨lb,lo,hla,hlc⟩
   ·rw[jq] at hz;omega
   have hlk:=hlc k (by rw[jq];exact hlt)
   rw[wR hlt] at hlk;obtain⟨AJ0,_,Aj⟩:=HM.out.row Es.out uI;obtain⟨AJ,⟨⟨d0,d1,d2,d3⟩,d4,d5,d6,d7⟩,hrs,hkg,_⟩:=(HM.out.step hb).aF9 Es.out uI;have oq:=(HM.out.step hb).rws;have tV:=dP (Rq m.rows hlt)
   have YG:aG (best m.rows (L.take (k+1)) (-1,[])=if (dO m.rows (L.getD k 0)).dV=aB/\b.1<(dO m.rows (L.getD k 0)).dW then ((dO m.rows (L.getD k 0)).dW,(dO m.rows (L.getD k 0)).dU) else b):=by
    have:=YF m.rows hlt (-1,[]);rw[<- GR.out] at this;exact this
   have hokr:=iE.out _ qQ;have HR0:aG ((dO m.rows (L.getD k 0)).dV=aB->0<=(dO m.rows (L.getD k 0)).dW):=fun h=>(hokr.dV h).2.1.1
   generalize L.getD k 0=J at *;have k1:(k:Int)<L.length:=by omega
   have k0:(0:Int)<=k:=by omega
   have J0:(0:Int)<=J:=by omega
   have J1:(J:Int)<m.rows.length:=by omega
   have SH:aG (Vec X AJ.ga (dO m.rows J).got.length (dO m.rows J).got/\Vec X AJ.ma (dO m.rows J).dU.length (dO m.rows J).dU):=by
    obtain⟨AK,⟨⟨q0,q1,q2,q3⟩,q4,q5,q6,q7⟩,hrk⟩:=HM.out.row Es.out uI;have t:∀ {x v},X.cell? x=au v->wr.cell? x=au v:=fun h=>fM hb h
    have e2:=aV4 (d2.symm.trans (t q2));have e7:=aV4 (d7.symm.trans (t q7));simp only[aU0] at e2 e7;rw[e2.1,e7.1];exact⟨hrk.got,hrk.dU⟩
   have hmg:=hrs.mg;have Ub:=dP hkg;clear hokr hrs Aj hkg;generalize dO m.rows J=r at *;have hba:=dX wr (aH #[ah aA r.ver,aj AJ.ta r.txt.length AJ.tc,aj AJ.ga r.got.length AJ.gc,aj AJ.sa r.dQ.length AJ.sc,aF r.wed,aF r.dV,ah aA r.dW,aj AJ.ma r.dU.length AJ.mc] 44);have hxr:=Bx.new wr 44 #[ah aA r.ver,aj AJ.ta r.txt.length AJ.tc,aj AJ.ga r.got.length AJ.gc,aj AJ.sa r.dQ.length AJ.sc,aF r.wed,aF r.dV,ah aA r.dW,aj AJ.ma r.dU.length AJ.mc];have ou:=dP hba;have hrl:wr.heap.size≠X.heap.size+1:=by have:=hxl.lt;omega
   have qV:=dP hxr;have Nk:=dP (hxl.below hba);have LO5:=dP (jk.below LO.out hba LO.out.blk);have LB5:=dP (eP LB.out hba);rw[hla];have HLA:=dP hla;clear hlc hba hxr hla hxl hb;go_upto_region 6 with fail
   generalize wr.alloc (aH #[ah aA r.ver,aj AJ.ta r.txt.length AJ.tc,aj AJ.ga r.got.length AJ.gc,aj AJ.sa r.dQ.length AJ.sc,aF r.wed,aF r.dV,ah aA r.dW,aj AJ.ma r.dU.length AJ.mc] 44)=W5 at *;clear d0 d1 d2 d3 d4 d5 d6 d7 oq hlk;obtain⟨⟨_,_,p2,_⟩,_,p5,p6,_⟩:=Bx.r8 qV.out;have z6:=Nk.out.at 6 (v:=ah aA b.1) rfl;generalize wr.heap.size=RB at *;by_cases hc:r.dV=aB/\b.1<r.dW
   ·have PO:aG ((r.dW,r.dU)=best m.rows (L.take (k+1)) (-1,[])):=by rw[aG,YG.out,if_pos hc]
    obtain⟨hrd,hgt⟩:=hc;have HR1:aG (0<=r.dW):=HR0.out hrd;rw[hrd] at p5;obtain⟨⟨s0,s1,s2,s3⟩,s4,s5,s6,s7⟩:=Bx.r8 qV.out;obtain⟨⟨f0,f1,f2,f3,f4⟩,f5,f6,f7⟩:(W5.frozen? ⟨X.heap.size+1,0,ak⟩=aC/\W5.frozen? ⟨X.heap.size+1,1,ak⟩=aC/\W5.frozen? ⟨X.heap.size+1,2,ak⟩=aC/\W5.frozen? ⟨X.heap.size+1,3,ak⟩=aC/\W5.frozen? ⟨X.heap.size+1,4,ak⟩=aC)/\W5.frozen? ⟨X.heap.size+1,5,ak⟩=aC/\W5.frozen? ⟨X.heap.size+1,6,ak⟩=aC/\W5.frozen? ⟨X.heap.size+1,7,ak⟩=aC:=⟨Nk.out.f5,Nk.out.f 5,Nk.out.f 6,Nk.out.f 7⟩;obtain⟨⟨y0,y1,y2,y3⟩,y4,y5,y6,y7⟩:=Bx.r8 Nk.out;rw[hrd] at s5;have gt1:r.dW>b.1:=hgt;clear hgt YG z6 p2 p6 p5;have aP9:aG (Bx ((((((((W5.setCell ⟨X.heap.size+1,0,ak⟩ (ah aA r.ver)).setCell ⟨X.heap.size+1,1,ak⟩ (aj AJ.ta r.txt.length AJ.tc)).setCell ⟨X.heap.size+1,2,ak⟩ (aj AJ.ga r.got.length AJ.gc)).setCell ⟨X.heap.size+1,3,ak⟩ (aj AJ.sa r.dQ.length AJ.sc)).setCell ⟨X.heap.size+1,4,ak⟩ (aF r.wed)).setCell ⟨X.heap.size+1,5,ak⟩ (aF aB)).setCell ⟨X.heap.size+1,6,ak⟩ (ah aA r.dW)).setCell ⟨X.heap.size+1,7,ak⟩ (aj AJ.ma r.dU.length AJ.mc)) RB 44 #[ah aA r.ver,aj AJ.ta r.txt.length AJ.tc,aj AJ.ga r.got.length AJ.gc,aj AJ.sa r.dQ.length AJ.sc,aF r.wed,aF r.dV,ah aA r.dW,aj AJ.ma r.dU.length AJ.mc]):=(((((((qV.out.far hrl _).far hrl _).far hrl _).far hrl _).far hrl _).far hrl _).far hrl _).far hrl _;have Iy:aG (Bx ((((((((W5.setCell ⟨X.heap.size+1,0,ak⟩ (ah aA r.ver)).setCell ⟨X.heap.size+1,1,ak⟩ (aj AJ.ta r.txt.length AJ.tc)).setCell ⟨X.heap.size+1,2,ak⟩ (aj AJ.ga r.got.length AJ.gc)).setCell ⟨X.heap.size+1,3,ak⟩ (aj AJ.sa r.dQ.length AJ.sc)).setCell ⟨X.heap.size+1,4,ak⟩ (aF r.wed)).setCell ⟨X.heap.size+1,5,ak⟩ (aF aB)).setCell ⟨X.heap.size+1,6,ak⟩ (ah aA r.dW)).setCell ⟨X.heap.size+1,7,ak⟩ (aj AJ.ma r.dU.length AJ.mc)) (X.heap.size+1) 44 #[ah aA r.ver,aj AJ.ta r.txt.length AJ.tc,aj AJ.ga r.got.length AJ.gc,aj AJ.sa r.dQ.length AJ.sc,aF r.wed,aF aB,ah aA r.dW,aj AJ.ma r.dU.length AJ.mc]):=ap8 Nk.out;have QF:aG (jk ((((((((W5.setCell ⟨X.heap.size+1,0,ak⟩ (ah aA r.ver)).setCell ⟨X.heap.size+1,1,ak⟩ (aj AJ.ta r.txt.length AJ.tc)).setCell ⟨X.heap.size+1,2,ak⟩ (aj AJ.ga r.got.length AJ.gc)).setCell ⟨X.heap.size+1,3,ak⟩ (aj AJ.sa r.dQ.length AJ.sc)).setCell ⟨X.heap.size+1,4,ak⟩ (aF r.wed)).setCell ⟨X.heap.size+1,5,ak⟩ (aF aB)).setCell ⟨X.heap.size+1,6,ak⟩ (ah aA r.dW)).setCell ⟨X.heap.size+1,7,ak⟩ (aj AJ.ma r.dU.length AJ.mc)) 1 gg og (mD m.rows L k).length cg vs):=vP (vP (vP (vP (vP (vP (vP (vP LO5.out LG.out.2 _) LG.out.2 _) LG.out.2 _) LG.out.2 _) LG.out.2 _) LG.out.2 _) LG.out.2 _) LG.out.2 _
    have Dc:aG (Below X.heap.size X ((((((((W5.setCell ⟨X.heap.size+1,0,ak⟩ (ah aA r.ver)).setCell ⟨X.heap.size+1,1,ak⟩ (aj AJ.ta r.txt.length AJ.tc)).setCell ⟨X.heap.size+1,2,ak⟩ (aj AJ.ga r.got.length AJ.gc)).setCell ⟨X.heap.size+1,3,ak⟩ (aj AJ.sa r.dQ.length AJ.sc)).setCell ⟨X.heap.size+1,4,ak⟩ (aF r.wed)).setCell ⟨X.heap.size+1,5,ak⟩ (aF aB)).setCell ⟨X.heap.size+1,6,ak⟩ (ah aA r.dW)).setCell ⟨X.heap.size+1,7,ak⟩ (aj AJ.ma r.dU.length AJ.mc))):=by
     have:=Nat.le_succ X.heap.size;exact (((((((LB5.out.setCell (p:=⟨X.heap.size+1,0,ak⟩) this _).setCell (p:=⟨X.heap.size+1,1,ak⟩) this _).setCell (p:=⟨X.heap.size+1,2,ak⟩) this _).setCell (p:=⟨X.heap.size+1,3,ak⟩) this _).setCell (p:=⟨X.heap.size+1,4,ak⟩) this _).setCell (p:=⟨X.heap.size+1,5,ak⟩) this _).setCell (p:=⟨X.heap.size+1,6,ak⟩) this _).setCell (p:=⟨X.heap.size+1,7,ak⟩) this _
    have p2:=(Bx.r8 aP9.out).1.2.2.1;go_upto_region 8 with fail
    clear s0 s1 s2 s3 s4 s5 s6 s7 f0 f1 f2 f3 f4 f5 f6 f7 y0 y1 y2 y3 y4 y5 y6 y7;generalize ((((((((W5.setCell ⟨X.heap.size+1,0,ak⟩ (ah aA r.ver)).setCell ⟨X.heap.size+1,1,ak⟩ (aj AJ.ta r.txt.length AJ.tc)).setCell ⟨X.heap.size+1,2,ak⟩ (aj AJ.ga r.got.length AJ.gc)).setCell ⟨X.heap.size+1,3,ak⟩ (aj AJ.sa r.dQ.length AJ.sc)).setCell ⟨X.heap.size+1,4,ak⟩ (aF r.wed)).setCell ⟨X.heap.size+1,5,ak⟩ (aF aB)).setCell ⟨X.heap.size+1,6,ak⟩ (ah aA r.dW)).setCell ⟨X.heap.size+1,7,ak⟩ (aj AJ.ma r.dU.length AJ.mc))=W6 at *;have hO2:jk (W6.alloc (aH #[aj AJ.ga r.got.length AJ.gc] 41)) 1 gg og (mD m.rows L k).length cg vs:=jk.below QF.out ((aZ5 _ _).alloc (aZ0 _) _) QF.out.blk;go_wp2_with (at_builtin;refine iH _ rfl _ _ _ rfl 41 i1 _ 1 24 Tryz.underlying204 hi1 hy0 hy1 hy2 rfl (by omega) gg og (mD m.rows L k).length cg vs rfl hO2 ⟨W6.heap.size,0,ak⟩ 1 1 [aj AJ.ga r.got.length AJ.gc] rfl rfl (World.news_of_block (cs:=#[aj AJ.ga r.got.length AJ.gc]) (t:=41) (fr:=(0,0)) (heap_alloc_new _ _)) (by simp[aX4]) (by unfold ba2;omega) (by omega) ?_;intro g6 o6 c6 w6 CP zq xR)
    have hWs:(W6.alloc (aH #[aj AJ.ga r.got.length AJ.gc] 41)).heap.size=W6.heap.size+1:=by simp
    have Uc:=Dc.out.size;have QG:=Iy.out.lt;have hgb:=LG.out
    have NG:aG (X.heap.size<=g6/\g6≠X.heap.size+1):=by
     rcases xR with h|h
     ·rw[h];exact LG.out
     ·rw[h,hWs];exact⟨by omega,by omega⟩
    have NO:=dP CP;have NB:aG (Below X.heap.size X w6):=oL (Dc.out.alloc Dc.out.size _) zq LG.out.1 (aY2 Dc.out.size (by simp))
    have YH:aG (Bx w6 (X.heap.size+1) 44 #[ah aA r.ver,aj AJ.ta r.txt.length AJ.tc,aj AJ.ga r.got.length AJ.gc,aj AJ.sa r.dQ.length AJ.sc,aF r.wed,aF aB,ah aA r.dW,aj AJ.ma r.dU.length AJ.mc]):=(zq.block (X.heap.size+1) (by omega) (by simp;exact fun e=>LG.out.2 e.symm)).trans ((Iy.out.alloc _))
    clear CP zq xR hO2 hWs Uc QG hgb;go_roundw
    case rel=>exact⟨k+1,g6,o6,c6,vs++[aj AJ.ga r.got.length AJ.gc],(r.dW,r.dU),_,_,_,_,_,_,true,by omega,by go_num,by rw[tV.out,dB];rfl,NG.out.1,NG.out.2,by rw[tV.out,dB];exact NO.out,by rw[tV.out];exact LS.out.snoc SH.out.1 Ub.out.1 Ub.out.2,PO.out,⟨(decide_eq_true HR1.out).symm,fun _=>⟨_,_,rfl,SH.out.2⟩⟩,YH.out,NB.out⟩
    case measure=>simp[ba4];omega
   ·have PO:aG (b=best m.rows (L.take (k+1)) (-1,[])):=by rw[aG,YG.out,if_neg hc]
    have QF:=LO5;have Dc:=LB5;have Iy:=Nk
    cases hrd:r.dV with
    | false =>
     rw[hrd] at p5;clear hc YG HR0 hrd;go_upto_region 8 with fail
     clear z6 p5 p6;have hO2:jk (W5.alloc (aH #[aj AJ.ga r.got.length AJ.gc] 41)) 1 gg og (mD m.rows L k).length cg vs:=jk.below QF.out ((aZ5 _ _).alloc (aZ0 _) _) QF.out.blk;go_wp2_with (at_builtin;refine iH _ rfl _ _ _ rfl 41 i1 _ 1 24 Tryz.underlying204 hi1 hy0 hy1 hy2 rfl (by omega) gg og (mD m.rows L k).length cg vs rfl hO2 ⟨W5.heap.size,0,ak⟩ 1 1 [aj AJ.ga r.got.length AJ.gc] rfl rfl (World.news_of_block (cs:=#[aj AJ.ga r.got.length AJ.gc]) (t:=41) (fr:=(0,0)) (heap_alloc_new _ _)) (by simp[aX4]) (by unfold ba2;omega) (by omega) ?_;intro g6 o6 c6 w6 CP zq xR)
     have hWs:(W5.alloc (aH #[aj AJ.ga r.got.length AJ.gc] 41)).heap.size=W5.heap.size+1:=by simp
     have Uc:=Dc.out.size;have QG:=Iy.out.lt;have hgb:=LG.out
     have NG:aG (X.heap.size<=g6/\g6≠X.heap.size+1):=by
      rcases xR with h|h
      ·rw[h];exact LG.out
      ·rw[h,hWs];exact⟨by omega,by omega⟩
     have NO:=dP CP;have NB:aG (Below X.heap.size X w6):=oL (Dc.out.alloc Dc.out.size _) zq LG.out.1 (aY2 Dc.out.size (by simp))
     have YH:aG (Bx w6 (X.heap.size+1) 44 #[x0,x1,x2,x3,x4,aF rd,ah aA b.1,x7]):=(zq.block (X.heap.size+1) (by omega) (by simp;exact fun e=>LG.out.2 e.symm)).trans ((Iy.out.alloc _))
     clear CP zq xR hO2 hWs Uc QG hgb;go_roundw
     case rel=>exact⟨k+1,g6,o6,c6,vs++[aj AJ.ga r.got.length AJ.gc],b,_,_,_,_,_,_,rd,by omega,by go_num,by rw[tV.out,dB];rfl,NG.out.1,NG.out.2,by rw[tV.out,dB];exact NO.out,by rw[tV.out];exact LS.out.snoc SH.out.1 Ub.out.1 Ub.out.2,PO.out,hLa,YH.out,NB.out⟩
     case measure=>simp[ba4];omega
    | true =>
     rw[hrd] at p5;have gt1:¬ r.dW>b.1:=fun h=>hc ⟨hrd,h⟩
     clear hc YG HR0 hrd;go_upto_region 8 with fail
     clear z6 p5 p6;have hO2:jk (W5.alloc (aH #[aj AJ.ga r.got.length AJ.gc] 41)) 1 gg og (mD m.rows L k).length cg vs:=jk.below QF.out ((aZ5 _ _).alloc (aZ0 _) _) QF.out.blk;go_wp2_with (at_builtin;refine iH _ rfl _ _ _ rfl 41 i1 _ 1 24 Tryz.underlying204 hi1 hy0 hy1 hy2 rfl (by omega) gg og (mD m.rows L k).length cg vs rfl hO2 ⟨W5.heap.size,0,ak⟩ 1 1 [aj AJ.ga r.got.length AJ.gc] rfl rfl (World.news_of_block (cs:=#[aj AJ.ga r.got.length AJ.gc]) (t:=41) (fr:=(0,0)) (heap_alloc_new _ _)) (by simp[aX4]) (by unfold ba2;omega) (by omega) ?_;intro g6 o6 c6 w6 CP zq xR)
     have hWs:(W5.alloc (aH #[aj AJ.ga r.got.length AJ.gc] 41)).heap.size=W5.heap.size+1:=by simp
     have Uc:=Dc.out.size;have QG:=Iy.out.lt;have hgb:=LG.out
     have NG:aG (X.heap.size<=g6/\g6≠X.heap.size+1):=by
      rcases xR with h|h
      ·rw[h];exact LG.out
      ·rw[h,hWs];exact⟨by omega,by omega⟩
     have NO:=dP CP;have NB:aG (Below X.heap.size X w6):=oL (Dc.out.alloc Dc.out.size _) zq LG.out.1 (aY2 Dc.out.size (by simp))
     have YH:aG (Bx w6 (X.heap.size+1) 44 #[x0,x1,x2,x3,x4,aF rd,ah aA b.1,x7]):=(zq.block (X.heap.size+1) (by omega) (by simp;exact fun e=>LG.out.2 e.symm)).trans ((Iy.out.alloc _))
     clear CP zq xR hO2 hWs Uc QG hgb;go_roundw
     case rel=>exact⟨k+1,g6,o6,c6,vs++[aj AJ.ga r.got.length AJ.gc],b,_,_,_,_,_,_,rd,by omega,by go_num,by rw[tV.out,dB];rfl,NG.out.1,NG.out.2,by rw[tV.out,dB];exact NO.out,by rw[tV.out];exact LS.out.snoc SH.out.1 Ub.out.1 Ub.out.2,PO.out,hLa,YH.out,NB.out⟩
     case measure=>simp[ba4];omega
  ·have k1:¬ ((k:Int)<L.length):=by omega
   obtain rfl:k=L.length:=by omega
   rw[aG,aV2] at GR;have z5:=hxl.at 5 (v:=aF rd) rfl;have z7:=hxl.at 7 (v:=x7) rfl
   cases rd with
   | true =>
    obtain⟨ta,tc,rfl,hvt⟩:=hLa.out.2 rfl;have h0:0<=b.1:=of_decide_eq_true hLa.out.1.symm;have GU:aG (endOf m.rows L=b.2):=by rw[aG,endOf,<- GR,if_neg (by omega)]
    have HVt:=dP (hvt.below LB.out (aZ0 _));clear hxl hvt GR hLa hb;go_wp2;go_ret
    rw[GU.out];exact⟨ta,tc,rfl,HVt.out,LB.out⟩
   | false =>
    have h0:¬ 0<=b.1:=of_decide_eq_false hLa.out.1.symm;have GU:aG (endOf m.rows L=meets m.rows L):=by rw[aG,endOf,<- GR,if_pos (by omega)]
    have hvv:=LS.out.vv LB.out LO.out;rw[JM m.rows (aZ0 _)] at hvv ⊢;rw[Vu] at hvv;have hD:=Vt 194 min al6 (fun _ _=>enters_of Tryz.func194 (by kernel_rfl) rfl _ _) (fun a a' len cap len' cap' xs ys w=>NZ a a' len cap len' cap' xs ys w) (au ⟨gg,og,ak⟩) L.length cg _ wr hvv (by omega) HEv.out
    rw[if_neg (by omega),pU.out] at hD
    clear hxl GR hLa hb hvv;go_wp2_with (go_at_call 193;refine hD.mono ?_;rintro e w3 ⟨sg,so,sc,rfl,hsg,hOi,hb3⟩)
    have HF:aG (Vec w3 (au ⟨sg,so,ak⟩) (meets m.rows L).length (meets m.rows L)/\Below X.heap.size X w3):=⟨mV (jv.2 ⟨_,sc,au sg,rfl,iV.of hOi,fun b=>Iff.rfl⟩) HFz.out,eP LB.out hb3⟩
    clear hOi hb3 hD;go_wp2;go_ret
    rw[GU.out];exact⟨_,_,rfl,HF.out⟩
theorem aw7 (w0:aI) (B:Nat) (m:Mb) (i n:Nat) (fp:Fp) (g off c:Nat) (X:aI) (M:Iw w0 X B m fp g off c) (ok:OkW m i n) (L:List Nat) (la:Option ba5) (lc:Nat) (hv:Vec X la (lN L).length (lN L)) (hLn:∀ k∈L,k<n) (Jo:L.length<=5) (hL0:0<L.length) :
  ba3 aZ8 172 #[aO (au ⟨B,0,ak⟩),aj la L.length lc] X fun e w'=>e=aK (.tuple #[])/\Iw w0 w' B { m with rows:=m.rows.set i (lead m.rows i (dO m.rows i) L) } fp g off c:=by
 have fU:=iq;have hil:i<m.rows.length:=by rw[ok.len];exact ok.lt
 have HM:=dP M;have iE:=dP ok;have HV:=dP hv;have HL:=dP hLn;have C9:aG (({ m with rows:=m.rows.set i (dO m.rows i) }:Mb)=m):=by rw[aG,pK (iZ hil)]
 obtain⟨c0,_⟩:=M.id';rw[ok.hid] at c0;have p0:∀ q:Bk X,q.w.cell? ⟨B,0,ak⟩=au (ah aA (i:Int)):=fun q=>fM q.h c0
 have hH:=TS w0 B m i n (i:Int) fp g off c X M ok;have hA:∀ q:Bk X,ba3 aZ8 186 #[aO (au ⟨B,0,ak⟩),aj la L.length lc] q.w fun e w'=>e=aK (aF (kX m.rows (dO m.rows i) L))/\Below q.w.heap.size q.w w':=fun q=>av9 w0 B m i n fp g off c q.w (HM.out.step q.h) iE.out L la lc (HV.out.below q.h (aZ0 _)) HL.out Jo
 have hTm:aG ((endOf m.rows L).length<=100/\True):=by
  refine⟨?_,trivial⟩;unfold endOf;have h5:=ok.n5
  split
  ·obtain ⟨h1,_⟩ := zD (R := m.rows) h5 (L := L) (by intro e;rw [e] at hL0;cases hL0) (fun k hk => by
    have h:=ok.ok k (hLn k hk);exact⟨h.gl,(jG h.n5 h.gl).1 ⟨h.got,h.g12⟩⟩)
   omega
  ·rcases (Bl m.rows L (-1,[])).1 with h|⟨k,hk,hr,h⟩
   ·rw[h];simp
   ·rw[h]
    have h2:=((ok.ok k (hLn k hk)).dV hr).2.2.2.1;simp only
    omega
 have HN:aG (¬ ((!(dO m.rows i).dV||decide ((dO m.rows i).dW<(i:Int)))=true/\kX m.rows (dO m.rows i) L=true)->lead m.rows i (dO m.rows i) L=dO m.rows i):=fun h=>by
  unfold lead
  split
  ·rfl
  ·rename_i h1
   rw[if_neg];intro h2;refine h ⟨?_,h2⟩
   cases hr:(dO m.rows i).dV with
   | false=>rfl
   | true =>
    simp only[Bool.not_true,Bool.false_or,decide_eq_true_eq]
    rcases Int.lt_or_le (dO m.rows i).dW (i:Int) with h3|h3
    ·exact h3
    ·exact absurd ⟨hr,h3⟩ h1
 have HY:aG ((!(dO m.rows i).dV||decide ((dO m.rows i).dW<(i:Int)))=true->kX m.rows (dO m.rows i) L=true->lead m.rows i (dO m.rows i) L={ dO m.rows i with dV:=true,dW:=(i:Int),dU:=endOf m.rows L }):=fun h1 h2=>by
  unfold lead;rw[if_neg,if_pos h2];rintro⟨h3,h4⟩;rw[h3] at h1;simp only[Bool.not_true,Bool.false_or,decide_eq_true_eq] at h1;omega
 generalize Nj:(!(dO m.rows i).dV||decide ((dO m.rows i).dW<(i:Int)))=he at *
 generalize hlo:kX m.rows (dO m.rows i) L=lo at *;clear M c0 hv Nj hlo
 cases he with
 | false =>
  have HE:aG (lead m.rows i (dO m.rows i) L=dO m.rows i):=HN.out (fun h=>by cases h.1)
  clear HN HY;go_enter Tryz.func172,Tryz.ntmps172
  have p1:=p0 ⟨X,aZ5 _ _⟩;simp only at p1
  clear p0 hA;go_wp2_with (go_at_call 184;refine hH.mono ?_;rintro e w1 ⟨rfl,hb1⟩;have HB1:aG (Below X.heap.size X w1):=hb1;clear hb1 p1)
  first|go_end0|go_ret
  exact⟨rfl,by rw[HE.out,C9.out];exact HM.out.step HB1.out⟩
 | true =>
 cases lo with
 | false =>
  have HE:aG (lead m.rows i (dO m.rows i) L=dO m.rows i):=HN.out (fun h=>by cases h.2)
  clear HN HY;go_enter Tryz.func172,Tryz.ntmps172
  have p1:=p0 ⟨X,aZ5 _ _⟩;simp only at p1
  go_wp2_with fail
  refine hH.mono ?_;rintro e w1 ⟨rfl,hb1⟩;have HB1:=dP hb1;have hA1:=hA ⟨w1,hb1⟩;simp only at hA1
  clear hb1 p1 hA;go_wp2_with fail
  refine hA1.mono ?_;rintro e w2 ⟨rfl,hb2⟩;have HB2:=dP hb2;clear hb2 hA1;go_wp2_with fail
  first|go_end0|go_ret
  exact⟨rfl,by rw[HE.out,C9.out];exact (HM.out.step HB1.out).step HB2.out⟩
 | true =>
  have HE:=dP (HY.out rfl rfl);clear HN HY;go_enter Tryz.func172,Tryz.ntmps172
  have p1:=p0 ⟨X,aZ5 _ _⟩;simp only at p1
  go_wp2_with fail
  refine hH.mono ?_;rintro e w1 ⟨rfl,hb1⟩;have HB1:=dP hb1;have hA1:=hA ⟨w1,hb1⟩;simp only at hA1
  clear hb1 p1 hA;go_wp2_with fail
  refine hA1.mono ?_;rintro e w2 ⟨rfl,hb2⟩;have HB2:=dP hb2;clear hb2 hA1;go_upto_region 1 with fail
  have HBX:=dP (eP HB1.out HB2.out);have hbd:=(Same.drewN w2 1).below;have KS:∀ Z,Below w2.heap.size w2 Z->Z.cell? ⟨B,0,ak⟩=au (ah aA (i:Int)):=fun Z hZ=>p0 ⟨Z,eP HBX.out hZ⟩
  have HT:=aw6 w0 B m i n fp g off c w2.drew ((HM.out.step HBX.out).step hbd) iE.out L la lc ((HV.out.below HBX.out (aZ0 _)).below hbd (aZ0 _)) HL.out Jo hL0;clear hH p0 HB1 HB2;refine lG (S:=fun Z:aI=>Z.cell? ⟨B,0,ak⟩=au (ah aA (i:Int))) 9 fU ((KS _ hbd)) fun hHeld=>?_
  refine fE (i:=0) rfl ?_;refine fE (i:=1) rfl ?_;refine fE (i:=2) rfl ?_;refine fE (i:=3) rfl ?_;refine nC (i:=4) rfl hHeld ?_;refine fE (i:=5) rfl ?_;refine fE (i:=6) rfl ?_;refine iy (i:=7) rfl fun K hK=>?_
  go_simp
  go_at_call 187
  refine HT.mono ?_;rintro e w3 ⟨ta,tc,rfl,hvt,hb3⟩;have ah4:=eP hbd hb3;have M3:=((HM.out.step HBX.out).step ah4);have hEb:=TU w0 B m i n (i:Int) (endOf m.rows L) ta tc fp g off c w3 M3 iE.out hvt hTm.out.1;refine hK.out _ _ (KS _ ah4) (fun eG=>?_)
  clear hK hHeld;have hHeld:=eG;try simp only[gW]
  refine iy (i:=8) rfl fun K hK=>?_
  go_simp
  go_at_call 185
  refine hEb.mono ?_;rintro e w4 ⟨rfl,xA⟩;have lU:=dP xA
  have h40:w4.cell? ⟨B,0,ak⟩=au (ah aA (i:Int)):=by
   have:=xA.id'.1;simp only at this
   rw[iE.out.hid] at this;exact this
  refine hK.out _ _ h40 (fun eG=>?_)
  clear hK hHeld;have hHeld:=eG;try simp only[gW]
  refine uT (by kernel_rfl) ?_
  clear hHeld hEb M3 xA h40 hvt hb3 ah4 HT KS hbd;try go_wp2
  first|go_end0|go_ret
  exact⟨rfl,by rw[HE.out];exact lU.out⟩
def Df (m:Mb) (i n:Nat):Rw:=if (fA n (dO m.rows i).dQ).getD 0 0≠i then adopt m.rows i (dO m.rows i) ((fA n (dO m.rows i).dQ).getD 0 0) else if n<2*(fA n (dO m.rows i).dQ).length then lead m.rows i (dO m.rows i) (fA n (dO m.rows i).dQ) else dO m.rows i
theorem aw8 (w0:aI) (B:Nat) (m:Mb) (i n:Nat) (fp:Fp) (g off c:Nat) (X:aI) (M:Iw w0 X B m fp g off c) (ok:iP m i n) :
  ba3 aZ8 143 #[aO (au ⟨B,0,ak⟩)] X fun e w'=>e=aK (.tuple #[])/\Iw w0 w' B { m with rows:=m.rows.set i (Df m i n) } fp g off c:=by
 have hil:i<m.rows.length:=by rw[ok.len];exact ok.lt
 have jy:=ok.n5;have hL:=KN w0 B m i n fp g off c X M ok;have kU:=dP M;have HLn:aG (∀ k∈fA n (dO m.rows i).dQ,k<n):=fun k hk=>(jd.1 hk).1
 have HLi:aG (0<(fA n (dO m.rows i).dQ).length):=List.length_pos_of_mem (jd.2 ⟨ok.lt,ok.self⟩);have Jo:=tX n (dO m.rows i).dQ;have HE:aG (Df m i n=if (fA n (dO m.rows i).dQ).getD 0 0≠i then adopt m.rows i (dO m.rows i) ((fA n (dO m.rows i).dQ).getD 0 0) else if n<2*(fA n (dO m.rows i).dQ).length then lead m.rows i (dO m.rows i) (fA n (dO m.rows i).dQ) else dO m.rows i):=rfl
 have C9:aG (({ m with rows:=m.rows.set i (dO m.rows i) }:Mb)=m):=by rw[aG,pK (iZ hil)]
 generalize Df m i n=rE at *;generalize GH:fA n (dO m.rows i).dQ=L at *;have hL5:L.length<=5:=by omega
 clear GH M;go_enter Tryz.func143,Tryz.ntmps143
 go_wp2_with fail
 refine hL.mono ?_;rintro e wl ⟨la,lc,rfl,fl,hl1,hl2,hl3⟩;rw[jq] at hl1 ⊢;have rX:Vec wl la (lN L).length (lN L):=mV (by rw[jq];exact hl1) (xP HLn.out (by omega))
 have GN:=dP rX;have fZ:=dP (kU.out.step hl3);obtain⟨c0,_⟩:=fZ.out.id';rw[ok.hid] at c0;have hMs:=Tq B m.rows.length c L.length lc (au ⟨g,off,ak⟩) la wl fZ.out.rws (by omega) (by rw[ok.len];exact jy.2)
 rw[ok.len] at hMs;have hl0:=HLi.out;rcases rX.2.2 with hz|⟨lb,lo,hla,hlc⟩
 ·rw[jq] at hz;omega
 have hlk:=hlc 0 (by rw[jq];exact hl0)
 rw[wR hl0,aY5] at hlk;have HF:=dP (HLn.out _ (mW hl0));have hEs:=aw1 w0 B m i n (L.getD 0 0) fp g off c wl fZ.out ok.Yx HF.out;have hEf:=aw7 w0 B m i n fp g off c wl fZ.out ok.Yx L la lc GN.out HLn.out hL5 hl0;generalize L.getD 0 0=f at *;have l1:(0:Int)<L.length:=by omega
 rw[hla] at hMs hEf ⊢;clear hl1 hl2 hl3 hL kU rX hlc hla;by_cases hfi:f=i
 ·have e1:((f:Int) != (i:Int))=aC:=by simp[hfi]
  by_cases hmj:n<2*L.length
  ·have HN:aG (rE=lead m.rows i (dO m.rows i) L):=by rw[aG,HE.out,if_neg (by simp[hfi]),if_pos hmj]
   rw[decide_eq_true hmj] at hMs;clear HE hfi hmj hEs;go_wp2_with (first|(go_at_call 171;refine fV hMs ?_)|(go_at_call 172;refine hEf.mono ?_;rintro e w2 ⟨rfl,hM2⟩;have ji:aG (Iw w0 w2 B { m with rows:=m.rows.set i (lead m.rows i (dO m.rows i) L) } fp g off c):=hM2;clear hM2))
   first|go_end0|go_ret
   exact⟨rfl,by rw[HN.out];exact ji.out⟩
  ·have HN:aG (rE=dO m.rows i):=by rw[aG,HE.out,if_neg (by simp[hfi]),if_neg hmj]
   rw[decide_eq_false hmj] at hMs;clear HE hfi hmj hEs hEf;go_wp2_with (go_at_call 171;refine fV hMs ?_)
   first|go_end0|go_ret
   exact⟨rfl,by rw[HN.out,C9.out];exact fZ.out⟩
 ·have e1:((f:Int) != (i:Int))=aB:=by simp;omega
  have HN:aG (rE=adopt m.rows i (dO m.rows i) f):=by rw[aG,HE.out,if_pos hfi]
  clear HE hfi hMs hEf;go_wp2_with (go_at_call 170;refine hEs.mono ?_;rintro e w2 ⟨rfl,hM2⟩;have ji:aG (Iw w0 w2 B { m with rows:=m.rows.set i (adopt m.rows i (dO m.rows i) f) } fp g off c):=hM2;clear hM2)
  first|go_end0|go_ret
  exact⟨rfl,by rw[HN.out];exact ji.out⟩
end Go.Proofs.YtafimeakbdmkjaaGreat