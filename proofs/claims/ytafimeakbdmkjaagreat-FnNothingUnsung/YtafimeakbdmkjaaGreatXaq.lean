/-
  Texts in one.
-/
import Derived.Test.YtafimeakbdmkjaaGreatXaa
import Derived.Test.YtafimeakbdmkjaaGreatXap
import Derived.Test.YtafimeakbdmkjaaGreatXao
import Derived.Test.YtafimeakbdmkjaaGreatXag
import Derived.Test.YtafimeakbdmkjaaGreatXai
import Derived.Test.YtafimeakbdmkjaaGreatXaf
import Derived.Test.YtafimeakbdmkjaaGreatXah
import Derived.Test.YtafimeakbdmkjaaGreatXab
import Derived.Test.YtafimeakbdmkjaaGreatXaj
import Derived.Test.YtafimeakbdmkjaaGreatXae
import Derived.Test.YtafimeakbdmkjaaGreatXac
import Derived.Shelf.Strconv.Clone
import Derived.Shelf.SlGeneric
import Derived.Lib.SliceRun
namespace Go.Proofs.YtafimeakbdmkjaaGreat
open Bool renaming and_eq_true->bI,false->aC,true->aB
open Go renaming Addr->dH,Calls->dF,Value->aJ,World->aI,maxLen->dD,wpQuiet_nil->dh
open Go.Ending renaming returned->aK
open Go.IntKind renaming i64->aA
open Go.Obj renaming cells->aH
open Go.Proofs.Tryz renaming prog->dA,underlying41->bG
open Go.RowKit renaming Hid->aG,intOf->dG
open Go.RowKit.Below renaming refl->dw
open Go.Value renaming bool->aF,int->ah,pointer->aO,slice->aj,string->aN
open Go.World renaming cell?_of_block->bf
open List renaming all_eq_true->bJ,length_cons->bP,length_set->bQ,length_take->bM,mem_cons->bW,mem_iff_getElem->bg
open Nat renaming le_refl->cO,le_trans->bZ,lt_succ_iff_lt_or_eq->aW,zero_le->cZ
open Option renaming none->ak,some->au
open Option.some renaming inj->bT
set_option linter.unusedVariables false
set_option linter.unusedSimpArgs false
open Go.RowKit Go.Sort
set_option maxRecDepth 100000
set_option maxHeartbeats 12800000
variable {w w':aI} {A:Ga} {g j k off:Nat} {T:TypeId} {r':Rw} {cl:dY}
theorem Ad (m:Mb):iG m=((inB m.n 1 5&&(inB m.id 0 (m.n-1)&&decide ((m.rows.length:Int)=m.n)))&&(m.rows.all (fun r=>gu r m.n)&&((decide (el m.own.got m.i=(m.own.txt.length:Int))&&decide (m.id∉m.own.dQ))&&(lY m.dR 60&&(if m.done=aB then m.own.dV else (List.range m.dR.length).all (fun i=>decide (el m.dR i=(i:Int)))))))):=by
 have hel:(∀ i,i<m.dR.length->inB (el m.dR i) 0 59=aB)↔∀ x∈m.dR,inB x 0 59=aB:=by
  constructor
  ·intro h x hx
   obtain⟨j,hj,rfl⟩:=bg.1 hx;have:=h j hj;simpa[el,hj] using this
  ·intro h i hi
   exact h _ (kK hi)
 rw[Bool.eq_iff_iff];unfold iG Et lY;simp only[bI,bJ,decide_eq_true_eq,List.mem_range,Bool.or_eq_true,Bool.not_eq_true']
 rw[show (60:Int)-1=59 from rfl]
 constructor
 ·rintro⟨h1,h2,h3,h4,h5,h6,h7,h8,h9,h10⟩
  refine⟨⟨h1,h2,h3⟩,h6,⟨h8,h9⟩,⟨hel.1 (fun i hi=>(h7 i hi).1),h5⟩, ?_⟩
  split
  ·rename_i hd
   rcases h10 with h|h
   ·rw[hd] at h;cases h
   ·exact h
  ·rename_i hd
   simp only[bJ,List.mem_range,decide_eq_true_eq]
   exact fun i hi=>((h7 i hi).2).resolve_left hd
 ·rintro⟨⟨h1,h2,h3⟩,h6,⟨h8,h9⟩,⟨h7,h5⟩,h10⟩
  refine⟨h1,h2,h3, ?_,h5,h6,fun i hi=>⟨hel.2 h7 i hi, ?_⟩,h8,h9, ?_⟩
  ·refine AU (k:=60) (kZ.1 h5) (fun x hx=>?_)
   have:=iZ.1 (h7 x hx);omega
  ·by_cases hd:m.done=aB
   ·exact .inl hd
   ·rw[if_neg hd] at h10
    simp only[bJ,List.mem_range,decide_eq_true_eq] at h10;exact .inr (h10 i hi)
  ·by_cases hd:m.done=aB
   ·rw[if_pos hd] at h10;exact .inr h10
   ·exact .inl (by simpa using hd)
theorem tY.below {A: Ma} {m: Mb} (h:tY w A m) (hb:Below w.heap.size w w'):tY w' A m:=by
 obtain⟨f,hf⟩:=h.own;exact⟨⟨f,gG hf hb⟩,h.fit,h.i64,h.sz⟩
theorem Jr {F:Rw->Nat} {r:Rw}:∀ {R:List Rw},r∈R->F r<=(R.map F).sum
 | x::R,h=>by
  rw[List.map_cons,List.sum_cons];rcases bW.1 h with h|h
  ·rw[h];omega
  ·have:=Jr (F:=F) h;omega
theorem aa3 {m: Mb} {r: Rw} (h:r∈m.rows):kH r<=tX m:=by
 have:=Jr (F:=kH) h;unfold tX H6 Gy;rw[List.take_length];omega
theorem tY.row {A: Ma} {m: Mb} (h:tY w A m) (hk:k<m.rows.length):∃ g off Ak,A.ra=au ⟨g,off,ak⟩/\C8 w g (off+k*8) (ah aA (dO m.rows k).ver) (aj Ak.ta (dO m.rows k).txt.length Ak.tc) (aj Ak.ga (dO m.rows k).got.length Ak.gc) (aj Ak.sa (dO m.rows k).dQ.length Ak.sc) (aF (dO m.rows k).wed) (aF (dO m.rows k).dV) (ah aA (dO m.rows k).dW) (aj Ak.ma (dO m.rows k).dU.length Ak.mc)/\ql w Ak (dO m.rows k):=by
 obtain⟨f,hf⟩:=h.own;obtain⟨f1,f2,o1,o2,_,_⟩:=SI hf;obtain⟨g,off,f3,hra,_,_,⟨vs,hpc,hov,_⟩,_⟩:=yx jU (by omega) o1 (iV hk)
 obtain⟨Ak,rfl,hl⟩:=wP hov;have lV:(fQ Ak (dO m.rows k)).toList.length=8:=rfl;have c:=hpc.cell;have hfit:=h.fit.1 _ (pG hk);have hs:=aa3 (pG hk);exact⟨g,off,Ak,hra,⟨⟨c 0 (by rw[lV];omega),c 1 (by rw[lV];omega),c 2 (by rw[lV];omega),c 3 (by rw[lV];omega)⟩,c 4 (by rw[lV];omega),c 5 (by rw[lV];omega),c 6 (by rw[lV];omega),c 7 (by rw[lV];omega)⟩,BR (zW hl (lo:=0) (fun b _=>cZ b)) hfit (h.i64.2.2 _ (pG hk)) (bZ hs h.sz)⟩
theorem tY.Js {A: Ma} {m: Mb} (h:tY w A m):yF w A m:=by
 obtain⟨f,hf⟩:=h.own;exact av3 (yj hf) h.fit
def xZ (s:List Int):Bool:=(List.range s.length).all (fun i=>decide (el s i=(i:Int)))
theorem an9 (a:Option dH) (cap:Nat) (xs:List Int) (w:aI) (hv:Vec w a xs.length xs) (hm:xs.length<=dD) :
  dF dA 90 #[aj a xs.length cap] w fun e w'=>e=aK (aF (xZ xs))/\w'=w:=by
 obtain⟨_,_,hc⟩:=hv;unfold dD at hm
 have HT:aG ((∀ j,j<xs.length->el xs j=(j:Int))->xZ xs=aB):=fun h=>by
  simp only[aG,xZ,bJ,List.mem_range,decide_eq_true_eq]
  exact h
 have HF:aG (∀ k,k<xs.length->el xs k≠(k:Int)->xZ xs=aC):=fun k hk h=>by
  rw[Bool.eq_false_iff];intro hq;simp only[xZ,bJ,List.mem_range,decide_eq_true_eq] at hq;exact h (hq k hk)
 generalize xZ xs=Q at *;go_enter Tryz.func90,Tryz.ntmps90
 go_wp2
 go_loopw [7] (fun i wr=>∃ k:Nat,k<=xs.length/\i=ah aA k/\(∀ j,j<k->el xs j=(j:Int))/\wr=w) (fun i _=>xs.length-(dG i).toNat)
 case atStart=>exact⟨0,cZ _,rfl,fun j hj=>by omega,rfl⟩
 case round =>
  obtain⟨k,hk,rfl,hall,rfl⟩:=hrel;have HA:=dP hall;clear hall;by_cases hlt:k<xs.length
  ·rcases hc with h0|⟨b,off,rfl,hc⟩
   ·omega
   have hck:=hc k hlt;have k1:(k:Int)<xs.length:=by omega
   have k0:(0:Int)<=k:=by omega
   by_cases he:el xs k=(k:Int)
   ·have HK:aG (∀ j,j<k+1->el xs j=(j:Int)):=fun j hj=>by
     by_cases e:j=k
     ·subst e;exact he
     ·exact HA.out j (by omega)
    have e1:((el xs k) != (k:Int))=aC:=by simp[he]
    clear he hc;generalize el xs k=x at *;go_wp2;go_roundw
    case rel=>exact⟨k+1,by omega,by go_num,HK.out,by first|rfl|trivial⟩
    case measure=>simp[dG];omega
   ·have HK:aG (Q=aC):=HF.out k hlt he
    have e1:((el xs k) != (k:Int))=aB:=by simp[he]
    clear he hc;generalize el xs k=x at *;go_wp2;go_ret
    exact⟨dZ (by rw[HK.out]),by first|rfl|trivial⟩
  ·have k1:¬ ((k:Int)<xs.length):=by omega
   obtain rfl:k=xs.length:=by omega
   have HK:=dP (HT.out HA.out);clear hc;go_wp2;go_ret
   exact⟨dZ (by rw[HK.out]),by first|rfl|trivial⟩
theorem PV {m: Mb} (h:(inB m.n 1 5&&(inB m.id 0 (m.n-1)&&decide ((m.rows.length:Int)=m.n)))=aC):iG m=aC:=by rw[Ad,h];rfl
theorem az2 {m: Mb} (hk:k<m.rows.length) (h:gu (dO m.rows k) m.n=aC):iG m=aC:=by
 have:m.rows.all (fun r=>gu r m.n)=aC:=by
  rw[Bool.eq_false_iff];intro hq;rw[bJ.1 hq _ (pG hk)] at h
  cases h
 rw[Ad,this];simp
theorem az3 {m: Mb} (h:(decide (el m.own.got m.i=(m.own.txt.length:Int))&&decide (m.id∉m.own.dQ))=aC):iG m=aC:=by rw[Ad,h];simp
theorem az4 {m: Mb} (h:lY m.dR 60=aC):iG m=aC:=by rw[Ad,h];simp
theorem az5 {m: Mb} (h1:(inB m.n 1 5&&(inB m.id 0 (m.n-1)&&decide ((m.rows.length:Int)=m.n)))=aB) (h2:∀ k,k<m.rows.length->gu (dO m.rows k) m.n=aB) (h3:(decide (el m.own.got m.i=(m.own.txt.length:Int))&&decide (m.id∉m.own.dQ))=aB) (h4:lY m.dR 60=aB):iG m=(if m.done=aB then m.own.dV else xZ m.dR):=by
 have:m.rows.all (fun r=>gu r m.n)=aB:=by
  rw[bJ];intro r hr;obtain⟨k,hk,rfl⟩:=bg.1 hr;have:=h2 k hk;simpa[dO,List.getD,hk] using this
 rw[Ad,h1,this,h3,h4]
 rfl
theorem ao0 (A:Ma) (m:Mb) (w:aI) (hv:tY w A m) :
  dF dA 48 #[iU A m] w fun e w'=>((iG m=aB/\e=aK (.tuple #[]))\/(iG m=aC/\Gu e))/\Below w.heap.size w w':=by
 have gq:=iD;have hb0:=dX w (aH (iq A m) 47);have hx0:=Bx.new w 47 (iq A m);have h0:=hv.below hb0;unfold iU iq at *;generalize qP:w.alloc (aH #[ah aA m.id,ah aA m.n,aj A.ra m.rows.length A.rc,aj A.sa m.dR.length A.sc,aF m.done] 47)=W at *;have HB0:=dP hb0;have HP:=dP h0;have HX:=dP hx0;obtain⟨c0,c1,c2,c3,c4⟩:=Bx.r5 hx0;have hsl:=h0.Js.ms;have hrl:=h0.Js.mr;unfold dD at hsl hrl;clear hb0 h0 hx0 hv
 cases e1:inB m.n 1 5 with
 | false =>
  have HZ:aG (iG m=aC):=PV (by rw[e1];rfl)
  go_enter Tryz.func48,Tryz.ntmps48
  go_wp2_with (first|(go_at_call 52;refine (vO _ _).mono ?_;rintro e w' ⟨rfl,hw'⟩;rw[hw',e1];clear hw')|(go_at_call 86;refine (rG _).mono ?_;rintro e w' ⟨⟨T,v,rfl⟩,hw'⟩;rw[hw'];clear hw'))
  exact⟨rfl,.inr ⟨HZ.out,_,_,rfl⟩,HB0.out⟩
 | true =>
 have jq:=iZ.1 e1;have hwn:wrap64 (m.n-1)=m.n-1:=by unfold wrap64;omega
 cases e2:inB m.id 0 (m.n-1) with
 | false =>
  have HZ:aG (iG m=aC):=PV (by rw[e1,e2];rfl)
  go_enter Tryz.func48,Tryz.ntmps48
  go_wp2_with (first|(go_at_call 52;refine (vO _ _).mono ?_;rintro e w' ⟨rfl,hw'⟩;rw[hw',e1];clear hw')|(go_at_call 87;refine (kV _ _ _).mono ?_;rintro e w' ⟨rfl,hw'⟩;rw[hw',e2];clear hw')|(go_at_call 86;refine (rG _).mono ?_;rintro e w' ⟨⟨T,v,rfl⟩,hw'⟩;rw[hw'];clear hw'))
  exact⟨rfl,.inr ⟨HZ.out,_,_,rfl⟩,HB0.out⟩
 | true =>
 have hid:=iZ.1 e2;by_cases e3:(m.rows.length:Int)=m.n
 case neg =>
  have HZ:aG (iG m=aC):=PV (by rw[e1,e2,decide_eq_false e3];rfl)
  have e3':((m.rows.length:Int)==m.n)=aC:=by simpa using e3
  go_enter Tryz.func48,Tryz.ntmps48
  go_wp2_with (first|(go_at_call 52;refine (vO _ _).mono ?_;rintro e w' ⟨rfl,hw'⟩;rw[hw',e1];clear hw')|(go_at_call 87;refine (kV _ _ _).mono ?_;rintro e w' ⟨rfl,hw'⟩;rw[hw',e2];clear hw')|(go_at_call 86;refine (rG _).mono ?_;rintro e w' ⟨⟨T,v,rfl⟩,hw'⟩;rw[hw'];clear hw'))
  exact⟨rfl,.inr ⟨HZ.out,_,_,rfl⟩,HB0.out⟩
 have H1:aG ((inB m.n 1 5&&(inB m.id 0 (m.n-1)&&decide ((m.rows.length:Int)=m.n)))=aB):=by rw[aG,e1,e2,decide_eq_true e3];rfl
 have e3':((m.rows.length:Int)==m.n)=aB:=by simpa using e3
 have hRl:∀ X,dF dA 52 #[ah aA m.n] X fun e w'=>e=aK (aF aB)/\w'=X:=fun X=>by
  have:=vO m.n X;rw[e1] at this;exact this
 have L6:∀ X,dF dA 87 #[ah aA m.id,ah aA (m.n-1)] X fun e w'=>e=aK (aF aB)/\w'=X:=fun X=>by
  have:=kV m.id (m.n-1) X;rw[e2] at this;exact this
 have HI:aG (∃ i:Nat,m.id=(i:Int)/\i<m.rows.length/\m.i=i):=⟨m.id.toNat,by omega,by omega,rfl⟩
 have HN:aG (∃ n:Nat,m.n=(n:Int)/\m.rows.length=n/\1<=n/\n<=5):=⟨m.n.toNat,by omega,by omega,by omega,by omega⟩
 clear e1 e2 e3 hid;go_enter Tryz.func48,Tryz.ntmps48
 go_wp2_with (first|(go_at_call 52;refine fV (hRl _) ?_)|(go_at_call 87;refine fV (L6 _) ?_)|(go_at_call 86;refine fV (wW _) ?_))
 clear hRl L6 c0 c1 c2 c3 c4
 go_loopw [28] (fun v wr=>∃ k:Nat,k<=m.rows.length/\v=ah aA (k:Int)/\(∀ j,j<k->gu (dO m.rows j) m.n=aB)/\Below W.heap.size W wr) (fun v _=>m.rows.length-(dG v).toNat)
 case atStart=>exact⟨0,cZ _,rfl,fun j hj=>by omega,dw _ _⟩
 case round =>
  obtain⟨k,hk,rfl,hall,hbr⟩:=hrel;have HA:=dP hall;have CU:=dP hbr;obtain⟨c0,c1,c2,c3,c4⟩:=Bx.r5 (HX.out.below hbr);by_cases hlt:k<m.rows.length
  ·obtain⟨g,off,Ak,hra,⟨⟨d0,d1,d2,d3⟩,d4,d5,d6,d7⟩,nM⟩:=(HP.out.below hbr).row hlt
   have HZ:aG (gu (dO m.rows k) m.n=aC->iG m=aC):=fun h=>az2 hlt h
   rw[hra] at *;have k0:(0:Int)<=k:=by omega
   have k1:(k:Int)<m.rows.length:=by omega
   have HK:aG (gu (dO m.rows k) m.n=aB->∀ j,j<k+1->gu (dO m.rows j) m.n=aB):=fun h j hj=>by
    by_cases e:j=k
    ·subst e;exact h
    ·exact HA.out j (by omega)
   generalize dO m.rows k=r at *;have hbl:=dX wr (aH #[ah aA r.ver,aj Ak.ta r.txt.length Ak.tc,aj Ak.ga r.got.length Ak.gc,aj Ak.sa r.dQ.length Ak.sc,aF r.wed,aF r.dV,ah aA r.dW,aj Ak.ma r.dU.length Ak.mc] 44);have hxr:=Bx.new wr 44 #[ah aA r.ver,aj Ak.ta r.txt.length Ak.tc,aj Ak.ga r.got.length Ak.gc,aj Ak.sa r.dQ.length Ak.sc,aF r.wed,aF r.dV,ah aA r.dW,aj Ak.ma r.dU.length Ak.mc];have Gz:=H8 Ak r m.n _ (nM.below hbl);unfold iK fQ at Gz;have pU:=dP (eU CU.out hbl);have c1':=gy hbl c1;obtain⟨⟨x0,x1,x2,x3⟩,x4,x5,x6,x7⟩:=Bx.r8 hxr;clear nM hall hbl hxr;go_upto_region 5 with fail
   generalize wr.alloc (aH #[ah aA r.ver,aj Ak.ta r.txt.length Ak.tc,aj Ak.ga r.got.length Ak.gc,aj Ak.sa r.dQ.length Ak.sc,aF r.wed,aF r.dV,ah aA r.dW,aj Ak.ma r.dU.length Ak.mc] 44)=W5 at *;clear c0 c1 c2 c3 c4 d0 d1 d2 d3 d4 d5 d6 d7
   cases hb:gu r m.n with
   | false =>
    have HZ1:=dP (HZ.out hb);rw[hb] at Gz;go_wp2_with (first|(go_at_call 51;refine Gz.mono ?_;rintro e w1 ⟨rfl,hb1⟩;have HB1:aG (Below w.heap.size w w1):=(eU HB0.out pU.out).trans (hb1.mono (eU HB0.out pU.out).size);clear hb1)|(go_at_call 86;refine (rG _).mono ?_;rintro e w' ⟨⟨T,v,rfl⟩,hw'⟩;rw[hw'];clear hw'))
    exact⟨rfl,.inr ⟨HZ1.out,_,_,rfl⟩,HB1.out⟩
   | true =>
    have HK1:=HK.out hb;have HK2:=dP HK1;rw[hb] at Gz;clear HK HK1;go_wp2_with (first|(go_at_call 51;refine Gz.mono ?_;rintro e w1 ⟨rfl,hb1⟩;have HB1:aG (Below W.heap.size W w1):=eU pU.out hb1;clear hb1)|(go_at_call 86;refine fV (wW _) ?_))
    go_roundw
    case rel=>exact⟨k+1,by omega,by go_num,HK2.out,HB1.out⟩
    case measure=>simp[dG];omega
  ·have k1:¬ ((k:Int)<m.rows.length):=by omega
   obtain rfl:k=m.rows.length:=by omega
   have H2:=dP HA.out;obtain⟨i,hi,hil,hmi⟩:=HI.out;obtain⟨n,hn,hln,hn1,aN9⟩:=HN.out;obtain⟨g,off,Ak,hra,⟨⟨d0,d1,d2,d3⟩,d4,d5,d6,d7⟩,nM⟩:=(HP.out.below hbr).row hil
   have hgl:i<(dO m.rows i).got.length:=by
    have:=rC.1 (by rw[<- hn];exact HA.out i hil:gu (dO m.rows i) (n:Int)=aB)
    rw[this.gl];omega
   have UU:aG (m.own=dO m.rows i):=by rw[aG,Mb.own,hmi]
   have i0:(0:Int)<=i:=by omega
   have i1:(i:Int)<m.rows.length:=by omega
   have i2:(i:Int)<((dO m.rows i).got.length:Int):=by omega
   have hsu:∀ X,Below W.heap.size W X->dF dA 89 #[aj A.sa m.dR.length A.sc,ah aA 59] X fun e w'=>e=aK (aF (lY m.dR 60))/\w'=X:=fun X hX=>by
    have:=PO A.sa m.dR.length A.sc 60 m.dR X (HP.out.Js.dR.below hX (cO _)) HP.out.Js.ms;rw[SL] at this;exact this
   have hcf:∀ X,Below W.heap.size W X->dF dA 90 #[aj A.sa m.dR.length A.sc] X fun e w'=>e=aK (aF (xZ m.dR))/\w'=X:=fun X hX=>an9 A.sa A.sc m.dR X (HP.out.Js.dR.below hX (cO _)) HP.out.Js.ms
   have H3:aG ((decide (el (dO m.rows i).got i=((dO m.rows i).txt.length:Int))&&decide ((i:Int)∉(dO m.rows i).dQ))=aC->iG m=aC):=fun h=>az3 (by rw[UU.out,hmi,hi];exact h)
   have H4:aG (lY m.dR 60=aC->iG m=aC):=az4
   have H5:aG ((decide (el (dO m.rows i).got i=((dO m.rows i).txt.length:Int))&&decide ((i:Int)∉(dO m.rows i).dQ))=aB->lY m.dR 60=aB->iG m=(if m.done=aB then (dO m.rows i).dV else xZ m.dR)):=fun h1 h2=>by
    have:=az5 H1.out H2.out (by rw[UU.out,hmi,hi];exact h1) h2
    rw[UU.out] at this;exact this
   have hgc:∀ X,Below wr.heap.size wr X->∃ gb go,Ak.ga=au ⟨gb,go,ak⟩/\X.cell? ⟨gb,go+i,ak⟩=au (ah aA (el (dO m.rows i).got i)):=fun X hX=>by
    rcases (nM.below hX).got.vec.2.2 with h|⟨gb,go,e,h⟩
    ·omega
    ·exact⟨gb,go,e,h i hgl⟩
   have az6:∀ X,Below wr.heap.size wr X->dF dA 88 #[aj Ak.sa (dO m.rows i).dQ.length Ak.sc,ah aA (i:Int)] X fun e w'=>e=aK (aF (decide ((i:Int)∈(dO m.rows i).dQ)))/\w'=X:=fun X hX=>tZ Ak.sa Ak.sc (dO m.rows i).dQ (i:Int) X (nM.below hX).dQ.vec (nM.below hX).rws.ms
   rw[hi] at c0;rw[hra] at c2;generalize hOK:iG m=OK at *;have iE:=dP hOK;clear hOK;generalize dO m.rows i=r at *;generalize hge:el r.got i=gi at *;generalize lY m.dR 60=sb at *;generalize xZ m.dR=fb at *;have hbl:=dX wr (aH #[ah aA r.ver,aj Ak.ta r.txt.length Ak.tc,aj Ak.ga r.got.length Ak.gc,aj Ak.sa r.dQ.length Ak.sc,aF r.wed,aF r.dV,ah aA r.dW,aj Ak.ma r.dU.length Ak.mc] 44);have hxr:=Bx.new wr 44 #[ah aA r.ver,aj Ak.ta r.txt.length Ak.tc,aj Ak.ga r.got.length Ak.gc,aj Ak.sa r.dQ.length Ak.sc,aF r.wed,aF r.dV,ah aA r.dW,aj Ak.ma r.dU.length Ak.mc];have qK:=dP hxr;have pU:=dP (eU CU.out hbl);have HBl:=dP hbl;have HMX:aG (∀ X,Below W.heap.size W X->Bx X w.heap.size 47 #[ah aA m.id,ah aA m.n,aj A.ra m.rows.length A.rc,aj A.sa m.dR.length A.sc,aF m.done]):=fun X h=>HX.out.below h
   clear nM hall hbl hxr HP HA hbr H1 H2 UU;have hwl:=HX.out.lt;have hwr2:=CU.out.size;go_upto_region 8 with fail
   generalize wr.alloc (aH #[ah aA r.ver,aj Ak.ta r.txt.length Ak.tc,aj Ak.ga r.got.length Ak.gc,aj Ak.sa r.dQ.length Ak.sc,aF r.wed,aF r.dV,ah aA r.dW,aj Ak.ma r.dU.length Ak.mc] 44)=W5 at *;clear c0 c1 c2 c3 c4 d0 d1 d2 d3 d4 d5 d6 d7 hra;have facts:∀ X,Below W5.heap.size W5 X->Below W.heap.size W X/\Below w.heap.size w X:=fun X h=>⟨eU pU.out h,(eU HB0.out pU.out).trans (h.mono (eU HB0.out pU.out).size)⟩
   have HFa:=dP facts;obtain⟨⟨x0,x1,x2,x3⟩,x4,x5,x6,x7⟩:=Bx.r8 qK.out;obtain⟨c0,c1,c2,c3,c4⟩:=Bx.r5 (HMX.out _ pU.out);rw[hi] at c0;obtain⟨gb,go,hga,Xr⟩:=hgc _ HBl.out;rw[hga] at x2;have T:∀ {x v},W5.cell? x=au v->∀ q:Bk W5,q.w.cell? x=au v:=fun h q=>gy q.h h
   have y0:=T c0;have y1:=T x1;have y2:=T x2;have y3:=T x3;have y4:=T Xr;have L9:∀ q:Bk W5,dF dA 88 #[aj Ak.sa r.dQ.length Ak.sc,ah aA (i:Int)] q.w fun e w'=>e=aK (aF (decide ((i:Int)∈r.dQ)))/\Below q.w.heap.size q.w w':=fun q=>(az6 q.w (eU HBl.out q.h)).mono (fun e w' h=>⟨h.1,by rw[h.2];exact dw _ _⟩)
   have HL:=dP hln;clear T x0 x1 x2 x3 x4 x5 x6 x7 c0 c1 c2 c3 c4 facts az6 hgc hga Xr hln hi hmi;by_cases e7:gi=(r.txt.length:Int)
   case neg =>
    have HZ:aG (OK=aC):=H3.out (by rw[decide_eq_false e7];rfl)
    have e7':(gi==(r.txt.length:Int))=aC:=by simpa using e7
    clear e7 H3 H4 H5;refine gK (C:=fun w'=>∃ p:Bk W5,w'=p.w) 18 gq (by kernel_rfl) ⟨⟨W5.drewN 1,fO (dw _ _)⟩,rfl⟩ ?_
    simp only[List.take_succ_cons,List.take_zero]
    repeat (go_big_quiet_step ((first|(go_at_call 88;exact eY _ (L9 _))|rfl)))
    refine dh (iL fun wE eG=>?_)
    simp only[List.drop_succ_cons,List.drop_zero]
    have Bg:aG (Below w.heap.size w wE):=(HFa.out _ eG).2;clear y0 y1 y2 y3 y4 eG;go_wp2_with (go_at_call 86;refine (rG _).mono ?_;rintro e w' ⟨⟨T,v,rfl⟩,hw'⟩;rw[hw'];clear hw')
    exact⟨rfl,.inr ⟨iE.out.trans HZ.out,_,_,rfl⟩,Bg.out⟩
   have e7':(gi==(r.txt.length:Int))=aB:=by simpa using e7
   by_cases e8:(i:Int)∈r.dQ
   ·have HZ:aG (OK=aC):=H3.out (by rw[decide_eq_true e7,decide_eq_false (by simpa using e8)];rfl)
    rw[decide_eq_true e8] at L9;clear e7 H3 H4 H5 e8;refine gK (C:=fun w'=>∃ p:Bk W5,w'=p.w) 18 gq (by kernel_rfl) ⟨⟨W5.drewN 1,fO (dw _ _)⟩,rfl⟩ ?_
    simp only[List.take_succ_cons,List.take_zero]
    repeat (go_big_quiet_step ((first|(go_at_call 88;exact eY _ (L9 _))|rfl)))
    refine dh (iL fun wE eG=>?_)
    simp only[List.drop_succ_cons,List.drop_zero]
    have Bg:aG (Below w.heap.size w wE):=(HFa.out _ eG).2;clear y0 y1 y2 y3 y4 eG;go_wp2_with (go_at_call 86;refine (rG _).mono ?_;rintro e w' ⟨⟨T,v,rfl⟩,hw'⟩;rw[hw'];clear hw')
    exact⟨rfl,.inr ⟨iE.out.trans HZ.out,_,_,rfl⟩,Bg.out⟩
   have HZ5:aG (sb=aB->OK=(if m.done=aB then r.dV else fb)):=H5.out (by rw[decide_eq_true e7,decide_eq_true e8];rfl)
   rw[decide_eq_false e8] at L9;clear e7 H3 H5 e8;refine gK (C:=fun w'=>∃ p:Bk W5,w'=p.w) 18 gq (by kernel_rfl) ⟨⟨W5.drewN 1,fO (dw _ _)⟩,rfl⟩ ?_
   simp only[List.take_succ_cons,List.take_zero]
   repeat (go_big_quiet_step ((first|(go_at_call 88;exact eY _ (L9 _))|rfl)))
   refine dh (iL fun wE eG=>?_)
   simp only[List.drop_succ_cons,List.drop_zero]
   have Bg:aG (Below w.heap.size w wE):=(HFa.out _ eG).2;have hBW:=(HFa.out _ eG).1;have PW:=hsu _ hBW;have az7:=hcf _ hBW;obtain⟨c0,c1,c2,c3,c4⟩:=Bx.r5 (HMX.out _ hBW);obtain⟨⟨x0,x1,x2,x3⟩,x4,x5,x6,x7⟩:=Bx.r8 (qK.out.below eG);clear y0 y1 y2 y3 y4 eG hBW L9 hsu hcf
   cases sb with
   | false =>
    have HZ:=dP (H4.out rfl);go_wp2_with (first|(go_at_call 89;refine fV PW ?_)|(go_at_call 86;first|(refine fV (wW _) ?_)|(refine (rG _).mono ?_;rintro e w' ⟨⟨T,v,rfl⟩,hw'⟩;rw[hw'];clear hw')))
    exact⟨rfl,.inr ⟨iE.out.trans HZ.out,_,_,rfl⟩,Bg.out⟩
   | true =>
    have HZ:=HZ5.out rfl;have HZ6:=dP HZ;clear HZ HZ5 H4
    cases hd:m.done with
    | true =>
     rw[hd] at c4
     cases hr:r.dV with
     | true =>
      have HZ:aG (OK=aB):=by rw[aG,HZ6.out,hd,hr];rfl
      rw[hr] at x5;clear hd hr;go_wp2_with (first|(go_at_call 89;refine fV PW ?_)|(go_at_call 86;refine fV (wW _) ?_))
      first|go_end0|go_ret
      exact⟨.inl ⟨iE.out.trans HZ.out,rfl⟩,Bg.out⟩
     | false =>
      have HZ:aG (OK=aC):=by rw[aG,HZ6.out,hd,hr];rfl
      rw[hr] at x5;clear hd hr;go_wp2_with (first|(go_at_call 89;refine fV PW ?_)|(go_at_call 86;first|(refine fV (wW _) ?_)|(refine (rG _).mono ?_;rintro e w' ⟨⟨T,v,rfl⟩,hw'⟩;rw[hw'];clear hw')))
      exact⟨rfl,.inr ⟨iE.out.trans HZ.out,_,_,rfl⟩,Bg.out⟩
    | false =>
     rw[hd] at c4
     cases fb with
     | true =>
      have HZ:aG (OK=aB):=by rw[aG,HZ6.out,hd];rfl
      clear hd;go_wp2_with (first|(go_at_call 89;refine fV PW ?_)|(go_at_call 90;refine fV az7 ?_)|(go_at_call 86;refine fV (wW _) ?_))
      first|go_end0|go_ret
      exact⟨.inl ⟨iE.out.trans HZ.out,rfl⟩,Bg.out⟩
     | false =>
      have HZ:aG (OK=aC):=by rw[aG,HZ6.out,hd];rfl
      clear hd;go_wp2_with (first|(go_at_call 89;refine fV PW ?_)|(go_at_call 90;refine fV az7 ?_)|(go_at_call 86;first|(refine fV (wW _) ?_)|(refine (rG _).mono ?_;rintro e w' ⟨⟨T,v,rfl⟩,hw'⟩;rw[hw'];clear hw')))
      exact⟨rfl,.inr ⟨iE.out.trans HZ.out,_,_,rfl⟩,Bg.out⟩
theorem PX (A:Ma) (m:Mb) (w:aI) (hv:tY w A m) :
  dF dA 53 #[iU A m] w fun e w'=>e=aK (aF (iG m))/\Below w.heap.size w w':=by
 have hmf:∀ (fn:Fn) (first cap:Array aJ) (w:aI),(Instr.makeFunc fn first cap).run dA w=.ok (.func fn first cap) w:=fun _ _ _ _=>rfl
 have hb0:=dX w (aH (iq A m) 47);have hx0:=Bx.new w 47 (iq A m);have h0:=hv.below hb0;have hb1:=dX (w.alloc (aH (iq A m) 47)) (aH #[aF aC] 4)
 have hT := PN 48 #[iU A m] #[] (w.alloc (aH (iq A m) 47)) (fun b X => b = iG m /\ Below ((w.alloc (aH (iq A m) 47)).alloc (aH #[aF aC] 4)).heap.size ((w.alloc (aH (iq A m) 47)).alloc (aH #[aF aC] 4)) X) (fun _ _ => enters_of Tryz.func48 (by kernel_rfl) rfl _ _) ((ao0 A m _ (h0.below hb1)).mono (fun e w' ⟨h1,h2⟩ => by
  rcases h1 with ⟨h,h1⟩|⟨h,h1⟩
  ·exact .inl ⟨h1,h.symm,h2⟩
  ·exact .inr ⟨h1,h.symm,h2⟩)) (fun b X h=>(Bx.new _ _ _).below h.2)
 have hF:∀ e w',(∃ b X,e=Ending.returned (aF b)/\(b=iG m/\Below ((w.alloc (aH (iq A m) 47)).alloc (aH #[aF aC] 4)).heap.size ((w.alloc (aH (iq A m) 47)).alloc (aH #[aF aC] 4)) X)/\eX (fun x=>x=(w.alloc (aH (iq A m) 47)).heap.size) X w')->e=aK (aF (iG m))/\Below w.heap.size w w':=by
  rintro e w' ⟨b,X,rfl,⟨rfl,h1⟩,h2⟩;have hs:=hb0.size;have hbX:=(eU hb0 hb1).trans (h1.mono (eU hb0 hb1).size);exact⟨rfl,h2.below hbX hbX.size (fun b e=>by omega)⟩
 have hT2:=hT.mono hF;obtain⟨c0,c1,c2,c3,c4⟩:=Bx.r5 hx0;clear hF hT hb1 h0 hx0 hb0 hv;unfold iU iq at *;generalize iG m=OK at *;generalize qP:w.alloc (aH #[ah aA m.id,ah aA m.n,aj A.ra m.rows.length A.rc,aj A.sa m.dR.length A.sc,aF m.done] 47)=W at *;go_enter Tryz.func53,Tryz.ntmps53
 go_wp2_with (go_at_call 46;refine hT2.mono ?_;rintro e w1 ⟨rfl,hb1⟩;have HB1:aG (Below w.heap.size w w1):=hb1;clear hb1)
 go_ret
 exact⟨rfl,HB1.out⟩
def mY (n:Int) (xs:List Int):Bool:=(List.range xs.length).all (fun i=>inB (el xs i) 0 (n-1)&&decide (el xs i∉xs.take i))
theorem PY (n f t:Int):mY n [f,t]=(inB f 0 (n-1)&&(inB t 0 (n-1)&&decide (f≠t))):=by
 have e:List.range [f,t].length=[0,1]:=rfl;rw[mY,e];simp[el,eq_comm]
theorem aa4 (n f:Int):mY n [f]=inB f 0 (n-1):=by
 have e:List.range [f].length=[0]:=rfl;rw[mY,e];simp[el]
theorem ao1 {a: Option dH} {n c: Nat} (ha:a≠ak) (hj:j<=n) (hc:n<=c) (hm:c<=dD) (X:aI) :
  (Instr.slice 41 (aj a n c) ak (au (ah aA (j:Int))) ak).run dA X=.ok (aj a j c) X:=by
 obtain⟨i0,hi0,hz0,hz1,hz2⟩:=jX Tryz.info2n;unfold dD at hm
 have hs:(Instr.slice 41 (aj a n c) ak (au (ah aA (j:Int))) ak).run dA X=.ok (sliced a 0 j c 1) X:=by
  rw[run_slice_h X 41 a n c (by kernel_rfl) aA (j:Int) (by omega) (by omega)]
  rw[show Tryz.prog.elem 41=2 by kernel_rfl]
  rw[run_sizeOf X hi0,show Tryz.prog.cellsOf 2=1 by kernel_rfl]
  simp[Result.andThen]
 rw[hs]
 have e:(if c=0 then a else a.map (·.add (0*1)))=a:=by
  split
  ·rfl
  ·cases a with
   | none=>exact absurd rfl ha
   | some p=>simp[Addr.add]
 simp only[sliced,e,Nat.sub_zero]
theorem J6 (n:Int) (b off c:Nat) (xs:List Int) (w:aI) (hv:Vec w (au ⟨b,off,ak⟩) xs.length xs) (hl:xs.length<=100) (hc:xs.length<=c) (hm:c<=dD) (hn:-1000000<=n/\n<=1000000) :
  dF dA 54 #[ah aA n,aj (au ⟨b,off,ak⟩) xs.length c] w fun e w'=>e=aK (aF (mY n xs))/\w'=w:=by
 have HV:=dP hv;have hw:wrap64 (n-1)=n-1:=by unfold wrap64;omega
 have hsl:=fun (j:Nat) (hj:j<=xs.length) (X:aI)=>ao1 (a:=au ⟨b,off,ak⟩) (n:=xs.length) (c:=c) (j:=j) (by simp) hj hc hm X
 have Ce:=dP hsl
 have HC:aG (∀ j,j<xs.length->dF dA 88 #[aj (au ⟨b,off,ak⟩) j c,ah aA (el xs j)] w fun e w'=>e=aK (aF (decide (el xs j∈xs.take j)))/\w'=w):=fun j hj=>by
  have e:(xs.take j).length=j:=by rw[bM];omega
  have hvt:Vec w (au ⟨b,off,ak⟩) (xs.take j).length (xs.take j):=by
   refine⟨rfl,fun x hx=>hv.2.1 x (List.mem_of_mem_take hx),.inr ⟨b,off,rfl,fun k hk=>?_⟩⟩
   rcases hv.2.2 with h0|⟨b',o',ee,hcell⟩
   ·omega
   ·cases ee
    rw[hcell k (by omega)]
    simp[el,List.getD,show k<j by omega]
  have:=tZ (au ⟨b,off,ak⟩) c (xs.take j) (el xs j) w hvt (by unfold dD;omega)
  rw[e] at this;exact this
 clear hv hsl;go_enter Tryz.func54,Tryz.ntmps54
 go_wp2
 go_loop [9] (fun i=>∃ k:Nat,k<=xs.length/\i=ah aA (k:Int)/\aG (∀ j,j<k->(inB (el xs j) 0 (n-1)&&decide (el xs j∉xs.take j))=aB)) (fun i=>xs.length-(dG i).toNat)
 case atStart=>exact⟨0,cZ _,rfl,fun j hj=>by omega⟩
 case round =>
  obtain⟨k,hk,rfl,HA⟩:=hrel;by_cases hlt:k<xs.length
  ·rcases HV.out.2.2 with h0|⟨b',o',ee,hcell⟩
   ·omega
   cases ee
   have hck:=hcell k hlt;have k1:(k:Int)<xs.length:=by omega
   have k0:(0:Int)<=k:=by omega
   have hT:=Ce.out k hk;have hCk:=HC.out k hlt;have hI:∀ z,z=n-1->dF dA 87 #[ah aA (el xs k),ah aA z] w fun e w'=>e=aK (aF (inB (el xs k) 0 (n-1)))/\w'=w:=fun z hz=>by rw[hz];exact kV _ _ w
   have HF:aG ((inB (el xs k) 0 (n-1)&&decide (el xs k∉xs.take k))=aC->mY n xs=aC):=fun h=>by
    rw[mY,List.all_eq_false];exact⟨k,List.mem_range.2 hlt,by rw[h];decide⟩
   have HT:aG ((inB (el xs k) 0 (n-1)&&decide (el xs k∉xs.take k))=aB->∀ j,j<k+1->(inB (el xs j) 0 (n-1)&&decide (el xs j∉xs.take j))=aB):=fun h j hj=>by
    rcases aW.1 hj with h1|h1
    ·exact HA.out j h1
    ·rw[h1];exact h
   clear hcell;have hd:decide (el xs k∉xs.take k)=!decide (el xs k∈xs.take k):=by simp
   rw[hd] at HF HT;clear hd;generalize decide (el xs k∈xs.take k)=q at *;generalize inB (el xs k) 0 (n-1)=p at *;generalize el xs k=x at *
   cases p with
   | false =>
    have HZ:=dP (HF.out rfl);clear HF HT;go_wp2_with (go_at_call 87;refine fV (hI _ (by first|rfl|exact hw)) ?_)
    go_ret
    exact⟨dZ (by rw[HZ.out]),rfl⟩
   | true =>
    cases q with
    | true =>
     have HZ:=dP (HF.out rfl);clear HF HT;go_wp2_with (first|(go_at_call 87;refine fV (hI _ (by first|rfl|exact hw)) ?_)|(go_at_call 88;refine fV hCk ?_))
     go_ret
     exact⟨dZ (by rw[HZ.out]),rfl⟩
    | false =>
     have HZ:aG _:=HT.out rfl;clear HF HT;go_wp2_with (first|(go_at_call 87;refine fV (hI _ (by first|rfl|exact hw)) ?_)|(go_at_call 88;refine fV hCk ?_))
     go_round
     case rel=>exact⟨k+1,by omega,by go_num,HZ⟩
     case measure=>simp[dG];omega
  ·have k1:¬ ((k:Int)<xs.length):=by omega
   have HZ:aG (mY n xs=aB):=by
    rw[aG,mY,bJ];intro j hj;exact HA.out j (by have:=List.mem_range.1 hj;omega)
   go_wp2;go_ret
   exact⟨dZ (by rw[HZ.out]),rfl⟩
theorem uU.below {g: Gr} (h:uU w A g) (hb:Below w.heap.size w w'):uU w' A g:=by
 obtain⟨f,hf⟩:=h.own;exact⟨⟨f,gG hf hb⟩,h.fit,h.i64,h.sz⟩
theorem uU.Mc {g: Gr} (h:uU w A g):wZ w A g:=by
 obtain⟨f,hf⟩:=h.own;exact Ol (yj hf) h.fit
theorem Ae {g: Gr} (hk:k<g.mem.length):eF g k∈g.mem:=List.mem_of_getElem? (rX hk)
theorem Fj {g: Gr} (hk:k<g.dS.length):fF g k∈g.dS:=List.mem_of_getElem? (nH hk)
theorem PZ {g: Gr} {m: Mb} (h:m∈g.mem):tX m<=E8 g:=by
 obtain⟨k,hk,rfl⟩:=bg.1 h;have h1:=ZN (R:=g.mem) hk;have h2:=ZO (R:=g.mem) (show k+1<=g.mem.length by omega)
 have e:Xg g.mem k=g.mem[k]:=by simp[Xg,List.getD,hk]
 rw[e] at h1;unfold E8 ZP;omega
theorem aa5 {g: Gr} {x: Ml} (h:x∈g.dS):kH x.row<=E8 g:=by
 obtain⟨k,hk,rfl⟩:=bg.1 h;have h1:=ZQ (R:=g.dS) hk;have h2:=ZR (R:=g.dS) (show k+1<=g.dS.length by omega)
 have e:Xh g.dS k=g.dS[k]:=by simp[Xh,List.getD,hk]
 rw[e] at h1;have h3:H7 g.dS[k]=kH g.dS[k].row:=rfl;unfold E8 ZT;omega
theorem uU.member {g: Gr} (h:uU w A g) (hk:k<g.mem.length):∃ b off Ak,A.ma=au ⟨b,off,ak⟩/\C5 w b (off+k*5) (ah aA (eF g k).id) (ah aA (eF g k).n) (aj Ak.ra (eF g k).rows.length Ak.rc) (aj Ak.sa (eF g k).dR.length Ak.sc) (aF (eF g k).done)/\tY w Ak (eF g k):=by
 obtain⟨f,hf⟩:=h.own;obtain⟨u1,vW,f1,f2,e,o1,_,_,_⟩:=hf
 cases e
 obtain⟨b,off,f3,hra,_,_,⟨vs,hpc,hov,_⟩,_⟩:=yx uz (by omega) o1 (rX hk)
 obtain⟨Ak,rfl,hl⟩:=IJ hov;have hl5:(iq Ak (eF g k)).toList.length=5:=rfl;have c:=hpc.cell;exact⟨b,off,Ak,hra,⟨c 0 (by rw[hl5];omega),c 1 (by rw[hl5];omega),c 2 (by rw[hl5];omega),c 3 (by rw[hl5];omega),c 4 (by rw[hl5];omega)⟩,⟨f3,hl⟩,h.fit.1 _ (Ae hk),h.i64.1 _ (Ae hk),bZ (PZ (Ae hk)) h.sz⟩
theorem uU.letter {g: Gr} (h:uU w A g) (hk:k<g.dS.length):∃ b off Ak,A.la=au ⟨b,off,ak⟩/\w.cell? ⟨b,off+k*10,ak⟩=au (ah aA (fF g k).fr)/\w.cell? ⟨b,off+k*10+1,ak⟩=au (ah aA (fF g k).to)/\C8 w b (off+k*10+2) (ah aA (fF g k).row.ver) (aj Ak.ta (fF g k).row.txt.length Ak.tc) (aj Ak.ga (fF g k).row.got.length Ak.gc) (aj Ak.sa (fF g k).row.dQ.length Ak.sc) (aF (fF g k).row.wed) (aF (fF g k).row.dV) (ah aA (fF g k).row.dW) (aj Ak.ma (fF g k).row.dU.length Ak.mc)/\ql w Ak (fF g k).row:=by
 obtain⟨f,hf⟩:=h.own;obtain⟨u1,vW,f1,f2,e,_,hf2,_,_⟩:=hf
 cases e
 obtain⟨u2,wY,f4,f5,e,_,hf3,_,_⟩:=hf2
 cases e
 obtain⟨u3,Es,f6,f7,e,o3,_,_,_⟩:=hf3
 cases e
 obtain⟨b,off,f3,hra,_,_,⟨vs,hpc,hov,_⟩,_⟩:=yx rD (by omega) o3 (nH hk)
 obtain⟨us0,rfl,hq0⟩:=qF hov;obtain⟨us9,rfl,hq1⟩:=qF hq0;obtain⟨Ak,rfl,hl⟩:=wP hq1;have lV:(fQ Ak (fF g k).row).toList.length=8:=rfl;have c:=hpc.cell
 have c':∀ j,j<8->w.cell? ⟨b,off+k*10+2+j,ak⟩=(fQ Ak (fF g k).row).toList[j]?:=fun j hj=>by
  have:=c (j+2) (by simp[lV];omega)
  rw[show off+k*10+(j+2)=off+k*10+2+j by omega] at this
  rw[this];simp[lV,hj]
 have hx:=Fj hk;refine⟨b,off,Ak,hra,c 0 (by simp),c 1 (by simp),⟨⟨c' 0 (by omega),c' 1 (by omega),c' 2 (by omega),c' 3 (by omega)⟩,c' 4 (by omega),c' 5 (by omega),c' 6 (by omega),c' 7 (by omega)⟩,BR (zW hl (lo:=0) (fun b _=>cZ b)) (h.fit.2 _ hx) (h.i64.2 _ hx).2.2 (bZ (aa5 hx) h.sz)⟩
theorem Bx.DJ {B: Nat} {x0 x1 x2 x3 x4 x5 x6 x7 x8 x9: aJ} (h:Bx w B T #[x0,x1,x2,x3,x4,x5,x6,x7,x8,x9]):(w.cell? ⟨B,0,ak⟩=au x0/\w.cell? ⟨B,1,ak⟩=au x1/\w.cell? ⟨B,2,ak⟩=au x2/\w.cell? ⟨B,3,ak⟩=au x3/\w.cell? ⟨B,4,ak⟩=au x4)/\w.cell? ⟨B,5,ak⟩=au x5/\w.cell? ⟨B,6,ak⟩=au x6/\w.cell? ⟨B,7,ak⟩=au x7/\w.cell? ⟨B,8,ak⟩=au x8/\w.cell? ⟨B,9,ak⟩=au x9 :=
 ⟨⟨h.at 0 rfl,h.at 1 rfl,h.at 2 rfl,h.at 3 rfl,h.at 4 rfl⟩,h.at 5 rfl,h.at 6 rfl,h.at 7 rfl,h.at 8 rfl,h.at 9 rfl⟩
theorem UW (x:Ml) (n:Int):pI x n=(mY n [x.fr,x.to]&&gu x.row n):=by
 rw[PY,pI]
 cases inB x.fr 0 (n-1)<;>cases inB x.to 0 (n-1)<;>simp
theorem aa6 (w:aI) (x y:Int) (hx:ji x) (hy:ji y):Vec (w.alloc (aH #[ah aA x,ah aA y] 2)) (au ⟨w.heap.size,0,ak⟩) [x,y].length [x,y]:=by
 refine⟨rfl,fun z hz=>?_,.inr ⟨w.heap.size,0,rfl,fun k hk=>?_⟩⟩
 ·rcases bW.1 hz with h|h
  ·rw[h];exact hx
  ·rw[List.mem_singleton.1 h];exact hy
 ·have hb:=Bx.new w 2 #[ah aA x,ah aA y]
  match k,hk with
  | 0,_=>exact hb.at 0 rfl
  | 1,_=>exact hb.at 1 rfl
theorem P6 (A:Ga) (g:Gr) (w:aI) (hv:uU w A g) :
  dF dA 18 #[gX A g] w fun e w'=>e=aK (aF (jA g))/\Below w.heap.size w w':=by
 have hb0:=dX w (aH #[aj A.ma g.mem.length A.mc,aj A.ua g.up.length A.uc,aj A.la g.dS.length A.lc] 28);have hx0:=Bx.new w 28 #[aj A.ma g.mem.length A.mc,aj A.ua g.up.length A.uc,aj A.la g.dS.length A.lc];have HV:=dP (hv.below hb0);have HX:=dP hx0;have HB0:=dP hb0;have hI:=vO (g.mem.length:Int) (w.alloc (aH #[aj A.ma g.mem.length A.mc,aj A.ua g.up.length A.uc,aj A.la g.dS.length A.lc] 28));have hgs:=hv.Mc;have hlm:=hgs.lm;have hlu:=hgs.lu;have hll:=hgs.ll;unfold dD at hlm hlu hll;obtain⟨c0,c1,c2⟩:=Bx.g3 hx0;unfold gX iW;clear hv hb0 hx0 hgs;by_cases hn:inB (g.mem.length:Int) 1 5=aB;rotate_left
 ·have hn':inB (g.mem.length:Int) 1 5=aC:=by simpa using hn
  have HZ:aG (jA g=aC):=by
   by_cases h1:1<=g.mem.length
   ·exact VT (fun h2=>hn (iZ.2 ⟨by omega,by omega⟩))
   ·exact VR h1
  rw[hn'] at hI;clear hn hn';go_enter Tryz.func18,Tryz.ntmps18
  go_upto_region 1 with fail
  generalize w.alloc (aH #[aj A.ma g.mem.length A.mc,aj A.ua g.up.length A.uc,aj A.la g.dS.length A.lc] 28)=W0 at *;go_wp2_with (go_at_call 52;refine fV hI ?_)
  go_ret
  exact⟨dZ (by rw[HZ.out]),HB0.out⟩
 rw[hn] at hI;have jq:=iZ.1 hn;clear hn;by_cases hu:g.up.length=g.mem.length;rotate_left
 ·have HZ:aG (jA g=aC):=VU hu
  have e1:((g.up.length:Int) != (g.mem.length:Int))=aB:=by simp;omega
  clear hu;go_enter Tryz.func18,Tryz.ntmps18
  go_upto_region 1 with fail
  generalize w.alloc (aH #[aj A.ma g.mem.length A.mc,aj A.ua g.up.length A.uc,aj A.la g.dS.length A.lc] 28)=W0 at *;go_wp2_with (go_at_call 52;refine fV hI ?_)
  go_ret
  exact⟨dZ (by rw[HZ.out]),HB0.out⟩
 have e1:((g.up.length:Int) != (g.mem.length:Int))=aC:=by simp;omega
 have HU:=dP hu;clear hu;by_cases hm:g.dS.length<=200;rotate_left
 ·have HZ:aG (jA g=aC):=VW hm
  have e2:(g.dS.length:Int)>200:=by omega
  clear hm;go_enter Tryz.func18,Tryz.ntmps18
  go_upto_region 1 with fail
  generalize w.alloc (aH #[aj A.ma g.mem.length A.mc,aj A.ua g.up.length A.uc,aj A.la g.dS.length A.lc] 28)=W0 at *;go_wp2_with (go_at_call 52;refine fV hI ?_)
  go_ret
  exact⟨dZ (by rw[HZ.out]),HB0.out⟩
 have e2:¬ (g.dS.length:Int)>200:=by omega
 go_enter Tryz.func18,Tryz.ntmps18
 go_upto_region 1 with fail
 generalize w.alloc (aH #[aj A.ma g.mem.length A.mc,aj A.ua g.up.length A.uc,aj A.la g.dS.length A.lc] 28)=W0 at *;go_wp2_with (go_at_call 52;refine fV hI ?_)
 clear c0 c1 c2 hI e1 e2
 go_loopw [32] (fun v wr=>∃ k:Nat,k<=g.mem.length/\v=ah aA (k:Int)/\aG (∀ j,j<k->oJ g j=aB)/\Below W0.heap.size W0 wr) (fun v _=>g.mem.length-(dG v).toNat)
 case atStart=>exact⟨0,cZ _,rfl,fun j hj=>by omega,dw _ _⟩
 case round =>
  obtain⟨k,hk,rfl,HA,hb⟩:=hrel;have HB:=dP hb;by_cases hlt:k<g.mem.length
  ·obtain⟨bb,off,Ak,hma,⟨d0,d1,d2,d3,d4⟩,hmp⟩:=(HV.out.below hb).member hlt
   have HF:aG (oJ g k=aC->jA g=aC):=fun h=>VX hlt h
   have HT:aG (oJ g k=aB->∀ j,j<k+1->oJ g j=aB):=fun h j hj=>by
    rcases aW.1 hj with h1|h1
    ·exact HA.out j h1
    ·rw[h1];exact h
   have HO:aG (oJ g k=(iG (eF g k)&&(decide ((eF g k).id=(k:Int))&&decide ((eF g k).n=(g.mem.length:Int))))):=rfl;have k1:(k:Int)<g.mem.length:=by omega
   have k0:(0:Int)<=k:=by omega
   generalize oJ g k=on at *;generalize eF g k=m at *;rw[hma];have SK:=dP hma;have hba:=dX wr (aH #[ah aA m.id,ah aA m.n,aj Ak.ra m.rows.length Ak.rc,aj Ak.sa m.dR.length Ak.sc,aF m.done] 47);have hxm:=Bx.new wr 47 #[ah aA m.id,ah aA m.n,aj Ak.ra m.rows.length Ak.rc,aj Ak.sa m.dR.length Ak.sc,aF m.done];have mZ:=dP (eU HB.out hba);have hMk:=PX Ak m (wr.alloc (aH #[ah aA m.id,ah aA m.n,aj Ak.ra m.rows.length Ak.rc,aj Ak.sa m.dR.length Ak.sc,aF m.done] 47)) (hmp.below hba);unfold iU iq at hMk;obtain⟨y0,y1,y2,y3,y4⟩:=Bx.r5 hxm;clear hmp hb hba hxm hma;go_upto_region 7 with fail
   clear d0 d1 d2 d3 d4;generalize wr.alloc (aH #[ah aA m.id,ah aA m.n,aj Ak.ra m.rows.length Ak.rc,aj Ak.sa m.dR.length Ak.sc,aF m.done] 47)=W5 at *;by_cases q1:m.id=(k:Int);rotate_left
   ·have z1:(m.id != (k:Int))=aB:=by simp[q1]
    have HZ:aG (jA g=aC):=HF.out (by rw[HO.out,decide_eq_false q1];simp)
    clear HF HT HO q1;go_wp2_with fail
    go_ret
    exact⟨dZ (by rw[HZ.out]),eU HB0.out mZ.out⟩
   have z1:(m.id != (k:Int))=aC:=by simp[q1]
   by_cases q2:m.n=(g.mem.length:Int);rotate_left
   ·have z2:(m.n != (g.mem.length:Int))=aB:=by simp[q2]
    have HZ:aG (jA g=aC):=HF.out (by rw[HO.out,decide_eq_false q2];simp)
    clear HF HT HO q1 q2;go_wp2_with fail
    go_ret
    exact⟨dZ (by rw[HZ.out]),eU HB0.out mZ.out⟩
   have z2:(m.n != (g.mem.length:Int))=aC:=by simp[q2]
   have xg:aG (on=iG m):=by rw[aG,HO.out,decide_eq_true q1,decide_eq_true q2];simp
   clear HO q1 q2;generalize iG m=ob at *;go_wp2_with fail
   refine hMk.mono ?_;rintro e w6 ⟨rfl,hb6⟩;have uS:=dP (eU mZ.out hb6);clear hMk hb6 y0 y1 y2 y3 y4 z1 z2
   cases ob with
   | false =>
    have HZ:=dP (HF.out xg.out);clear HF HT xg;go_wp2_with fail
    go_ret
    exact⟨dZ (by rw[HZ.out]),eU HB0.out uS.out⟩
   | true =>
    have HZ:=dP (HT.out xg.out);clear HF HT xg;go_wp2_with fail
    go_roundw
    case rel=>exact⟨k+1,by omega,by go_num,HZ.out,uS.out⟩
    case measure=>simp[dG];omega
  ·have k1:¬ ((k:Int)<g.mem.length):=by omega
   have HM:aG (∀ j,j<g.mem.length->oJ g j=aB):=fun j hj=>HA.out j (by omega)
   obtain⟨c0,c1,c2⟩:=Bx.g3 (HX.out.below hb);clear hb HA;go_wp2_with fail
   clear c0 c1 c2 k1;generalize wr=V at *
   go_loopw [56] (fun v wr=>∃ k:Nat,k<=g.dS.length/\v=ah aA (k:Int)/\aG (∀ j,j<k->pI (fF g j) (g.mem.length:Int)=aB)/\Below W0.heap.size W0 wr) (fun v _=>g.dS.length-(dG v).toNat)
   case atStart=>exact⟨0,cZ _,rfl,fun j hj=>by omega,HB.out⟩
   case round =>
    obtain⟨k,hk,rfl,HA,hb⟩:=hrel;have HB2:=dP hb;by_cases hlt:k<g.dS.length
    ·obtain⟨bb,off,Ak,hla,d0,d1,⟨⟨d2,d3,d4,d5⟩,d6,d7,d8,d9⟩,nM⟩:=(HV.out.below hb).letter hlt
     have aa7:=HV.out.i64.2 _ (Fj hlt);have HF:aG (pI (fF g k) (g.mem.length:Int)=aC->jA g=aC):=fun h=>VY hlt h
     have HT:aG (pI (fF g k) (g.mem.length:Int)=aB->∀ j,j<k+1->pI (fF g j) (g.mem.length:Int)=aB):=fun h j hj=>by
      rcases aW.1 hj with h1|h1
      ·exact HA.out j h1
      ·rw[h1];exact h
     have HO:aG (pI (fF g k) (g.mem.length:Int)=(mY (g.mem.length:Int) [(fF g k).fr,(fF g k).to]&&gu (fF g k).row (g.mem.length:Int))):=UW _ _;have k1:(k:Int)<g.dS.length:=by omega
     have k0:(0:Int)<=k:=by omega
     generalize pI (fF g k) (g.mem.length:Int)=on at *;generalize (fF g k).row=r at *;generalize (fF g k).fr=fr at *;generalize (fF g k).to=tt at *;rw[hla];have HLa:=dP hla;have hba:=dX wr (aH #[ah aA fr,ah aA tt,ah aA r.ver,aj Ak.ta r.txt.length Ak.tc,aj Ak.ga r.got.length Ak.gc,aj Ak.sa r.dQ.length Ak.sc,aF r.wed,aF r.dV,ah aA r.dW,aj Ak.ma r.dU.length Ak.mc] 68);have hxm:=Bx.new wr 68 #[ah aA fr,ah aA tt,ah aA r.ver,aj Ak.ta r.txt.length Ak.tc,aj Ak.ga r.got.length Ak.gc,aj Ak.sa r.dQ.length Ak.sc,aF r.wed,aF r.dV,ah aA r.dW,aj Ak.ma r.dU.length Ak.mc];have mZ:=dP (eU HB2.out hba);have az8:=nM.below hba;have Xt:=dP az8;have HXm:=dP hxm;obtain⟨⟨y0,y1,_,_,_⟩,_⟩:=Bx.DJ hxm;clear nM az8 hb hba hxm hla;go_upto_region 13 with fail
     clear d0 d1 d2 d3 d4 d5 d6 d7 d8 d9;generalize wr.alloc (aH #[ah aA fr,ah aA tt,ah aA r.ver,aj Ak.ta r.txt.length Ak.tc,aj Ak.ga r.got.length Ak.gc,aj Ak.sa r.dQ.length Ak.sc,aF r.wed,aF r.dV,ah aA r.dW,aj Ak.ma r.dU.length Ak.mc] 68)=W5 at *;have hb7:=dX W5 (aH #[ah aA fr,ah aA tt] 2);have SN:=J6 (g.mem.length:Int) W5.heap.size 0 2 [fr,tt] (W5.alloc (aH #[ah aA fr,ah aA tt] 2)) (aa6 W5 fr tt aa7.1 aa7.2.1) (by simp) (by simp) (by unfold dD;omega) (by omega)
     have LD:=dP (eU mZ.out hb7);have Gz:=Xq Ak r (g.mem.length:Int) (W5.alloc (aH #[ah aA fr,ah aA tt] 2)) (Xt.out.below hb7) (by unfold ji;omega)
     obtain⟨_,y5,y6,y7,y8,y9⟩:=Bx.DJ (HXm.out.below hb7);obtain⟨⟨_,_,y2,y3,y4⟩,_⟩:=Bx.DJ (HXm.out.below hb7);unfold iK fQ at Gz;simp only[bP,List.length_nil,Nat.zero_add,Nat.reduceAdd] at SN;generalize mY (g.mem.length:Int) [fr,tt]=p at *;clear hb7 aa7
     cases p with
     | false =>
      have HZ:aG (jA g=aC):=HF.out (by rw[HO.out];rfl)
      clear HF HT HO Gz y2 y3 y4 y5 y6 y7 y8 y9;go_wp2_with (go_at_call 54;refine fV SN ?_)
      go_ret
      exact⟨dZ (by rw[HZ.out]),eU HB0.out LD.out⟩
     | true =>
      have xg:aG (on=gu r (g.mem.length:Int)):=by rw[aG,HO.out,Bool.true_and]
      clear HO;generalize gu r (g.mem.length:Int)=ob at *;go_wp2_with (go_at_call 54;refine fV SN ?_)
      refine Gz.mono ?_;rintro e w6 ⟨rfl,hb6⟩;have uS:=dP (eU LD.out hb6);clear Gz hb6 SN y0 y1 y2 y3 y4 y5 y6 y7 y8 y9
      cases ob with
      | false =>
       have HZ:=dP (HF.out xg.out);clear HF HT xg;go_wp2_with fail
       go_ret
       exact⟨dZ (by rw[HZ.out]),eU HB0.out uS.out⟩
      | true =>
       have HZ:=dP (HT.out xg.out);clear HF HT xg;go_wp2_with fail
       go_roundw
       case rel=>exact⟨k+1,by omega,by go_num,HZ.out,uS.out⟩
       case measure=>simp[dG];omega
    ·have k1:¬ ((k:Int)<g.dS.length):=by omega
     have HZ:aG (jA g=aB):=Om (by omega) (by omega) HU.out hm HM.out (fun j hj=>HA.out j (by omega))
     clear hb HA;go_wp2_with fail
     go_ret
     exact⟨dZ (by rw[HZ.out]),eU HB0.out HB2.out⟩
theorem BK:QT:=fun A g w h=>P6 A g w h
def lH (m:Mb):List dY:=[.v (ah aA m.id),iH 8 jo m.rows,gJ m.dR,.v (aF m.done)]
def C4 (w:aI) (B:Nat) (x0 x1 x2 x3:aJ):Prop:=w.cell? ⟨B,0,ak⟩=au x0/\w.cell? ⟨B,1,ak⟩=au x1/\w.cell? ⟨B,2,ak⟩=au x2/\w.cell? ⟨B,3,ak⟩=au x3
structure Iw (w X:aI) (B:Nat) (m:Mb) (fp:Fp) (g off c:Nat):Prop where
 iw:fH w X B 0 (lH m) fp
 rws:X.cell? ⟨B,1,ak⟩=au (aj (au ⟨g,off,ak⟩) m.rows.length c)
theorem Iw.start {B: Nat} {m: Mb} {fp: Fp} (h:iP w B 0 (lH m) fp) (hn:0<m.rows.length):∃ g off c,Iw w w B m fp g off c:=by
 obtain⟨g,off,c,f,h1,_⟩:=h.el (F:=jo) jU (by omega) (j:=1) (L:=m.rows) rfl (iV hn)
 exact⟨g,off,c,fH.refl h,h1⟩
theorem Iw.step {X X': aI} {B: Nat} {m: Mb} {fp: Fp} {c: Nat} (h:Iw w X B m fp g off c) (hb:Below X.heap.size X X'):Iw w X' B m fp g off c:=⟨h.iw.below hb,gy hb h.rws⟩
theorem Iw.box {X: aI} {B: Nat} {m: Mb} {fp: Fp} {c: Nat} (h:Iw w X B m fp g off c) (hf:nG m):∃ sa sc,C4 X B (ah aA m.id) (aj (au ⟨g,off,ak⟩) m.rows.length c) (aj sa m.dR.length sc) (aF m.done)/\yF X ⟨au ⟨g,off,ak⟩,c,sa,sc⟩ m:=by
 obtain⟨gU,hp,_⟩:=h.iw.next;have hv:=hp.pv;obtain⟨u0,c0,rfl⟩:=hv.at (j:=0) rfl;obtain⟨u2,c2,v2⟩:=hv.at (j:=1) rfl;obtain⟨u3,c3,v3⟩:=hv.at (j:=2) rfl;obtain⟨u4,c4,rfl⟩:=hv.at (j:=3) rfl;have e2:=bT (c2.symm.trans h.rws);subst e2;obtain⟨sa,sc,rfl,s1,s2,s3⟩:=l7 v3 hf.2;have k:=v2;obtain⟨_,_,_,e,k1,k2,_⟩:=k
 cases e
 exact⟨sa,sc,⟨c0,c2,c3,c4⟩,v2,s1,by omega,by omega,hf.1⟩
theorem Iw.id' {X: aI} {B: Nat} {m: Mb} {fp: Fp} {c: Nat} (h:Iw w X B m fp g off c):X.cell? ⟨B,0,ak⟩=au (ah aA m.id)/\X.cell? ⟨B,3,ak⟩=au (aF m.done):=by
 obtain⟨gU,hp,_⟩:=h.iw.next;have hv:=hp.pv;obtain⟨u0,c0,rfl⟩:=hv.at (j:=0) rfl;obtain⟨u4,c4,rfl⟩:=hv.at (j:=3) rfl;exact⟨c0,c4⟩
theorem Iw.row {w X:aI} {B:Nat} {m:Mb} {fp:Fp} {g off c:Nat} (h:Iw w X B m fp g off c) (hf:nG m) {k:Nat} (hk:k<m.rows.length):∃ Ak:Ra,C8 X g (off+k*8) (ah aA (dO m.rows k).ver) (aj Ak.ta (dO m.rows k).txt.length Ak.tc) (aj Ak.ga (dO m.rows k).got.length Ak.gc) (aj Ak.sa (dO m.rows k).dQ.length Ak.sc) (aF (dO m.rows k).wed) (aF (dO m.rows k).dV) (ah aA (dO m.rows k).dW) (aj Ak.ma (dO m.rows k).dU.length Ak.mc)/\qj X Ak (dO m.rows k):=by
 obtain⟨sa,sc,_,h2⟩:=h.box hf;obtain⟨g',off',Ak,e,h3,h4⟩:=h2.row hk
 cases e
 exact⟨Ak,h3,h4⟩
theorem Iw.at {w X:aI} {B:Nat} {m:Mb} {fp:Fp} {g off c:Nat} (h:Iw w X B m fp g off c) {k:Nat} (hk:k<m.rows.length) {j:Nat} {cl:dY} (hj:(jo (dO m.rows k))[j]?=au cl):∃ u f,X.cell? ⟨g,off+k*8+j,ak⟩=au u/\X.frozen? ⟨g,off+k*8+j,ak⟩=aC/\dY.ow X cl u f/\(∀ b,f b->b<X.heap.size) /\
  ∀ (X1:aI) (c':dY) (u':aJ) (f':Fp) (r':Rw),(jo (dO m.rows k)).set j c'=jo r'->eX f X X1->dY.ow X1 c' u' f'->(∀ b,f' b->f b\/X.heap.size<=b)->X1.cell? ⟨g,off+k*8+j,ak⟩=au u/\X1.frozen? ⟨g,off+k*8+j,ak⟩=aC/\Iw w (X1.setCell ⟨g,off+k*8+j,ak⟩ u') B { m with rows:=m.rows.set k r' } fp g off c/\(u'=u->Iw w X1 B { m with rows:=m.rows.set k r' } fp g off c):=by
 obtain⟨gU,hp,hf1,hgo⟩:=h.iw.next;obtain⟨g',off',c',f,h1,hgB,hfg,hfs,hpl,hput⟩:=hp.el (F:=jo) jU (by omega) (j:=1) (L:=m.rows) rfl (iV hk)
 have e:=bT (h1.symm.trans h.rws)
 cases e
 obtain⟨u,fj,hu,hfz,hc,hsub,hnB,hset⟩:=hpl.at hj;have IW:=hp.lt;refine⟨u,fj,hu,hfz,hc,dY.kW hc,fun X1 c' u' f' r' er hw hc' hf'=>?_⟩
 obtain⟨k1,k2,k3,k4⟩:=hset X1 c' u' f' hw hc' hf';rw[er] at k3 k4;have VP:¬ fj B:=fun hb=>hp.nB (hfs B (hsub B hb))
 have hr1:X1.cell? ⟨B,1,ak⟩=au (aj (au ⟨g,off,ak⟩) m.rows.length c):=(bf (hw.block B IW VP)).trans h.rws;have key:∀ Z,fH X Z g (off+k*8) (jo r') f->fH w Z B 0 (lH { m with rows:=m.rows.set k r' }) fp:=fun Z hZ=>hgo Z _ rfl (hput Z r' hZ)
 refine⟨k1,k2,⟨key _ k3, ?_⟩,fun e=>⟨key _ (k4 e), ?_⟩⟩
 ·rw[World.cell?_setCell_other _ _ _ _ (by simp only[ne_eq,Addr.mk.injEq,not_and];intro e;exact absurd e hgB),hr1]
  simp
 ·rw[hr1];simp
theorem Iw.put {X: aI} {B: Nat} {m: Mb} {fp: Fp} {c: Nat} (h:Iw w X B m fp g off c) (hk:k<m.rows.length) {x y: aJ} (hj:(jo (dO m.rows k))[j]?=au (.v x)) (er:(jo (dO m.rows k)).set j (.v y)=jo r') :
  X.cell? ⟨g,off+k*8+j,ak⟩=au x/\X.frozen? ⟨g,off+k*8+j,ak⟩=aC/\Iw w (X.setCell ⟨g,off+k*8+j,ak⟩ y) B { m with rows:=m.rows.set k r' } fp g off c:=by
 obtain⟨u,f,h1,h2,⟨rfl,h3⟩,_,h4⟩:=h.at hk hj;exact⟨h1,h2,(h4 X (.v y) y (fun _=>False) r' er (eX.refl _ _) ⟨rfl,fun _ h=>h⟩ (fun b hb=>hb.elim)).2.2.1⟩
theorem Iw.KX {X: aI} {B: Nat} {m: Mb} {fp: Fp} {c: Nat} (h:Iw w X B m fp g off c) (hj:(lH m)[j]?=au cl) (hj2:j≠1):∃ u f,X.cell? ⟨B,0+j,ak⟩=au u/\X.frozen? ⟨B,0+j,ak⟩=aC/\dY.ow X cl u f/\(∀ b,f b->b<X.heap.size) /\
  ∀ (X1:aI) (c':dY) (u':aJ) (f':Fp) (m':Mb),(lH m).set j c'=lH m'->m'.rows.length=m.rows.length->eX f X X1->dY.ow X1 c' u' f'->(∀ b,f' b->f b\/X.heap.size<=b)->X1.cell? ⟨B,0+j,ak⟩=au u/\X1.frozen? ⟨B,0+j,ak⟩=aC/\Iw w (X1.setCell ⟨B,0+j,ak⟩ u') B m' fp g off c:=by
 obtain⟨gU,hp,hf1,hgo⟩:=h.iw.next;obtain⟨u,fj,hu,hfz,hc,hsub,hnB,hset⟩:=hp.at hj;refine⟨u,fj,hu,hfz,hc,dY.kW hc,fun X1 c' u' f' m' er hl hw hc' hf'=>?_⟩
 obtain⟨k1,k2,k3,k4⟩:=hset X1 c' u' f' hw hc' hf';rw[er] at k3;refine⟨k1,k2,hgo _ _ rfl k3, ?_⟩;rw[World.cell?_setCell_other _ _ _ _ (by simp only[ne_eq,Addr.mk.injEq,not_and];intro _ e;omega),bf (hw.block B hp.lt hnB),h.rws,hl]
theorem Iw.Oy {X X1: aI} {B: Nat} {m: Mb} {fp: Fp} {c: Nat} (h:Iw w X B m fp g off c) (hk:k<m.rows.length) (hb:Below X.heap.size X X1) {Ar: Ra} {fr: Fp} (hr:gB X1 (jM r') (jr Ar r') fr) (hfr:∀ b,fr b->X.heap.size<=b) :
  Iw w ((((((((X1.setCell ⟨g,off+k*8,ak⟩ (ah aA r'.ver)).setCell ⟨g,off+k*8+1,ak⟩ (aj Ar.ta r'.txt.length Ar.tc)).setCell ⟨g,off+k*8+2,ak⟩ (aj Ar.ga r'.got.length Ar.gc)).setCell ⟨g,off+k*8+3,ak⟩ (aj Ar.sa r'.dQ.length Ar.sc)).setCell ⟨g,off+k*8+4,ak⟩ (aF r'.wed)).setCell ⟨g,off+k*8+5,ak⟩ (aF r'.dV)).setCell ⟨g,off+k*8+6,ak⟩ (ah aA r'.dW)).setCell ⟨g,off+k*8+7,ak⟩ (aj Ar.ma r'.dU.length Ar.mc)) B { m with rows:=m.rows.set k r' } fp g off c:=by
 obtain⟨gU,hp,hf1,hgo⟩:=h.iw.next;obtain⟨g',off',c',f,h1,hgB,hfg,hfs,hpl,hput⟩:=hp.el (F:=jo) jU (by omega) (j:=1) (L:=m.rows) rfl (iV hk)
 have e:=bT (h1.symm.trans h.rws)
 cases e
 have hA:=hpl.all hb (Ez hr) rfl hfr;have hB:=hgo _ (lH { m with rows:=m.rows.set k r' }) rfl (hput _ r' hA)
 refine⟨hB, ?_⟩;have hr1:X1.cell? ⟨B,1,ak⟩=au (aj (au ⟨g,off,ak⟩) m.rows.length c):=(bf (hb.block B hp.lt)).trans h.rws;have:=World.cell?_setCells_out g (fQ Ar r').toList (off+k*8) X1 ⟨B,1,ak⟩ (fun e _=>absurd e.symm hgB)
 have e2:=this.trans hr1;simp only[bQ]
 exact e2
theorem Iw.free {w X:aI} {B:Nat} {m:Mb} {fp:Fp} {g off c:Nat} (h:Iw w X B m fp g off c) {k:Nat} (hk:k<m.rows.length):(X.frozen? ⟨g,off+k*8,ak⟩=aC/\X.frozen? ⟨g,off+k*8+1,ak⟩=aC/\X.frozen? ⟨g,off+k*8+2,ak⟩=aC/\X.frozen? ⟨g,off+k*8+3,ak⟩=aC)/\X.frozen? ⟨g,off+k*8+4,ak⟩=aC/\X.frozen? ⟨g,off+k*8+5,ak⟩=aC/\X.frozen? ⟨g,off+k*8+6,ak⟩=aC/\X.frozen? ⟨g,off+k*8+7,ak⟩=aC:=by
 obtain⟨gU,hp,hf1,hgo⟩:=h.iw.next;obtain⟨g',off',c',f,h1,hgB,hfg,hfs,⟨vs,hpc,hov,_⟩,hput⟩:=hp.el (F:=jo) jU (by omega) (j:=1) (L:=m.rows) rfl (iV hk)
 have e:=bT (h1.symm.trans h.rws)
 cases e
 have hl:vs.length=8:=jO hov;exact⟨⟨hpc.free 0 (by omega),hpc.free 1 (by omega),hpc.free 2 (by omega),hpc.free 3 (by omega)⟩,hpc.free 4 (by omega),hpc.free 5 (by omega),hpc.free 6 (by omega),hpc.free 7 (by omega)⟩
theorem Iw.sub {X X5: aI} {B: Nat} {m: Mb} {fp: Fp} {c: Nat} (h:Iw w X B m fp g off c) (hb:Below X.heap.size X X5):∃ jw,(∀ b,jw b->b<X.heap.size)/\B<X.heap.size/\(∀ b,jw b->fp b\/w.heap.size<=b)/\Iw X5 X5 B m jw g off c/\∀ (Y:aI) (m':Mb),Iw X5 Y B m' jw g off c->Iw w Y B m' fp g off c:=by
 obtain⟨gU,hp,hf1,hgo⟩:=h.iw.next;have hlt:=hp.flt;have hB:=hp.lt;refine⟨gU,hlt,hB,hf1,⟨fH.refl (hp.below hb),gy hb h.rws⟩,fun Y m' hY=>⟨hgo Y _ rfl (hY.iw.first hb hB hlt),hY.rws⟩⟩
theorem Iw.bx {X: aI} {B: Nat} {m: Mb} {fp: Fp} {c: Nat} (h:Iw w X B m fp g off c) {b: Nat} {cs: Array aJ} (hx:Bx w b T cs) (h1:¬ fp b) (h2:b≠B):Bx X b T cs:=hx.wrt h.iw.wrt (fun k=>k.elim h1 h2)
theorem Iw.RU {X: aI} {B: Nat} {m: Mb} {fp: Fp} {c: Nat} (h:Iw w X B m fp g off c) {u: aJ} {f: Fp} (hx:dY.ow w cl u f) (h1:∀ b,f b->¬ fp b/\b≠B):dY.ow X cl u f:=dY.lJ hx h.iw.wrt (fun b hb k=>k.elim (h1 b hb).1 (h1 b hb).2)
theorem zA (B:Nat) (a:Option dH) (n c:Nat) (X:aI) (h1:X.cell? ⟨B,1,ak⟩=au (aj a n c)) :
  dF dA 166 #[aO (au ⟨B,0,ak⟩)] X fun e w'=>e=aK (ah aA (n:Int))/\w'=X:=by
 go_enter Tryz.func166,Tryz.ntmps166
 go_wp2;go_ret
 exact⟨rfl,rfl⟩
theorem nY (B i n g off c:Nat) (X:aI) (h0:X.cell? ⟨B,0,ak⟩=au (ah aA (i:Int))) (h1:X.cell? ⟨B,1,ak⟩=au (aj (au ⟨g,off,ak⟩) n c)) (hi:i<n) :
  dF dA 140 #[aO (au ⟨B,0,ak⟩)] X fun e w'=>e=aK (aO (au ⟨g,off+i*8,ak⟩))/\Below X.heap.size X w':=by
 have gq:=iD;have i0:(0:Int)<=i:=by omega
 have i1:(i:Int)<n:=by omega
 have T:∀ {x v},X.cell? x=au v->∀ q:Bk X,q.w.cell? x=au v:=fun h q=>gy q.h h
 have p0:=T h0;have p1:=T h1;clear T h0 h1;go_enter Tryz.func140,Tryz.ntmps140
 go_wp2_with fail
 refine jg ?_;repeat (go_big_quiet_step ((first|rfl)))
 refine dh (iL fun wE eG=>?_)
 have HB:=dP eG;clear p0 p1 eG;go_wp2;go_ret
 exact⟨rfl,HB.out⟩
def ng (i n:Nat) (dQ:List Int) (who:Int):Bool:=decide (who≠(i:Int))&&(inB who 0 ((n:Int)-1)&&decide (who∉dQ))
theorem J7 (B i n g off c:Nat) (sa:Option dH) (sc:Nat) (dQ:List Int) (who:Int) (X:aI) (h0:X.cell? ⟨B,0,ak⟩=au (ah aA (i:Int))) (h1:X.cell? ⟨B,1,ak⟩=au (aj (au ⟨g,off,ak⟩) n c)) (hi:i<n) (hn:n<=5) (h3:X.cell? ⟨g,off+i*8+3,ak⟩=au (aj sa dQ.length sc)) (hv:Vec X sa dQ.length dQ) (hm:dQ.length<=dD) :
  dF dA 177 #[aO (au ⟨B,0,ak⟩),ah aA who] X fun e w'=>e=aK (aF (ng i n dQ who))/\Below X.heap.size X w':=by
 have HR:aG (Below X.heap.size X X):=dw _ _;by_cases e1:who=(i:Int)
 ·have HZ:aG (ng i n dQ who=aC):=by rw[aG,ng,e1];simp
  have e1':(who != (i:Int))=aC:=by simp[e1]
  clear e1;go_enter Tryz.func177,Tryz.ntmps177
  go_wp2_with fail
  go_ret
  exact⟨dZ (by rw[HZ.out]),HR.out⟩
 have e1':(who != (i:Int))=aB:=by simp[e1]
 have hC:=fun X h=>zA B (au ⟨g,off,ak⟩) n c X h
 have hwn:wrap64 ((n:Int)-1)=(n:Int)-1:=by unfold wrap64;omega
 cases e2:inB who 0 ((n:Int)-1) with
 | false =>
  have HZ:aG (ng i n dQ who=aC):=by rw[aG,ng,e2];simp
  clear e1;go_enter Tryz.func177,Tryz.ntmps177
  go_wp2_with (first|(go_at_call 166;refine fV (hC _ h1) ?_)|(go_at_call 87;refine (kV _ _ _).mono ?_;rintro e w' ⟨rfl,hw'⟩;rw[hw',e2];clear hw'))
  go_ret
  exact⟨dZ (by rw[HZ.out]),HR.out⟩
 | true =>
  have HZ:aG (ng i n dQ who=!decide (who∈dQ)):=by rw[aG,ng,e2,decide_eq_true e1];simp
  have hO:=nY B i n g off c X h0 h1 hi;have aK9:aG (∀ Y,Below X.heap.size X Y->Y.cell? ⟨g,off+i*8+3,ak⟩=au (aj sa dQ.length sc)/\dF dA 88 #[aj sa dQ.length sc,ah aA who] Y fun e w'=>e=aK (aF (decide (who∈dQ)))/\w'=Y):=fun Y hY=>⟨gy hY h3,tZ sa sc dQ who Y (hv.below hY (cO _)) hm⟩
  clear e1 hv hm HR;generalize decide (who∈dQ)=b at *;go_enter Tryz.func177,Tryz.ntmps177
  go_wp2_with (first|(go_at_call 166;refine fV (hC _ h1) ?_)|(go_at_call 87;refine (kV _ _ _).mono ?_;rintro e w' ⟨rfl,hw'⟩;rw[hw',e2];clear hw')|(go_at_call 140;refine hO.mono ?_;rintro e w1 ⟨rfl,hb1⟩;obtain⟨g3,L9⟩:=aK9.out w1 hb1;have HB1:aG (Below X.heap.size X w1):=hb1;clear hb1 h0 h1 h3)|(go_at_call 88;refine fV L9 ?_))
  go_ret
  exact⟨dZ (by rw[HZ.out]),HB1.out⟩
theorem SQ (B n c L lc:Nat) (a la:Option dH) (X:aI) (h1:X.cell? ⟨B,1,ak⟩=au (aj a n c)) (hL:L<=100) (hn:n<=5) :
  dF dA 171 #[aO (au ⟨B,0,ak⟩),aj la L lc] X fun e w'=>e=aK (aF (decide (n<2*L)))/\w'=X:=by
 have hC:=zA B a n c X h1;have hw:wrap64 (2*(L:Int))=2*(L:Int):=by unfold wrap64;omega
 have hd:decide (2*(L:Int)>(n:Int))=decide (n<2*L):=by
  by_cases h:n<2*L
  ·rw[decide_eq_true h,decide_eq_true (by omega)]
  ·rw[decide_eq_false h,decide_eq_false (by omega)]
 rw[<- hd];clear hd;go_enter Tryz.func171,Tryz.ntmps171
 go_wp2_with (go_at_call 166;refine fV hC ?_)
 go_ret
 exact⟨rfl,rfl⟩
section
open Go.RowKit Go.Sort Go.Shelf
def Tryz.cloneL_ren:Go.Shelf.Ren:=⟨fun|316=>129|n=>n,fun|9=>9|3=>3|4=>4|37=>22|0=>0|127=>193|5=>5|n=>n,fun|n=>n⟩
theorem Tryz.cloneL : Go.Proofs.LaysM.n316 dA Tryz.cloneL_ren := {
 mixed:=by kernel_rfl
 f316:=Tryz.func129.trans (congrArg au (by kernel_rfl))
 t0:=Tryz.underlying0
 a0:=Tryz.isAgg0
 z0:=Tryz.sizeOf0
 v0:=Tryz.zeroValue0
 t3:=Tryz.underlying3
 a3:=Tryz.isAgg3
 z3:=Tryz.sizeOf3
 v3:=Tryz.zeroValue3
 t4:=Tryz.underlying4
 a4:=Tryz.isAgg4
 z4:=Tryz.sizeOf4
 v4:=Tryz.zeroValue4
 t9:=Tryz.underlying9
 a9:=Tryz.isAgg9
 z9:=Tryz.sizeOf9
 v9:=Tryz.zeroValue9
 t37:=Tryz.underlying22
 a37:=Tryz.isAgg22
 z37:=Tryz.sizeOf22
 v37:=Tryz.zeroValue22
 t127:=Tryz.underlying193
 a127:=Tryz.isAgg193
 z127:=Tryz.sizeOf193
 v127:=Tryz.zeroValue193
 t5:=Tryz.underlying5
 a5:=Tryz.isAgg5
 z5:=Tryz.sizeOf5
 v5:=Tryz.zeroValue5
 i0:=by kernel_rfl
 i3:=by kernel_rfl
 i4:=by kernel_rfl
 i5:=by kernel_rfl
 i9:=by kernel_rfl
 i37:=by kernel_rfl
 i127:=by kernel_rfl }
theorem clone_any (l:List UInt8) (w:aI) (hl:l.length<=1048576) :
  dF dA 93 #[aN (sv l)] w fun e w'=>e=aK (aN (sv l))/\Below w.heap.size w w':=by
 have h:=Any.stringslite_Clone Tryz.cloneL (sv l) w (by rw[BP];omega)
 go_enter Tryz.func93,Tryz.ntmps93
 go_wp2_with fail
 refine h.mono ?_;rintro e w1 ⟨rfl,hb⟩;have HB:=dP hb;clear hb h;go_wp2;go_ret
 exact⟨rfl,HB.out⟩
end
section
variable {P:Program} {l:List Oper} {Q:Exit->Act->aI->Prop} {S:aI->Prop}
theorem SS {i z:Nat} {o:Oper} {fuel:Nat} {listed:Array Bool} {a:Act} {w:aI} (hn:¬ S w) (hi:l[i]?=au o) (hr:Region.ready .any l.toArray listed=[i])
  (h:∀ K':Act->aI->Prop,Shut (∀ a w,GT P l Q S z fuel (listed.setIfInBounds i aB) a w->K' a w)->if Region.wanted o (yielded l.toArray a.tmps)=aB then Oper.wp P o a w K' Q else K' (a.put o.dst undef) w):GT P l Q S z (fuel+1) listed a w:=by
 have hi':l.toArray[i]?=au o:=by simpa using hi
 refine⟨fun h0=>(by rw[hr] at h0;cases h0),fun j hj=>?_⟩
 rw[hr] at hj;simp at hj
 subst hj;exact wpOp_step hi' (fun K' hK=>h K' (fun a w hW=>hK a w ⟨fun _ hS=>absurd hS hn,hW⟩))
theorem ao2 {z:Nat} {o:Oper} {fuel:Nat} {listed:Array Bool} {a:Act} {w:aI} (hi:l[z]?=au o) (hr:Region.ready .any l.toArray listed=[z])
  (h:∀ K':Act->aI->Prop,Shut (∀ a w,GT P l Q S z fuel (listed.setIfInBounds z aB) a w->K' a w)->if Region.wanted o (yielded l.toArray a.tmps)=aB then Oper.wp P o a w K' Q else K' (a.put o.dst undef) w):GT P l Q S z (fuel+1) listed a w:=by
 have hi':l.toArray[z]?=au o:=by simpa using hi
 refine⟨fun h0=>(by rw[hr] at h0;cases h0),fun j hj=>?_⟩
 rw[hr] at hj;simp at hj
 subst hj;exact wpOp_step hi' (fun K' hK=>h K' (fun a w hW=>hK a w ⟨fun e _=>absurd rfl e,hW⟩))
end
theorem CV (a:Option dH) (c:Nat) (xs:List Int) (w:aI) (hv:Vec w a xs.length xs) (hl:xs.length<=1000000) :
  dF dA 167 #[aj a xs.length c] w fun e w'=>EO w w' e xs:=by
 have q25:∀ (w:aI) (a:Option dH) (n c n' c':Nat),(binOp .eql 41 (aj a n c) (aj ak n' c')).run dA w=.ok (aF a.isNone) w:=fun w a n c n' c'=>Lib.run_eql_slice_nil w _ _ a n c n' c' bG
 cases a with
 | none =>
  have hx:xs=[]:=by
   rcases hv.2.2 with h|⟨b,o,e,_⟩
   ·exact List.eq_nil_of_length_eq_zero h
   ·cases e
  subst hx;clear hv;go_enter Tryz.func167,Tryz.ntmps167
  go_wp2;go_ret
  exact⟨ak,0,rfl,fun _=>False,je.2 ⟨ak,0,ak,rfl,iQ.nil _ _ (fun _ h=>by cases h),fun b=>by simp⟩,fun _ h=>h.elim,dw _ _⟩
 | some ad =>
  have hA:=wS (c:=c) hv hl;clear hv;go_enter Tryz.func167,Tryz.ntmps167
  go_wp2_with (at_builtin;refine fG (by rfl) _ _ _ _ (by rfl) _ _ (by rfl) (by rfl) hA ⟨rfl,rfl,rfl,rfl⟩ ?_;rintro v1 w1 ⟨a1,e1,f1,rfl,q1,q2,q3⟩;have HQ:aG (oN w w1 (gJ xs) (aj a1 xs.length e1)):=⟨f1,q1,q2,q3⟩;clear q1 q2 q3 hA)
  go_ret
  exact⟨a1,e1,rfl,HQ.out⟩
end Go.Proofs.YtafimeakbdmkjaaGreat