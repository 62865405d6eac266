/-
  Texts in one.
-/
import Derived.Test.YtafimeakbdmkjaaGreatWaa
import Derived.Deep.QuietTactic
import Derived.BigQuiet
import Derived.Deep.RegionHeld3
namespace Go.Proofs.YtafimeakbdmkjaaGreat
open Bool renaming and_eq_true->aU2,false->aC,true->aB
open Classical renaming byContradiction->aZ
open Go renaming Addr->ba5,Calls->ba3,Value->aJ,World->aI,maxLen->ba2
open Go.Ending renaming returned->aK
open Go.IntKind renaming i64->aA
open Go.Obj renaming cells->aH
open Go.Proofs.Tryz renaming prog->aZ8,underlying41->dK
open Go.RowKit renaming Hid->aG,intOf->ba4
open Go.RowKit.Below renaming refl->aZ5
open Go.Value renaming bool->aF,int->aZ9,int->ah,oneCell'->aX4,pointer->aO,slice->aj
open Iff renaming rfl->ba1
open Int renaming le_refl->aZ3,toNat_natCast->dM
open List renaming all_eq_false->dN,all_eq_true->aU3,foldl_cons->aV6,getD->ba0,getD_eq_getElem?_getD->aV,getElem?_eq_getElem->bC,getElem?_eq_none->bK,getElem?_replicate->bH,getElem_mem->aU7,length_append->dB,length_cons->aU6,length_drop->aU8,length_map->aV7,length_set->aV3,length_singleton->bP,length_take->aU5,map_append->aV9,mem_append->aW0,mem_cons->aX5,mem_cons_of_mem->bV,mem_cons_self->dD,mem_iff_getElem->bU,mem_range->aX1,mem_singleton->dH,pairwise_cons->dI,prefix_refl->aV1,range->aZ6,range_succ->aW2,replicate->aW5,replicate_succ->dw
open Nat renaming le_refl->aZ0,le_trans->aY2,lt_succ_iff_lt_or_eq->bD,mod_lt->aZ7,zero_le->aZ1
open Option renaming none->ak,some->au
set_option linter.unusedVariables false
set_option linter.unusedSimpArgs false
open Go.RowKit Go.Sort
set_option maxRecDepth 100000
set_option maxHeartbeats 12800000
variable {X' w' w4:aI} {cs l s v xs:List Int} {f g4 hi j lo:Nat} {L:List Nat}
structure Ra where
 ta:Option ba5
 tc:Nat
 ga:Option ba5
 gc:Nat
 sa:Option ba5
 sc:Nat
 ma:Option ba5
 mc:Nat
def fP (A:Ra) (r:Rw):Array aJ:=#[ah aA r.ver,aj A.ta r.txt.length A.tc,aj A.ga r.got.length A.gc,aj A.sa r.dQ.length A.sc,aF r.wed,aF r.dV,ah aA r.dW,aj A.ma r.dU.length A.mc]
def iK (A:Ra) (r:Rw):aJ:=.agg (fP A r)
structure qJ (w:aI) (A:Ra) (r:Rw):Prop where
 txt:xg w A.ta r.txt
 got:Vec w A.ga r.got.length r.got
 dQ:Vec w A.sa r.dQ.length r.dQ
 dU:Vec w A.ma r.dU.length r.dU
 mt:r.txt.length<=ba2
 mg:r.got.length<=ba2
 ms:r.dQ.length<=ba2
 mm:r.dU.length<=ba2
theorem qJ.below {w: aI} {A: Ra} {r: Rw} (h:qJ w A r) (hb:Below w.heap.size w w'):qJ w' A r:=⟨h.txt.below hb,h.got.below hb (aZ0 _),h.dQ.below hb (aZ0 _),h.dU.below hb (aZ0 _),h.mt,h.mg,h.ms,h.mm⟩
theorem Bx.r8 {w: aI} {B: Nat} {T: TypeId} {x0 x1 x2 x3 x4 x5 x6 x7: aJ} (h:Bx w B T #[x0,x1,x2,x3,x4,x5,x6,x7]):(w.cell? ⟨B,0,ak⟩=au x0/\w.cell? ⟨B,1,ak⟩=au x1/\w.cell? ⟨B,2,ak⟩=au x2/\w.cell? ⟨B,3,ak⟩=au x3)/\w.cell? ⟨B,4,ak⟩=au x4/\w.cell? ⟨B,5,ak⟩=au x5/\w.cell? ⟨B,6,ak⟩=au x6/\w.cell? ⟨B,7,ak⟩=au x7 :=
 ⟨⟨h.at 0 rfl,h.at 1 rfl,h.at 2 rfl,h.at 3 rfl⟩,h.at 4 rfl,h.at 5 rfl,h.at 6 rfl,h.at 7 rfl⟩
theorem dX (w:aI) (o:Obj):Below w.heap.size w (w.alloc o):=(aZ5 _ _).alloc (aZ0 _) _
theorem VZ {n: Int} {k: Nat} (hk:k<l.length) (h:inB (el l k) 0 (n-1)=aC):mX l n=aC:=by
 have:l.all (fun x=>inB x 0 (n-1))=aC:=by
  rw[dN];exact⟨el l k,kM hk,by simp[h]⟩
 rw[mX,this]
 rfl
theorem Zo {n: Int} (h:∀ k,k<l.length->inB (el l k) 0 (n-1)=aB):mX l n=sZ l:=by
 have:l.all (fun x=>inB x 0 (n-1))=aB:=by
  rw[aU3];intro x hx;obtain⟨j,hj,rfl⟩:=bU.1 hx;have:=h j hj;simpa[el,hj] using this
 rw[mX,this]
 rfl
theorem Zp (a:Option ba5) (cap:Nat) (l:List Int) (n:Int) (w:aI) (hv:Vec w a l.length l) (hm:l.length<=ba2) (hn:-1000<=n/\n<=1000) :
  ba3 aZ8 114 #[aj a l.length cap,ah aA n] w fun e w'=>e=aK (aF (mX l n))/\Below w.heap.size w w':=by
 have hR:=Gp a l.length cap l w hv hm;have HV:=dP hv;have hwn:wrap64 (n-1)=n-1:=by unfold wrap64;omega
 unfold ba2 at hm;clear hv;go_enter Tryz.func114,Tryz.ntmps114
 go_wp2
 go_loop [5] (fun i=>∃ k:Nat,k<=l.length/\i=ah aA k/\∀ j,j<k->inB (el l j) 0 (n-1)=aB) (fun i=>l.length-(ba4 i).toNat)
 case atStart=>exact⟨0,aZ1 _,rfl,fun j hj=>by omega⟩
 case round =>
  obtain⟨k,hk,rfl,hall⟩:=hrel;have HA:=dP hall;clear hall;by_cases hlt:k<l.length
  ·rcases HV.out.2.2 with h0|⟨b,off,rfl,hc⟩
   ·omega
   have hck:=hc k hlt;have k1:(k:Int)<l.length:=by omega
   have k0:(0:Int)<=k:=by omega
   have hI:=fun X=>gG (el l k) 0 (n-1) X
   clear hc
   cases hb:inB (el l k) 0 (n-1) with
   | true =>
    rw[hb] at hI
    have HN:aG (∀ j,j<k+1->inB (el l j) 0 (n-1)=aB):=fun j hj=>by
     rcases bD.1 hj with h1|h1
     ·exact HA.out j h1
     ·rw[h1];exact hb
    generalize el l k=x at *;clear hb;go_wp2_with (go_at_call 40;refine fV (hI _) ?_)
    go_round
    case rel=>exact⟨k+1,by omega,by go_num,HN.out⟩
    case measure=>simp[ba4];omega
   | false =>
    rw[hb] at hI;have HZ:=dP (VZ hlt hb);generalize el l k=x at *;clear hb;go_wp2_with (go_at_call 40;refine fV (hI _) ?_)
    go_ret
    exact⟨dZ (by rw[HZ.out]),aZ5 _ _⟩
  ·have k1:¬ ((k:Int)<l.length):=by omega
   have HZ:aG (mX l n=sZ l):=Zo (fun j hj=>HA.out j (by omega))
   generalize sZ l=Q at *;go_wp2_with (go_at_call 112;refine hR.mono ?_;rintro e w2 ⟨rfl,q,hw2⟩)
   go_ret
   exact⟨dZ (by rw[HZ.out]),fO (aZ5 _ _)⟩
theorem Ld {n: Int} (h1:okB v=aB) (h2:(v.length:Int)=n) (h3:∀ k,k<v.length->el v k<=12):lZ v n=aB:=by
 have:v.all (fun x=>decide (x<=12))=aB:=by
  rw[aU3];intro x hx;obtain⟨j,hj,rfl⟩:=bU.1 hx;have:=h3 j hj;simpa[el,hj] using this
 rw[lZ,h1,this,decide_eq_true h2]
 rfl
theorem RQ {n: Int} {k: Nat} (hk:k<v.length) (h:¬ el v k<=12):lZ v n=aC:=by
 have:v.all (fun x=>decide (x<=12))=aC:=by
  rw[dN];exact⟨el v k,kM hk,by simpa using h⟩
 rw[lZ,this];simp
theorem UH (a:Option ba5) (cap:Nat) (l:List Int) (n:Int) (w:aI) (hv:Vec w a l.length l) (hm:l.length<=ba2) :
  ba3 aZ8 115 #[aj a l.length cap,ah aA n] w fun e w'=>e=aK (aF (lZ l n))/\w'=w:=by
 have hO:=pG a l.length cap l w hv hm;have HV:=dP hv;unfold ba2 at hm;clear hv
 cases hok:okB l with
 | false =>
  have HZ:aG (lZ l n=aC):=by rw[aG,lZ,hok];rfl
  rw[hok] at hO;clear hok;go_enter Tryz.func115,Tryz.ntmps115
  go_wp2_with (go_at_call 84;refine fV hO ?_)
  go_ret
  exact⟨dZ (by rw[HZ.out]),rfl⟩
 | true =>
  rw[hok] at hO;by_cases hl:(l.length:Int)=n
  ·have e1:((l.length:Int) != n)=aC:=by simpa using hl
   have HP:aG ((∀ k,k<l.length->el l k<=12)->lZ l n=aB):=fun h=>Ld hok hl h
   clear hok hl;go_enter Tryz.func115,Tryz.ntmps115
   go_wp2_with (go_at_call 84;refine fV hO ?_)
   go_loop [5] (fun i=>∃ k:Nat,k<=l.length/\i=ah aA k/\∀ j,j<k->el l j<=12) (fun i=>l.length-(ba4 i).toNat)
   case atStart=>exact⟨0,aZ1 _,rfl,fun j hj=>by omega⟩
   case round =>
    obtain⟨k,hk,rfl,hall⟩:=hrel;have HA:=dP hall;clear hall;by_cases hlt:k<l.length
    ·rcases HV.out.2.2 with h0|⟨b,off,rfl,hc⟩
     ·omega
     have hck:=hc k hlt;have k1:(k:Int)<l.length:=by omega
     have k0:(0:Int)<=k:=by omega
     clear hc;by_cases h12:el l k<=12
     ·have g12:¬ (12<el l k):=by omega
      have HN:aG (∀ j,j<k+1->el l j<=12):=fun j hj=>by
       rcases bD.1 hj with h1|h1
       ·exact HA.out j h1
       ·rw[h1];exact h12
      generalize el l k=x at *;clear h12;go_wp2
      go_round
      case rel=>exact⟨k+1,by omega,by go_num,HN.out⟩
      case measure=>simp[ba4];omega
     ·have g12:12<el l k:=by omega
      have HZ:aG (lZ l n=aC):=RQ hlt h12;generalize el l k=x at *;clear h12;go_wp2;go_ret
      exact⟨dZ (by rw[HZ.out]),rfl⟩
    ·have k1:¬ ((k:Int)<l.length):=by omega
     have HZ:aG (lZ l n=aB):=HP.out (fun j hj=>HA.out j (by omega))
     go_wp2;go_ret
     exact⟨dZ (by rw[HZ.out]),rfl⟩
  ·have e1:((l.length:Int) != n)=aB:=by simpa using hl
   have HZ:aG (lZ l n=aC):=by rw[aG,lZ,decide_eq_false hl];simp
   clear hok hl;go_enter Tryz.func115,Tryz.ntmps115
   go_wp2_with (go_at_call 84;refine fV hO ?_)
   go_ret
   exact⟨dZ (by rw[HZ.out]),rfl⟩
section
theorem V4 {r: Rw} {n: Int} (h:inB n 1 5=aC):gu r n=aC:=by rw[gu,h];rfl
theorem V5 {r: Rw} {n: Int} (h:inB r.ver 0 1000000=aC):gu r n=aC:=by rw[gu,h];simp
theorem az6 {r: Rw} {n: Int} (h:¬ r.txt.length<=12):gu r n=aC:=by rw[gu,decide_eq_false h];simp
theorem IL {r: Rw} {n: Int} (h:lZ r.got n=aC):gu r n=aC:=by rw[gu,h];simp
theorem V7 {r: Rw} {n: Int} (h:mX r.dQ n=aC):gu r n=aC:=by rw[gu,h];simp
theorem az7 {r: Rw} {n: Int} {k: Nat} (hk:k<r.txt.length) (h:¬ (r.txt.getD k []).length<=20):gu r n=aC:=by
 have:r.txt.all (fun t=>decide (t.length<=20))=aC:=by
  rw[dN];refine⟨r.txt[k],aU7 hk, ?_⟩;rw[aV,bC hk] at h;simpa using h
 rw[gu,this];simp
def J7 (r:Rw) (n:Int):Bool:=if r.dV then r.wed&&(inB r.dW 0 (n-1)&&lZ r.dU n) else decide (r.dW=0)&&decide (r.dU=[])
theorem Zq {r: Rw} {n: Int} (h1:inB n 1 5=aB) (h2:inB r.ver 0 1000000=aB) (h3:r.txt.length<=12) (h4:lZ r.got n=aB) (h5:mX r.dQ n=aB) (h6:∀ k,k<r.txt.length->(r.txt.getD k []).length<=20):gu r n=J7 r n:=by
 have:r.txt.all (fun t=>decide (t.length<=20))=aB:=by
  rw[aU3];intro t ht;obtain⟨j,hj,rfl⟩:=bU.1 ht;have:=h6 j hj;rw[aV,bC hj] at this;simpa using this
 rw[gu,h1,h2,decide_eq_true h3,h4,h5,this]
 rfl
attribute [local irreducible] sv
theorem H8 (A:Ra) (r:Rw) (n:Int) (w:aI) (hv:qJ w A r) :
  ba3 aZ8 74 #[iK A r,ah aA n] w fun e w'=>e=aK (aF (gu r n))/\Below w.heap.size w w':=by
 have hB0:=dX w (aH (fP A r) 44);have hx:=Bx.new w 44 (fP A r);have h0:=hv.below hB0;generalize hW:w.alloc (aH (fP A r) 44)=W at *;have hsz:w.heap.size<W.heap.size:=hx.lt;obtain⟨ver,txt,got,dQ,wed,dV,dW,dU⟩:=r;obtain⟨ta,tc,ga,gc,sa,sc,ma,mc⟩:=A;have hw0:w.alloc (aH #[ah aA ver,aj ta txt.length tc,aj ga got.length gc,aj sa dQ.length sc,aF wed,aF dV,ah aA dW,aj ma dU.length mc] 44)=W:=hW;obtain⟨⟨c0,c1,c2,c3⟩,c4,c5,c6,c7⟩:=Bx.r8 hx;have HX:aG (Bx W w.heap.size 44 #[ah aA ver,aj ta txt.length tc,aj ga got.length gc,aj sa dQ.length sc,aF wed,aF dV,ah aA dW,aj ma dU.length mc]):=hx;obtain⟨htx,hgo,hsu,htr,mt,mg,ms,mm⟩:=h0;simp only at htx hgo hsu htr mt mg ms mm c0 c1 c2 c3 c4 c5 c6 c7
 have HB0:aG (Below w.heap.size w W):=hB0;unfold iK fP;clear hv hx hW hB0;have IQ:=pG ga got.length gc got W hgo mg;simp only
 cases e1:inB n 1 5 with
 | false =>
  have HZ:aG (gu ⟨ver,txt,got,dQ,wed,dV,dW,dU⟩ n=aC):=V4 e1;go_enter Tryz.func74,Tryz.ntmps74
  go_wp2_with (first|(go_at_call 40;refine fV (gG _ _ _ _) ?_))
  go_ret
  exact⟨dZ (by rw[HZ.out]),HB0.out⟩
 | true =>
 have jy:=iQ.1 e1;have Gq:=Zp sa sc dQ n W hsu ms (by omega)
 have Ci:aG (inB n 1 5=aB):=e1
 cases e2:inB ver 0 1000000 with
 | false =>
  have HZ:aG (gu ⟨ver,txt,got,dQ,wed,dV,dW,dU⟩ n=aC):=V5 e2;go_enter Tryz.func74,Tryz.ntmps74
  go_wp2_with (first|(go_at_call 40;refine fV (gG _ _ _ _) ?_))
  go_ret
  exact⟨dZ (by rw[HZ.out]),HB0.out⟩
 | true =>
 have xq:aG (inB ver 0 1000000=aB):=e2;by_cases h12:txt.length<=12;rotate_left
 ·have g12:(12:Int)<txt.length:=by omega
  have HZ:aG (gu ⟨ver,txt,got,dQ,wed,dV,dW,dU⟩ n=aC):=az6 h12;go_enter Tryz.func74,Tryz.ntmps74
  go_wp2_with (first|(go_at_call 40;refine fV (gG _ _ _ _) ?_))
  go_ret
  exact⟨dZ (by rw[HZ.out]),HB0.out⟩
 have g12:¬ ((12:Int)<txt.length):=by omega
 cases e4:okB got with
 | false =>
  rw[e4] at IQ;have HZ:aG (gu ⟨ver,txt,got,dQ,wed,dV,dW,dU⟩ n=aC):=IL (by simp[lZ,e4])
  go_enter Tryz.func74,Tryz.ntmps74
  go_wp2_with (first|(go_at_call 40;refine fV (gG _ _ _ _) ?_)|(go_at_call 84;refine fV IQ ?_))
  go_ret
  exact⟨dZ (by rw[HZ.out]),HB0.out⟩
 | true =>
 rw[e4] at IQ;by_cases h5:(got.length:Int)=n;rotate_left
 ·have g5:((got.length:Int) != n)=aB:=by simpa using h5
  have HZ:aG (gu ⟨ver,txt,got,dQ,wed,dV,dW,dU⟩ n=aC):=IL (by simp[lZ,h5])
  go_enter Tryz.func74,Tryz.ntmps74
  go_wp2_with (first|(go_at_call 40;refine fV (gG _ _ _ _) ?_)|(go_at_call 84;refine fV IQ ?_))
  go_ret
  exact⟨dZ (by rw[HZ.out]),HB0.out⟩
 have g5:((got.length:Int) != n)=aC:=by simpa using h5
 have HSM:aG ((∀ k,k<got.length->el got k<=12)->lZ got n=aB):=fun h=>Ld e4 h5 h
 have V8:aG ((got.length:Int)=n):=h5;clear h5 e4
 cases e6:mX dQ n with
 | false =>
  rw[e6] at Gq;have HZ:aG (gu ⟨ver,txt,got,dQ,wed,dV,dW,dU⟩ n=aC):=V7 e6;go_enter Tryz.func74,Tryz.ntmps74
  go_wp2_with (first|(go_at_call 40;refine fV (gG _ _ _ _) ?_)|(go_at_call 84;refine fV IQ ?_)|(go_at_call 114;refine Gq.mono ?_;rintro e w2 ⟨rfl,hb2⟩;obtain⟨⟨d0,d1,d2,d3⟩,d4,d5,d6,d7⟩:=Bx.r8 (HX.out.below hb2)))
  go_ret
  exact⟨dZ (by rw[HZ.out]),eP HB0.out hb2⟩
 | true =>
 rw[e6] at Gq;have HN6:aG (mX dQ n=aB):=e6;clear e6;have HTX:aG (xg W ta txt):=htx;have HGO:aG (Vec W ga got.length got):=hgo;have HTR:aG (Vec W ma dU.length dU):=htr;clear htx hgo hsu htr;go_enter Tryz.func74,Tryz.ntmps74
 go_wp2_with (first|(go_at_call 40;refine fV (gG _ _ _ _) ?_)|(go_at_call 84;refine fV IQ ?_)|(go_at_call 114;refine Gq.mono ?_;rintro e w2 ⟨rfl,hb2⟩;obtain⟨⟨d0,d1,d2,d3⟩,d4,d5,d6,d7⟩:=Bx.r8 (HX.out.below hb2)))
 have HB2:aG (Below w.heap.size w w2):=eP HB0.out hb2;have HT2:aG (xg w2 ta txt):=HTX.out.below hb2;have HG2:aG (Vec w2 ga got.length got):=HGO.out.below hb2 (aZ0 _);have hTr:=UH ma mc dU n w2 (HTR.out.below hb2 (aZ0 _)) mm;unfold ba2 at mt mg ms mm;clear IQ Gq hb2 c0 c1 c2 c3 c4 c5 c6 c7 hw0 g5 e1 e2 HTX HGO HTR
 go_loop [5] (fun i=>∃ k:Nat,k<=txt.length/\i=ah aA k/\∀ j,j<k->(txt.getD j []).length<=20) (fun i=>txt.length-(ba4 i).toNat)
 case atStart=>exact⟨0,aZ1 _,rfl,fun j hj=>by omega⟩
 case round =>
  obtain⟨k,hk,rfl,hall⟩:=hrel;have HA:=dP hall;clear hall;by_cases hlt:k<txt.length
  ·rcases HT2.out with h0|⟨b,off,rfl,hc⟩
   ·omega
   have hck:=hc k hlt;have k1:(k:Int)<txt.length:=by omega
   have k0:(0:Int)<=k:=by omega
   clear hc;have az8:=zL (txt.getD k []);by_cases h20:(txt.getD k []).length<=20
   ·have g20:¬ ((20:Int)<((txt.getD k []).length:Int)):=by omega
    have HN:aG (∀ j,j<k+1->(txt.getD j []).length<=20):=fun j hj=>by
     rcases bD.1 hj with h1|h1
     ·exact HA.out j h1
     ·rw[h1];exact h20
    generalize txt.getD k []=t at *;clear h20;go_wp2
    go_round
    case rel=>exact⟨k+1,by omega,by go_num,HN.out⟩
    case measure=>simp[ba4];omega
   ·have g20:(20:Int)<((txt.getD k []).length:Int):=by omega
    have HZ:aG (gu ⟨ver,txt,got,dQ,wed,dV,dW,dU⟩ n=aC):=az7 (k:=k) hlt h20;generalize txt.getD k []=t at *;clear h20;go_wp2;go_ret
    exact⟨dZ (by rw[HZ.out]),HB2.out⟩
  ·have k1:¬ ((k:Int)<txt.length):=by omega
   have yS:aG (∀ j,j<txt.length->(txt.getD j []).length<=20):=fun j hj=>HA.out j (by omega)
   clear HA HT2;go_wp2
   go_loop [6] (fun i=>∃ m:Nat,m<=got.length/\i=ah aA m/\∀ j,j<m->el got j<=12) (fun i=>got.length-(ba4 i).toNat)
   case atStart=>exact⟨0,aZ1 _,rfl,fun j hj=>by omega⟩
   case round =>
    obtain⟨m,hm,rfl,hall⟩:=hrel;have HA:=dP hall;clear hall;by_cases hlt2:m<got.length
    ·rcases HG2.out.2.2 with h0|⟨b,off,rfl,hc⟩
     ·omega
     have hck:=hc m hlt2;have k1:(m:Int)<got.length:=by omega
     have k0:(0:Int)<=m:=by omega
     clear hc;by_cases UJ:el got m<=12
     ·have aL8:¬ (12<el got m):=by omega
      have HN:aG (∀ j,j<m+1->el got j<=12):=fun j hj=>by
       rcases bD.1 hj with h1|h1
       ·exact HA.out j h1
       ·rw[h1];exact UJ
      generalize el got m=x at *;clear UJ;go_wp2
      go_round
      case rel=>exact⟨m+1,by omega,by go_num,HN.out⟩
      case measure=>simp[ba4];omega
     ·have aL8:12<el got m:=by omega
      have HZ:aG (gu ⟨ver,txt,got,dQ,wed,dV,dW,dU⟩ n=aC):=IL (RQ (v:=got) hlt2 UJ);generalize el got m=x at *;clear UJ;go_wp2;go_ret
      exact⟨dZ (by rw[HZ.out]),HB2.out⟩
    ·have k1:¬ ((m:Int)<got.length):=by omega
     have HE:aG (gu ⟨ver,txt,got,dQ,wed,dV,dW,dU⟩ n=J7 ⟨ver,txt,got,dQ,wed,dV,dW,dU⟩ n):=Zq Ci.out xq.out h12 (HSM.out (fun j hj=>HA.out j (by omega))) HN6.out yS.out
     clear HA HG2 yS;have hwn:wrap64 (n-1)=n-1:=by unfold wrap64;omega
     cases dV with
     | true =>
      cases wed with
      | false =>
       have HZ:aG (gu ⟨ver,txt,got,dQ,aC,aB,dW,dU⟩ n=aC):=by rw[aG,HE.out];rfl
       go_wp2;go_ret
       exact⟨dZ (by rw[HZ.out]),HB2.out⟩
      | true =>
       cases e7:inB dW 0 (n-1) with
       | false =>
        have HZ:aG (gu ⟨ver,txt,got,dQ,aB,aB,dW,dU⟩ n=aC):=by rw[aG,HE.out,J7];simp[e7]
        go_wp2_with (first|(go_at_call 40;refine fV (gG _ _ _ _) ?_))
        go_ret
        exact⟨dZ (by rw[HZ.out]),HB2.out⟩
       | true =>
        have HZ:aG (gu ⟨ver,txt,got,dQ,aB,aB,dW,dU⟩ n=lZ dU n):=by rw[aG,HE.out,J7];simp[e7]
        generalize lZ dU n=Q at *;go_wp2_with (first|(go_at_call 40;refine fV (gG _ _ _ _) ?_)|(go_at_call 115;refine fV hTr ?_))
        go_ret
        exact⟨dZ (by rw[HZ.out]),HB2.out⟩
     | false =>
      have HZ:aG (gu ⟨ver,txt,got,dQ,wed,aC,dW,dU⟩ n=(decide (dW=0)&&decide (dU=[]))):=by rw[aG,HE.out];rfl
      by_cases h7:dW=0
      ·have g7:(dW==0)=aB:=by simpa using h7
       have HZ2:aG (gu ⟨ver,txt,got,dQ,wed,aC,dW,dU⟩ n=decide (dU=[])):=by rw[aG,HZ.out,decide_eq_true h7];rfl
       by_cases h8:dU=[]
       ·have g8:((dU.length:Int)==0)=aB:=by rw[h8];rfl
        have HZ3:aG (gu ⟨ver,txt,got,dQ,wed,aC,dW,dU⟩ n=aB):=by rw[aG,HZ2.out,decide_eq_true h8]
        clear h7 h8;go_wp2;go_ret
        exact⟨dZ (by rw[HZ3.out]),HB2.out⟩
       ·have g8:((dU.length:Int)==0)=aC:=by
         have:=List.length_pos_iff.2 h8;simp;omega
        have HZ3:aG (gu ⟨ver,txt,got,dQ,wed,aC,dW,dU⟩ n=aC):=by rw[aG,HZ2.out,decide_eq_false h8]
        clear h7 h8;go_wp2;go_ret
        exact⟨dZ (by rw[HZ3.out]),HB2.out⟩
      ·have g7:(dW==0)=aC:=by simpa using h7
       have HZ3:aG (gu ⟨ver,txt,got,dQ,wed,aC,dW,dU⟩ n=aC):=by rw[aG,HZ.out,decide_eq_false h7];rfl
       clear h7;go_wp2;go_ret
       exact⟨dZ (by rw[HZ3.out]),HB2.out⟩
end
section
theorem IU {o: List Int} {k: Nat} (hk:k<o.length) (h:el o k∉l):o.all (fun x=>decide (x∈l))=aC:=by
 rw[dN];exact⟨el o k,kM hk,by simpa using h⟩
theorem Le {o: List Int} (h:∀ k,k<o.length->el o k∈l):o.all (fun x=>decide (x∈l))=aB:=by
 rw[aU3];intro x hx;obtain⟨j,hj,rfl⟩:=bU.1 hx;have:=h j hj;simpa[el,hj] using this
theorem Zt (a b:Option ba5) (c d:Nat) (l o:List Int) (w:aI) (hv:Vec w a l.length l) (hu:Vec w b o.length o) (hm:l.length<=ba2) (hm2:o.length<=ba2) :
  ba3 aZ8 151 #[aj a l.length c,aj b o.length d] w fun e w'=>e=aK (aF (o.all (fun x=>decide (x∈l))))/\w'=w:=by
 have hH:=fun x=>qW a l.length c x l w hv hm
 have HU:=dP hu;unfold ba2 at hm hm2;clear hu hv;go_enter Tryz.func151,Tryz.ntmps151
 go_wp2
 go_loop [5] (fun i=>∃ k:Nat,k<=o.length/\i=ah aA k/\∀ j,j<k->el o j∈l) (fun i=>o.length-(ba4 i).toNat)
 case atStart=>exact⟨0,aZ1 _,rfl,fun j hj=>by omega⟩
 case round =>
  obtain⟨k,hk,rfl,hall⟩:=hrel;have HA:=dP hall;clear hall;by_cases hlt:k<o.length
  ·rcases HU.out.2.2 with h0|⟨b',off,rfl,hc⟩
   ·omega
   have hck:=hc k hlt;have k1:(k:Int)<o.length:=by omega
   have k0:(0:Int)<=k:=by omega
   have hI:=hH (el o k);clear hc hH;by_cases hb:el o k∈l
   ·rw[decide_eq_true hb] at hI
    have HN:aG (∀ j,j<k+1->el o j∈l):=fun j hj=>by
     rcases bD.1 hj with h1|h1
     ·exact HA.out j h1
     ·rw[h1];exact hb
    generalize el o k=x at *;clear hb;go_wp2_with (go_at_call 113;refine fV hI ?_)
    go_round
    case rel=>exact⟨k+1,by omega,by go_num,HN.out⟩
    case measure=>simp[ba4];omega
   ·rw[decide_eq_false hb] at hI
    have HZ:=dP (IU hlt hb);generalize el o k=x at *;clear hb;go_wp2_with (go_at_call 113;refine fV hI ?_)
    go_ret
    exact⟨dZ (by rw[HZ.out]),rfl⟩
  ·have k1:¬ ((k:Int)<o.length):=by omega
   have HZ:aG (o.all (fun x=>decide (x∈l))=aB):=Le (fun j hj=>HA.out j (by omega))
   go_wp2;go_ret
   exact⟨dZ (by rw[HZ.out]),rfl⟩
attribute [local irreducible] sv
end
def jL (r:Rw):List eF:=[ny r.txt,gQ r.got,gQ r.dQ,gQ r.dU]
def jw (A:Ra) (r:Rw):List aJ:=[aj A.ta r.txt.length A.tc,aj A.ga r.got.length A.gc,aj A.sa r.dQ.length A.sc,aj A.ma r.dU.length A.mc]
def NM (w w':aI) (e:Ending) (r:Rw):Prop:=∃ A:Ra,e=aK (iK A r)/\kW w w' (jL r) (jw A r)
theorem Zu {w: aI} {c1 c2 c3 c4: eF} {v1 v2 v3 v4: aJ} {f1 f2 f3 f4: Fp} (h1:eF.ow w c1 v1 f1) (h2:eF.ow w c2 v2 f2) (h3:eF.ow w c3 v3 f3) (h4:eF.ow w c4 v4 f4) (d1:∀ b,f1 b->¬ (f2 b\/f3 b\/f4 b)) (d2:∀ b,f2 b->¬ (f3 b\/f4 b)) (d3:∀ b,f3 b->¬ f4 b) :
  gq w [c1,c2,c3,c4] [v1,v2,v3,v4] (fun b=>f1 b\/f2 b\/f3 b\/f4 b) :=
 ⟨v1,_,f1,fun b=>f2 b\/f3 b\/f4 b,rfl,h1,⟨v2,_,f2,fun b=>f3 b\/f4 b,rfl,h2,⟨v3,_,f3,f4,rfl,h3,⟨v4,[],f4,fun _=>False,rfl,h4,⟨rfl,fun _ h=>h⟩,fun _ _ h=>h,fun b=>by simp⟩,d3,fun b=>ba1⟩,d2,fun b=>ba1⟩,d1,fun b=>ba1⟩
theorem Lh (w:aI):eF.ow w (ny []) (aj ak 0 0) (fun _=>False):=qI.2 ⟨ak,0,ak,rfl,iV.nil _ _ IJ,fun b=>by simp⟩
theorem vT (w:aI):eF.ow w (gQ []) (aj ak 0 0) (fun _=>False):=jv.2 ⟨ak,0,ak,rfl,iV.nil _ _ IJ,fun b=>by simp⟩
theorem Zv {w: aI} (hb:Below w.heap.size w w'):kW w w' (jL nJ) (jw ⟨ak,0,ak,0,ak,0,ak,0⟩ nJ) :=
 ⟨_,Zu (Lh w') (vT w') (vT w') (vT w') (fun b h=>absurd h id) (fun b h=>absurd h id) (fun b h=>absurd h id),fun b h=>by rcases h with h|h|h|h<;>exact absurd h id,hb⟩
theorem an9 (w:aI) (n:Nat) (hn:n<=ba2):OI (w.alloc (aH (madeCells #[ah aA 0] n) 2)) w.heap.size 0 n n (aW5 n 0):=by
 have h:=Dn w #[ah aA 0] 1 n 2 rfl (by omega) hn
 rw[Nat.mul_one] at h
 have e:(aW5 n (#[aZ9 aA 0]:Array aJ).toList).flatten=(aW5 n (0:Int)).map (aZ9 aA):=by
  rw[List.map_replicate];clear h hn
  induction n with
  | zero=>rfl
  | succ n ih=>rw[dw,dw,List.flatten_cons,ih];rfl
 rw[e] at h;exact h
theorem J8 (w:aI) (g:Nat) {a b c d e f h i: aJ}:eU (fun x=>x=g) w ((((((((w.setCell ⟨g,0,ak⟩ a).setCell ⟨g,1,ak⟩ b).setCell ⟨g,2,ak⟩ c).setCell ⟨g,3,ak⟩ d).setCell ⟨g,4,ak⟩ e).setCell ⟨g,5,ak⟩ f).setCell ⟨g,6,ak⟩ h).setCell ⟨g,7,ak⟩ i) :=
 (((((((eU.set w g 0 a).trans (eU.set _ g 1 b) (fun _ _ h=>h)).trans (eU.set _ g 2 c) (fun _ _ h=>h)).trans (eU.set _ g 3 d) (fun _ _ h=>h)).trans (eU.set _ g 4 e) (fun _ _ h=>h)).trans (eU.set _ g 5 f) (fun _ _ h=>h)).trans (eU.set _ g 6 h) (fun _ _ h=>h)).trans (eU.set _ g 7 i) (fun _ _ h=>h)
theorem Bx.f8 {w: aI} {B: Nat} {T: TypeId} {cs: Array aJ} (h:Bx w B T cs):(w.frozen? ⟨B,0,ak⟩=aC/\w.frozen? ⟨B,1,ak⟩=aC/\w.frozen? ⟨B,2,ak⟩=aC/\w.frozen? ⟨B,3,ak⟩=aC)/\w.frozen? ⟨B,4,ak⟩=aC/\w.frozen? ⟨B,5,ak⟩=aC/\w.frozen? ⟨B,6,ak⟩=aC/\w.frozen? ⟨B,7,ak⟩=aC :=
 ⟨⟨h.f 0,h.f 1,h.f 2,h.f 3⟩,h.f 4,h.f 5,h.f 6,h.f 7⟩
theorem Og (n:Int) (w:aI) :
  ba3 aZ8 80 #[ah aA n] w fun e w'=>NM w w' e (jV n):=by
 have hb0:=dX w (aH #[ah aA 0,aj ak 0 0,aj ak 0 0,aj ak 0 0,aF aC,aF aC,ah aA 0,aj ak 0 0] 44);have hx:=Bx.new w 44 #[ah aA 0,aj ak 0 0,aj ak 0 0,aj ak 0 0,aF aC,aF aC,ah aA 0,aj ak 0 0];have HB0:=dP hb0;generalize hW:w.alloc (aH #[ah aA 0,aj ak 0 0,aj ak 0 0,aj ak 0 0,aF aC,aF aC,ah aA 0,aj ak 0 0] 44)=W at *;have hlt:=hx.lt
 cases e1:inB n 1 5 with
 | false =>
  have HZ:aG (jV n=nJ):=by rw[aG,jV,e1];rfl
  obtain⟨⟨c0,c1,c2,c3⟩,c4,c5,c6,c7⟩:=hx.r8;obtain⟨⟨f0,f1,f2,f3⟩,f4,f5,f6,f7⟩:=hx.f8;clear hx hb0;go_enter Tryz.func80,Tryz.ntmps80
  go_wp2_with (go_at_call 40;refine fV (gG _ _ _ _) ?_)
  refine bodyPost_ret (v:=iK ⟨ak,0,ak,0,ak,0,ak,0⟩ nJ) (by simp[results,Tryz.results80,go_sem,iK,fP,nJ, *]) rfl ?_
  rw[HZ.out];exact⟨_,rfl,Zv ((J8 W w.heap.size).below HB0.out HB0.out.size (fun b h=>by rw[h];exact aZ0 _))⟩
 | true =>
  have hn:=iQ.1 e1;obtain⟨N,rfl⟩:∃ N:Nat,n=(N:Int):=⟨n.toNat,by omega⟩
  have HZ:aG (jV (N:Int)=⟨0,[],aW5 N 0,[],aC,aC,0,[]⟩):=by rw[aG,jV,e1];simp
  have hmk:=run_make_row' (P:=aZ8) 41 2 (ah aA 0) 8 dK Tryz.info2 rfl aA aA N (by omega) (by omega)
  have hM:=an9 (w.alloc (aH #[ah aA 0,aj ak 0 0,aj (au ⟨w.heap.size+1,0,ak⟩) N N,aj ak 0 0,aF aC,aF aC,ah aA 0,aj ak 0 0] 44)) N (by unfold ba2;omega)
  have hbM:Below w.heap.size w ((w.alloc (aH #[ah aA 0,aj ak 0 0,aj (au ⟨w.heap.size+1,0,ak⟩) N N,aj ak 0 0,aF aC,aF aC,ah aA 0,aj ak 0 0] 44)).alloc (aH (madeCells #[ah aA 0] N) 2)):=(dX w _).trans ((dX _ _).mono (dX w _).size);rw[World.size_alloc] at hM
  have HA:aG (kW w ((w.alloc (aH #[ah aA 0,aj ak 0 0,aj (au ⟨w.heap.size+1,0,ak⟩) N N,aj ak 0 0,aF aC,aF aC,ah aA 0,aj ak 0 0] 44)).alloc (aH (madeCells #[ah aA 0] N) 2)) (jL ⟨0,[],aW5 N 0,[],aC,aC,0,[]⟩) (jw ⟨ak,0,au ⟨w.heap.size+1,0,ak⟩,N,ak,0,ak,0⟩ ⟨0,[],aW5 N 0,[],aC,aC,0,[]⟩)):=by
   refine⟨_,Zu (Lh _) (f2:=fun b=>b=w.heap.size+1) ?_ (vT _) (vT _) (fun b h=>absurd h id) (fun b _ h=>by rcases h with h|h<;>exact absurd h id) (fun b h=>absurd h id),fun b h=>?_,hbM⟩
   ·refine jv.2 ⟨_,N,au (w.heap.size+1),rfl,iV.of ?_,fun b=>by simp[eq_comm]⟩
    have e:(aW5 N (0:Int)).length=N:=List.length_replicate;simp only[e]
    exact hM
   ·rcases h with h|h|h|h
    ·exact absurd h id
    ·rw[h];omega
    ·exact absurd h id
    ·exact absurd h id
  clear hx hb0 hM hbM hW hlt HB0;go_enter Tryz.func80,Tryz.ntmps80
  go_wp2_with (go_at_call 40;refine fV (gG _ _ _ _) ?_)
  refine bodyPost_ret (v:=iK ⟨ak,0,au ⟨w.heap.size+1,0,ak⟩,N,ak,0,ak,0⟩ ⟨0,[],aW5 N 0,[],aC,aC,0,[]⟩) (by simp[results,Tryz.results80,go_sem,iK,fP]) rfl ?_
  rw[HZ.out];exact⟨_,rfl,HA.out⟩
abbrev Vw:=Int×List Int
def Oh (v:Vw):Prop:=(1<=v.1/\v.1<=1000000)/\(1<=v.2.length/\v.2.length<=8)/\v.2.Pairwise (·<·)/\∀ x∈v.2,0<=x/\x<=99
instance (v:Vw):Decidable (Oh v):=by unfold Oh;infer_instance
theorem aJ0 {i: Nat} (h:i<xs.length):el xs i∈xs:=by simp[el,ba0,h]
theorem aJ1 {x: Int} (h:x∈xs):∃ i,i<xs.length/\el xs i=x:=by
 obtain⟨i,hi,e⟩:=bU.1 h;exact⟨i,hi,by simp[el,ba0,hi,e]⟩
def aL9 (m l:List Int):Nat:=(m.filter (fun x=>decide (x∈l))).length
def mjP (v:Vw) (l:List Int):Prop:=Oh v/\v.2.length<2*aL9 v.2 l
instance (v:Vw) (l:List Int):Decidable (mjP v l):=by unfold mjP;infer_instance
def az9 (m gone:List Int):List Int:=m.filter (fun x=>decide (x∉gone))
def aJ2 (m come:List Int):List Int:=come.foldl gY m
def aA0 (v:Vw) (gone come:List Int):Prop:=Oh v/\mjP v (az9 v.2 gone)/\Oh (v.1+1,aJ2 (az9 v.2 gone) come)
instance (v:Vw) (gone come:List Int):Decidable (aA0 v gone come):=by unfold aA0;infer_instance
theorem Zw (h:List Int) (n:Int):(gY h n).length<=h.length+1:=by
 induction h with
 | nil=>simp[gY]
 | cons x h ih =>
  unfold gY
  split
  ·simp only[aU6];omega
  ·split<;>simp only[aU6]<;>omega
theorem VV.below {w w':aI} {a:Option ba5} {len cap:Nat} {H:List (List Int)} (h:VV w a len cap H) (hb:Below w.heap.size w w'):VV w' a len cap H :=
 ⟨h.n,h.le,h.mx,fun i hi => by
  obtain⟨b,off,x,c,e,h1,h2,h3,h4⟩:=h.row i hi;exact⟨b,off,x,c,e,fM hb h1,h2.below hb (aZ0 _),h3,h4⟩⟩
theorem rG {w: aI} (hb:Below w.heap.size w w') {p: ba5} {v: aJ} (h:w.cell? p=au v):w'.cell? p=au v:=fM hb h
theorem ao0 (n:Int):∀ (h:List Int) (k:Nat),k<=h.length->(∀ t,t<k->el h t<n)->(k<h.length->¬ el h k<n) ->
  gY h n=if k<h.length/\el h k=n then h else h.take k++n::h.drop k:=by
 intro h
 induction h with
 | nil=>intro k hk _ _;simp at hk;subst hk;simp[gY]
 | cons x l ih =>
  intro k hk hlt hge
  cases k with
  | zero =>
   have h0:¬ x<n:=by simpa[el] using hge (by simp)
   unfold gY;rw[if_neg h0];by_cases e:x=n
   ·rw[if_pos e,if_pos ⟨by simp,by simpa[el] using e⟩]
   ·rw[if_neg e,if_neg (by simp[el];exact e)]
    simp
  | succ k =>
   have h0:x<n:=by simpa[el] using hlt 0 (by omega)
   have hs:∀ t,el (x::l) (t+1)=el l t:=fun t=>by simp[el]
   unfold gY;rw[if_pos h0,ih k (by simpa using hk) (fun t ht=>by rw[<- hs];exact hlt (t+1) (by omega)) (fun hk'=>by rw[<- hs];exact hge (by simpa using hk')),hs]
   by_cases e:k<l.length/\el l k=n
   ·rw[if_pos e,if_pos ⟨by simpa using e.1,e.2⟩]
   ·rw[if_neg e,if_neg (by simpa using e)]
    simp
theorem J9 {k i: Nat} (h:i<k):el (xs.take k) i=el xs i:=by simp[el,List.getElem?_take,h]
theorem ao1 {k i: Nat}:el (xs.drop k) i=el xs (k+i):=by simp[el,List.getElem?_drop]
theorem zM {w w2: aI} {g2 o2 c2 m: Nat} {Z: List Int} (ho2:jk w2 1 g2 o2 (0+m) c2 (([]:List Int).map (aZ9 aA)++Z.map (aZ9 aA))) (hg2:(w.alloc (aH #[] 2)).grownBy w2 (au w.heap.size))
  (yT:g2=w.heap.size\/g2=(w.alloc (aH #[] 2)).heap.size):OI w2 g2 o2 m c2 Z/\w.heap.size<=g2/\Below w.heap.size w w2/\g2<w2.heap.size:=by
 simp only[List.map_nil,List.nil_append,Nat.zero_add] at ho2;refine⟨ho2, ?_,oL ((aZ5 _ _).alloc (aZ0 _) _) hg2 (aZ0 _) (by simp),ho2.blk⟩
 rcases yT with h|h
 ·rw[h];exact aZ0 _
 ·rw[h];simp
theorem H9 {w w3: aI} {o: Obj} {g3 o4 c4 m k: Nat} {T: List Int} {n: Int} (hB:Below w.heap.size w w3) (hg:w.heap.size<=g3) (ho:jk w4 1 g4 o4 (k+1) c4 (T.map (aZ9 aA)++[ah aA n])) (hg4:(w3.alloc o).grownBy w4 (au g3))
  (hat:g4=g3\/g4=(w3.alloc o).heap.size):OI w4 g4 o4 (k+1) c4 (T++[n])/\w.heap.size<=g4/\Below w.heap.size w w4:=by
 refine⟨by rw[OI,aV9];exact ho, ?_,oL (hB.alloc hB.size _) hg4 hg (aY2 hB.size (by simp))⟩
 rcases hat with h|h
 ·rw[h];exact hg
 ·rw[h];exact aY2 hB.size (by simp)
theorem Ia {w w5: aI} {g5 o5 c5 m k: Nat} {T D: List Int} {n: Int} (hB:Below w.heap.size w w4) (hg:w.heap.size<=g4) (ho:jk w5 1 g5 o5 (k+1+m) c5 ((T++[n]).map (aZ9 aA)++D.map (aZ9 aA))) (hg5:w4.grownBy w5 (au g4))
  (hat:g5=g4\/g5=w4.heap.size):OI w5 g5 o5 (k+1+m) c5 (T++n::D)/\w.heap.size<=g5/\Below w.heap.size w w5:=by
 refine⟨by rw[OI,show T++n::D=(T++[n])++D by simp,aV9];exact ho, ?_,oL hB hg5 hg hB.size⟩
 rcases hat with h|h
 ·rw[h];exact hg
 ·rw[h];exact hB.size
theorem Zx (b off len cap:Nat) (xs:List Int) (n:Int) (w:aI) (hl:xs.length=len) (hc:∀ i,i<len->w.cell? ⟨b,off+i,ak⟩=au (ah aA (el xs i))) (hcap:len<=cap) (hm:cap<=ba2) (hn:len<=100000000) :
  ba3 aZ8 106 #[aj (au ⟨b,off,ak⟩) len cap,ah aA n] w fun e w'=>(e=aK (aj (au ⟨b,off,ak⟩) len cap)/\gY xs n=xs/\w'=w)\/Hr w w' e (gY xs n):=by
 obtain⟨i0,hi0,hz0,hz1,hz2⟩:=ku Tryz.info2n;unfold ba2 at hm;have HL:=dP hl
 have HP:aG (∀ k,k<=len->(∀ t,t<k->el xs t<n)->(k<len->¬ el xs k<n)->gY xs n=if k<len/\el xs k=n then xs else xs.take k++n::xs.drop k):=fun k h1 h2 h3=>by
  have:=ao0 n xs k (by omega) h2 (by rw[hl];exact h3)
  rw[hl] at this;exact this
 clear hl;go_enter Tryz.func106,Tryz.ntmps106
 go_wp2_with fail
 go_loop [5] (fun i=>∃ k:Nat,k<=len/\i=ah aA k/\∀ t,t<k->el xs t<n) (fun i=>len-(ba4 i).toNat)
 case atStart=>exact⟨0,aZ1 _,rfl,fun t ht=>by omega⟩
 case round =>
  obtain⟨k,hk,rfl,hlo⟩:=hrel;have HO:=dP hlo;clear hlo;have k0:(0:Int)<=k:=by omega
  by_cases hlt:k<len
  ·have hck:=hc k hlt
   have k1:(k:Int)<len:=by omega
   by_cases hx:el xs k<n
   ·have hd:decide (el xs k<n)=aB:=by simpa using hx
    have HE:aG (∀ t,t<k+1->el xs t<n):=fun t ht=>by
     rcases bD.1 ht with h1|h1
     ·exact HO.out t h1
     ·rw[h1];exact hx
    go_wp2
    go_round
    case rel=>exact⟨k+1,by omega,by go_num,HE.out⟩
    case measure=>simp[ba4];omega
   ·have hd:decide (el xs k<n)=aC:=by simpa using hx
    have HQ:=HP.out k hk HO.out (fun _=>by omega)
    by_cases he:el xs k=n
    ·have hb:(el xs k==n)=aB:=by simpa using he
     have HZ:aG (gY xs n=xs):=by rw[aG,HQ,if_pos ⟨hlt,he⟩]
     clear HQ he hx;go_wp2;go_ret
     exact .inl ⟨rfl,HZ.out,rfl⟩
    ·have hb:(el xs k==n)=aC:=by simpa using he
     have HZ:aG (gY xs n=xs.take k++n::xs.drop k):=by rw[aG,HQ,if_neg (fun h=>he h.2)]
     clear HQ he hx;have k2:(k:Int)<=len:=by omega
     have k3:(k:Int)<=cap:=by omega
     have rU:aG ((xs.take k).length=k):=by rw[aG,aU5,HL.out];omega
     have wI:aG ((xs.drop k).length=len-k):=by rw[aG,aU8,HL.out]
     have HD:aG (∀ i,i<(xs.drop k).length->(w.alloc (aH #[] 2)).cell? ⟨b,off+k+i,ak⟩=au (ah aA (el (xs.drop k) i))):=fun i hi=>by
      rw[ao1,Nat.add_assoc];exact rG ((aZ5 _ _).alloc (aZ0 _) _) (hc (k+i) (by have:=wI.out;omega))
     have HT:aG (∀ i,i<(xs.take k).length->w.cell? ⟨b,off+i,ak⟩=au (ah aA (el (xs.take k) i))):=fun i hi=>by
      rw[J9 (by have:=rU.out;omega)]
      exact hc i (by have:=rU.out;omega)
     clear hc;generalize xs.take k=T at *;generalize xs.drop k=D at *;have Wh:(T.map (aZ9 aA)).length=k*1:=by rw[aV7,rU.out];omega
     have hDn:(D.map (aZ9 aA)).length=(len-k)*1:=by rw[aV7,wI.out];omega
     go_wp2_with (first
      | (at_builtin;refine iH _ rfl (.tmp 34) (.tmp 37) _ rfl 2 i0 _ 1 8 dK hi0 hz0 hz1 hz2 rfl (by omega) w.heap.size 0 0 0 (([]:List Int).map (aZ9 aA)) rfl (oG w 2) ⟨b,off+k,ak⟩ (len-k) (cap-k) (D.map (aZ9 aA)) rfl hDn (pY HD.out) (by simp[aX4]) (by unfold ba2;omega) (by omega) ?_;intro g2 o2 c2 w2 ho2 hg2 yT;obtain⟨q2,r2,s2,t2⟩:=zM ho2 hg2 yT;clear ho2 hg2 yT)
      | (at_builtin;refine iH _ rfl (.tmp 39) (.tmp 42) _ rfl 2 i0 _ 1 8 Tryz.underlying41 hi0 hz0 hz1 hz2 rfl (by omega) w2.heap.size 0 0 0 (([]:List Int).map (Value.int .i64)) rfl (oG w2 2) ⟨b,off,none⟩ k cap (T.map (Value.int .i64)) rfl Wh (pY (fun i hi=>rG ((aZ5 _ _).alloc (aZ0 _) _) (rG s2 (HT.out i hi)))) (by simp[aX4]) (by unfold ba2;omega) (by omega) ?_;intro g3 o3 c3 w3 ho3 hg3 EG;obtain⟨q3,r3,s3,t3⟩:=zM ho3 hg3 EG;clear ho3 hg3 EG)
      | (at_builtin;refine iH _ rfl (.tmp 43) (.tmp 45) _ rfl 2 i0 _ 1 8 dK hi0 hz0 hz1 hz2 rfl (by omega) g3 o3 k c3 (T.map (aZ9 aA)) rfl (jk.below q3 ((aZ5 _ _).alloc (aZ0 _) _) t3) ⟨w3.heap.size,0,ak⟩ 1 1 [ah aA n] rfl rfl (World.news_of_block (cs:=#[ah aA n]) (t:=2) (fr:=(0,0)) (heap_alloc_new _ _)) (by simp[aX4]) (by unfold ba2;omega) (by omega) ?_;intro g4 o4 c4 w4 yF hg4 EH;obtain⟨q4,r4,s4⟩:=H9 (m:=0) s3 r3 yF hg4 EH;clear yF hg4 EH)
      | (at_builtin;refine iH _ rfl (.tmp 46) (.tmp 47) _ rfl 2 i0 _ 1 8 Tryz.underlying41 hi0 hz0 hz1 hz2 rfl (by omega) g4 o4 (k+1) c4 ((T++[n]).map (Value.int .i64)) rfl q4 ⟨g2,o2,none⟩ (len-k) c2 (D.map (Value.int .i64)) rfl hDn (pY (fun i hi=>OI.cellAt (show OI w4 g2 o2 (len-k) c2 D from jk.below q2 s4 t2) (by have:=wI.out;omega))) (by simp[aX4]) (by unfold ba2;omega) (by omega) ?_;intro g5 o5 c5 w5 Lj hg5 EI;obtain⟨q5,r5,s5⟩:=Ia s4 r4 Lj hg5 EI;clear Lj hg5 EI))
     go_ret
     refine .inr ⟨g5,o5,c5, ?_,aY2 s2.size r5, ?_,eP s2 s5⟩
     ·rw[HZ.out,dB,aU6,rU.out,wI.out]
      exact congrArg (fun z=>Ending.returned (aj (au ⟨g5,o5,ak⟩) z c5)) (by omega)
     ·rw[HZ.out,dB,aU6,rU.out,wI.out,show k+(len-k+1)=k+1+(len-k) by omega]
      exact q5
  ·have HQ:=HP.out k hk HO.out (fun h=>absurd h hlt)
   have HZ:aG (gY xs n=xs.take k++n::xs.drop k):=by rw[aG,HQ,if_neg (fun h=>hlt h.1)]
   clear HQ;have hkl:len=k:=by omega
   subst hkl;clear hlt;by_cases hcl:len=cap
   ·subst hcl
    have k2:(0:Int)<=len:=by omega
    have k3:(len:Int)<=len:=by omega
    have rU:aG ((xs.take len).length=len):=by rw[aG,aU5,HL.out];omega
    have wI:aG ((xs.drop len).length=0):=by rw[aG,aU8,HL.out];omega
    have HD:aG (∀ i,i<(xs.drop len).length->(w.alloc (aH #[] 2)).cell? ⟨b,off+i,ak⟩=au (ah aA (el (xs.drop len) i))):=fun i hi=>absurd hi (by have:=wI.out;omega)
    have HT:aG (∀ i,i<(xs.take len).length->w.cell? ⟨b,off+i,ak⟩=au (ah aA (el (xs.take len) i))):=fun i hi=>by
     rw[J9 (by have:=rU.out;omega)]
     exact hc i (by have:=rU.out;omega)
    clear hc;generalize xs.take len=T at *;generalize xs.drop len=D at *;have Wh:(T.map (aZ9 aA)).length=len*1:=by rw[aV7,rU.out];omega
    have hDn:(D.map (aZ9 aA)).length=0*1:=by rw[aV7,wI.out]
    go_wp2_with (first
     | (at_builtin;refine iH _ rfl (.tmp 34) (.tmp 37) _ rfl 2 i0 _ 1 8 dK hi0 hz0 hz1 hz2 rfl (by omega) w.heap.size 0 0 0 (([]:List Int).map (aZ9 aA)) rfl (oG w 2) ⟨b,off,ak⟩ 0 0 (D.map (aZ9 aA)) rfl hDn (pY HD.out) (by simp[aX4]) (by unfold ba2;omega) (by omega) ?_;intro g2 o2 c2 w2 ho2 hg2 yT;obtain⟨q2,r2,s2,t2⟩:=zM ho2 hg2 yT;clear ho2 hg2 yT)
     | (at_builtin;refine iH _ rfl (.tmp 39) (.tmp 42) _ rfl 2 i0 _ 1 8 Tryz.underlying41 hi0 hz0 hz1 hz2 rfl (by omega) w2.heap.size 0 0 0 (([]:List Int).map (Value.int .i64)) rfl (oG w2 2) ⟨b,off,none⟩ len len (T.map (Value.int .i64)) rfl Wh (pY (fun i hi=>rG ((aZ5 _ _).alloc (aZ0 _) _) (rG s2 (HT.out i hi)))) (by simp[aX4]) (by unfold ba2;omega) (by omega) ?_;intro g3 o3 c3 w3 ho3 hg3 EG;obtain⟨q3,r3,s3,t3⟩:=zM ho3 hg3 EG;clear ho3 hg3 EG)
     | (at_builtin;refine iH _ rfl (.tmp 43) (.tmp 45) _ rfl 2 i0 _ 1 8 dK hi0 hz0 hz1 hz2 rfl (by omega) g3 o3 len c3 (T.map (aZ9 aA)) rfl (jk.below q3 ((aZ5 _ _).alloc (aZ0 _) _) t3) ⟨w3.heap.size,0,ak⟩ 1 1 [ah aA n] rfl rfl (World.news_of_block (cs:=#[ah aA n]) (t:=2) (fr:=(0,0)) (heap_alloc_new _ _)) (by simp[aX4]) (by unfold ba2;omega) (by omega) ?_;intro g4 o4 c4 w4 yF hg4 EH;obtain⟨q4,r4,s4⟩:=H9 (m:=0) s3 r3 yF hg4 EH;clear yF hg4 EH)
     | (at_builtin;refine iH _ rfl (.tmp 46) (.tmp 47) _ rfl 2 i0 _ 1 8 Tryz.underlying41 hi0 hz0 hz1 hz2 rfl (by omega) g4 o4 (len+1) c4 ((T++[n]).map (Value.int .i64)) rfl q4 ⟨g2,o2,none⟩ 0 c2 (D.map (Value.int .i64)) rfl hDn (pY (fun i hi=>OI.cellAt (show OI w4 g2 o2 0 c2 D from jk.below q2 s4 t2) (by have:=wI.out;omega))) (by simp[aX4]) (by unfold ba2;omega) (by omega) ?_;intro g5 o5 c5 w5 Lj hg5 EI;obtain⟨q5,r5,s5⟩:=Ia s4 r4 Lj hg5 EI;clear Lj hg5 EI))
    go_ret
    refine .inr ⟨g5,o5,c5, ?_,aY2 s2.size r5, ?_,eP s2 s5⟩
    ·rw[HZ.out,dB,aU6,rU.out,wI.out]
     exact congrArg (fun z=>Ending.returned (aj (au ⟨g5,o5,ak⟩) z c5)) (by omega)
    ·rw[HZ.out,dB,aU6,rU.out,wI.out,show len+(0+1)=len+1+0 by omega]
     exact q5
   ·have aR5:¬ (cap=len):=fun h=>hcl h.symm
    have k2:(0:Int)<=len:=by omega
    have k3:(len:Int)<=cap:=by omega
    have rU:aG ((xs.take len).length=len):=by rw[aG,aU5,HL.out];omega
    have wI:aG ((xs.drop len).length=0):=by rw[aG,aU8,HL.out];omega
    have HD:aG (∀ i,i<(xs.drop len).length->(w.alloc (aH #[] 2)).cell? ⟨b,off+len+i,ak⟩=au (ah aA (el (xs.drop len) i))):=fun i hi=>absurd hi (by have:=wI.out;omega)
    have HT:aG (∀ i,i<(xs.take len).length->w.cell? ⟨b,off+i,ak⟩=au (ah aA (el (xs.take len) i))):=fun i hi=>by
     rw[J9 (by have:=rU.out;omega)]
     exact hc i (by have:=rU.out;omega)
    clear hc;generalize xs.take len=T at *;generalize xs.drop len=D at *;have Wh:(T.map (aZ9 aA)).length=len*1:=by rw[aV7,rU.out];omega
    have hDn:(D.map (aZ9 aA)).length=0*1:=by rw[aV7,wI.out]
    go_wp2_with (first
     | (at_builtin;refine iH _ rfl (.tmp 34) (.tmp 37) _ rfl 2 i0 _ 1 8 dK hi0 hz0 hz1 hz2 rfl (by omega) w.heap.size 0 0 0 (([]:List Int).map (aZ9 aA)) rfl (oG w 2) ⟨b,off+len,ak⟩ 0 (cap-len) (D.map (aZ9 aA)) rfl hDn (pY HD.out) (by simp[aX4]) (by unfold ba2;omega) (by omega) ?_;intro g2 o2 c2 w2 ho2 hg2 yT;obtain⟨q2,r2,s2,t2⟩:=zM ho2 hg2 yT;clear ho2 hg2 yT)
     | (at_builtin;refine iH _ rfl (.tmp 39) (.tmp 42) _ rfl 2 i0 _ 1 8 Tryz.underlying41 hi0 hz0 hz1 hz2 rfl (by omega) w2.heap.size 0 0 0 (([]:List Int).map (Value.int .i64)) rfl (oG w2 2) ⟨b,off,none⟩ len cap (T.map (Value.int .i64)) rfl Wh (pY (fun i hi=>rG ((aZ5 _ _).alloc (aZ0 _) _) (rG s2 (HT.out i hi)))) (by simp[aX4]) (by unfold ba2;omega) (by omega) ?_;intro g3 o3 c3 w3 ho3 hg3 EG;obtain⟨q3,r3,s3,t3⟩:=zM ho3 hg3 EG;clear ho3 hg3 EG)
     | (at_builtin;refine iH _ rfl (.tmp 43) (.tmp 45) _ rfl 2 i0 _ 1 8 dK hi0 hz0 hz1 hz2 rfl (by omega) g3 o3 len c3 (T.map (aZ9 aA)) rfl (jk.below q3 ((aZ5 _ _).alloc (aZ0 _) _) t3) ⟨w3.heap.size,0,ak⟩ 1 1 [ah aA n] rfl rfl (World.news_of_block (cs:=#[ah aA n]) (t:=2) (fr:=(0,0)) (heap_alloc_new _ _)) (by simp[aX4]) (by unfold ba2;omega) (by omega) ?_;intro g4 o4 c4 w4 yF hg4 EH;obtain⟨q4,r4,s4⟩:=H9 (m:=0) s3 r3 yF hg4 EH;clear yF hg4 EH)
     | (at_builtin;refine iH _ rfl (.tmp 46) (.tmp 47) _ rfl 2 i0 _ 1 8 Tryz.underlying41 hi0 hz0 hz1 hz2 rfl (by omega) g4 o4 (len+1) c4 ((T++[n]).map (Value.int .i64)) rfl q4 ⟨g2,o2,none⟩ 0 c2 (D.map (Value.int .i64)) rfl hDn (pY (fun i hi=>OI.cellAt (show OI w4 g2 o2 0 c2 D from jk.below q2 s4 t2) (by have:=wI.out;omega))) (by simp[aX4]) (by unfold ba2;omega) (by omega) ?_;intro g5 o5 c5 w5 Lj hg5 EI;obtain⟨q5,r5,s5⟩:=Ia s4 r4 Lj hg5 EI;clear Lj hg5 EI))
    go_ret
    refine .inr ⟨g5,o5,c5, ?_,aY2 s2.size r5, ?_,eP s2 s5⟩
    ·rw[HZ.out,dB,aU6,rU.out,wI.out]
     exact congrArg (fun z=>Ending.returned (aj (au ⟨g5,o5,ak⟩) z c5)) (by omega)
    ·rw[HZ.out,dB,aU6,rU.out,wI.out,show len+(0+1)=len+1+0 by omega]
     exact q5
theorem Zy (n:Int) (w:aI):ba3 aZ8 106 #[aj ak 0 0,ah aA n] w fun e w'=>Hr w w' e [n]:=by
 obtain⟨i0,hi0,hz0,hz1,hz2⟩:=ku Tryz.info2n;go_enter Tryz.func106,Tryz.ntmps106
 go_wp2_with fail
 go_loop [5] (fun i=>i=ah aA 0) (fun i=>0)
 case atStart=>rfl
 case round =>
  subst hrel;go_wp2_with (first
   | (at_builtin;refine sW _ rfl (.tmp 34) (.tmp 37) _ rfl 2 i0 dK hi0 (au ⟨w.heap.size,0,ak⟩) 0 0 rfl (aZ0 _) ak 0 rfl ?_)
   | (at_builtin;refine sW _ rfl (.tmp 39) (.tmp 42) _ rfl 2 i0 dK hi0 (au ⟨w.heap.size+1,0,ak⟩) 0 0 rfl (aZ0 _) ak 0 rfl ?_)
   | (at_builtin;refine Ht _ rfl (.tmp 43) (.tmp 45) _ rfl 2 i0 _ 1 8 dK hi0 hz0 hz1 hz2 rfl (by omega) (au ⟨w.heap.size+1,0,ak⟩) 0 0 [] ak rfl (iV.nil _ _ (kV _ _)) (au ⟨w.heap.size+1+1,0,ak⟩) 1 1 [ah aA n] rfl rfl (.inr ⟨_,rfl,World.news_of_block (cs:=#[ah aA n]) (t:=2) (fr:=(0,0)) (by simpa using heap_alloc_new ((w.alloc (aH #[] 2)).alloc (aH #[] 2)) (aH #[ah aA n] 2))⟩) (by simp[aX4]) (by unfold ba2;omega) (by omega) ?_;intro a2 c2 G2 w2 ho2 hg2 yT)
   | (at_builtin;refine sW _ rfl (.tmp 46) (.tmp 47) _ rfl 2 i0 dK hi0 a2 (0+1) c2 rfl ho2.le.1 (au ⟨w.heap.size,0,ak⟩) 0 rfl ?_))
  go_ret
  rcases ho2 with ⟨h0,_⟩|⟨g,off,rfl,ho2,rfl⟩
  ·omega
  ·have hG:g=w.heap.size+1+1+1:=by
    rcases yT with h|h
    ·cases h
    ·simpa using h
   refine⟨g,off,c2,rfl,by omega,by simpa[OI] using ho2, ?_⟩
   have h3:Below w.heap.size w (((w.alloc (aH #[] 2)).alloc (aH #[] 2)).alloc (aH #[ah aA n] 2)):=(((aZ5 _ _).alloc (aZ0 _) _).alloc (by simp) _).alloc (by simp;omega) _
   exact below_of_grown h3 hg2 (fun k hk=>by cases hk) h3.size
theorem Oi (a:Option ba5) (cap:Nat) (xs:List Int) (n:Int) (w:aI) (hv:Vec w a xs.length xs) (ha:a=ak->cap=0) (hcap:xs.length<=cap) (hm:cap<=ba2) (hn:xs.length<=100000000) (hoff:sU a) :
  ba3 aZ8 106 #[aj a xs.length cap,ah aA n] w fun e w'=>(e=aK (aj a xs.length cap)/\gY xs n=xs/\w'=w)\/Hr w w' e (gY xs n):=by
 cases a with
 | none =>
  have hc:=ha rfl;subst hc;have hx:xs=[]:=List.eq_nil_of_length_eq_zero (by omega)
  subst hx;exact (Zy n w).mono (fun e w' h=>.inr h)
 | some x =>
  obtain⟨b,off,rfl⟩:=hoff x rfl;refine Zx b off xs.length cap xs n w rfl (fun i hi=>?_) hcap hm hn
  rcases hv.2.2 with h|⟨b',off',hb,hc⟩
  ·omega
  ·cases hb
   exact hc i hi
structure Cc (w X:aI) (p:Nat) (a:Option ba5) (len cap:Nat) (bs:Nat->Int):Prop where
 cur:jM X p a len cap
 code:oC w a len bs
 below:Below w.heap.size w X
 off:Ez a len p
 hl:len<=4096
 hp:w.heap.size<=p
theorem Cc.yU {w X: aI} {p: Nat} {a: Option ba5} {len cap: Nat} {bs: Nat->Int} (h:Cc w X p a len cap bs):oC X a len bs:=h.code.below h.below (aZ0 _)
theorem Cc.step {w X: aI} {p: Nat} {a: Option ba5} {len cap: Nat} {bs: Nat->Int} (h:Cc w X p a len cap bs) (hb:Below X.heap.size X X'):Cc w X' p a len cap bs :=
 ⟨h.cur.below hb h.cur.lt,h.code,eP h.below hb,h.off,h.hl,h.hp⟩
theorem Cc.drawn {w X: aI} {p: Nat} {a: Option ba5} {len cap: Nat} {bs: Nat->Int} (h:Cc w X p a len cap bs) (hg:X.grownBy X' (au p)) (hc:jM X' p a len cap):Cc w X' p a len cap bs :=
 ⟨hc,h.code,below_of_grown h.below hg (fun k e=>by cases e;exact h.hp) h.below.size,h.off,h.hl,h.hp⟩
theorem Cc.lt {w X: aI} {p: Nat} {a: Option ba5} {len cap: Nat} {bs: Nat->Int} (h:Cc w X p a len cap bs):p<X.heap.size:=h.cur.lt
theorem jR (N:Nat) (n:Int) (hN:n=(N:Int)) {w X: aI} {p: Nat} {a: Option ba5} {len cap: Nat} {bs: Nat->Int} (h:Cc w X p a len cap bs) (h1:1<=N) (h2:N<=10000) :
  ba3 aZ8 27 #[aO (au ⟨p,0,ak⟩),ah aA n] X fun e w'=>∃ Y:Nat,e=aK (ah aA (Y:Int))/\Y<N/\Cc w w' p a len cap bs/\X.grownBy w' (au p):=by
 subst hN;refine (pI p a len cap bs (N:Int) X h.cur h.yU h.off h.hl (by omega)).mono ?_
 rintro e w' ⟨x,rfl,h0,h3,_,hc,hg⟩;have h4:=h3 (by omega)
 exact⟨x.toNat,by rw[show ((x.toNat:Nat):Int)=x by omega],by omega,h.drawn hg hc,hg⟩
theorem uz (n:Int) {w X: aI} {p: Nat} {a: Option ba5} {len cap: Nat} {bs: Nat->Int} (h:Cc w X p a len cap bs) (hn:n<=10000) :
  ba3 aZ8 28 #[aO (au ⟨p,0,ak⟩),ah aA n] X fun e w'=>∃ t:Bool,e=aK (aF t)/\Cc w w' p a len cap bs/\X.grownBy w' (au p):=by
 refine (Dj p a len cap bs n X h.cur h.yU h.off h.hl (by omega)).mono ?_
 rintro e w' ⟨t,rfl,hc,hg⟩;exact⟨t,rfl,h.drawn hg hc,hg⟩
theorem newC (a:Option ba5) (len cap:Nat) (bs:Nat->Int) (w X:aI) (hb:Below w.heap.size w X) (hv:oC w a len bs) (hl:len<=4096) :
  ba3 aZ8 26 #[aj a len cap] X fun e w'=>∃ p,e=aK (aO (au ⟨p,0,ak⟩))/\X.heap.size<=p/\Cc w w' p a len cap bs/\Below X.heap.size X w':=by
 refine (new_any a len cap bs X (hv.below hb (aZ0 _)) hl).mono ?_;rintro e w1 ⟨p,rfl,hp,hc1,hb1⟩;have hs:=hb.size;exact⟨p,rfl,hp,⟨hc1,hv,eP hb hb1,fun hl b off e=>by have:=hv.inB hl b off e;omega,hl,by omega⟩,hb1⟩
theorem IV (lo hi:Int) (h0:-1000<=lo) (h1:lo<=hi) (h2:hi<=1000) {w X: aI} {p: Nat} {a: Option ba5} {len cap: Nat} {bs: Nat->Int} (h:Cc w X p a len cap bs) :
  ba3 aZ8 62 #[aO (au ⟨p,0,ak⟩),ah aA lo,ah aA hi] X fun e w'=>∃ x:Int,e=aK (ah aA x)/\lo<=x/\x<=hi/\Cc w w' p a len cap bs/\X.grownBy w' (au p):=by
 have hB:=jR (hi-lo+1).toNat (hi-lo+1) (by omega) h (by omega) (by omega)
 go_enter Tryz.func62,Tryz.ntmps62
 go_wp2_with fail
 refine hB.mono ?_;rintro e w1 ⟨Y,rfl,hY,hq,hg⟩;have b1:lo+(Y:Int)<=9223372036854775807:=by omega
 have b2:-9223372036854775808<=lo+(Y:Int):=by omega
 have HQ:aG (Cc w w1 p a len cap bs/\X.grownBy w1 (au p)):=⟨hq,hg⟩;clear hq hB hg;go_wp2;go_ret
 exact⟨lo+(Y:Int),rfl,by omega,by omega,HQ.out⟩
structure Bk (B:aI) where
 w:aI
 h:Below B.heap.size B w
theorem Oj {P: Program} {id: Nat} {Q: Exit->Act->aI->Prop} {a: Act} {w: aI} {l: List Oper} (hm:P.follows .mixedOrders=aB) (hB:Region.lexB .any l.toArray=aB)
  (h:wpQuiet P l.toArray (fun w'=>∃ p:Bk w,w'=p.w) (fun a'=>∀ w',(∃ p:Bk w,w'=p.w)->Q .normal a' w') l a):(Code.region id l.toArray aB).wp P Q a w :=
 wp_region_quiet (C:=fun w'=>∃ p:Bk w,w'=p.w) hm hB ⟨⟨w.drewN 1,fO (aZ5 _ _)⟩,rfl⟩ (by simpa using h)
theorem eY {P: Program} {f: FuncId} {args: Array aJ} {B: aI} {v: aJ} (p:Bk B) (h:ba3 P f args p.w fun e w'=>e=aK v/\Below p.w.heap.size p.w w'):ba3 P f args p.w fun e w'=>e=aK v/\∃ q:Bk B,w'=q.w :=
 h.mono fun e w' h=>⟨h.1,⟨w',eP p.h h.2⟩,rfl⟩
theorem iI {W: aI} {Q: aI->Prop} (h:∀ w', Below W.heap.size W w'->Q w'):∀ w', (∃ p:Bk W, w'=p.w)->Q w':=fun _ ⟨p, e⟩=>e ▸ h p.w p.h
theorem jf {P: Program} {id: Nat} {Q: Exit -> Act -> aI -> Prop} {a: Act} {w: aI} {l: List Oper}
    (h:wpQuiet P l.toArray (fun w'=>∃ p:Bk w, w'=p.w) (fun a'=>∀ w', (∃ p:Bk w, w'=p.w)->Q .normal a' w') l a) (hm:P.follows .mixedOrders=aB:=by kernel_rfl) (hB:Region.lexB .any l.toArray=aB:=by kernel_rfl):(Code.region id l.toArray aB).wp P Q a w:=Oj hm hB h
theorem Ol (a:Option ba5) (cap:Nat) (xs:List Int) (n:Int) (w:aI) (fp:Fp) (ho:eF.ow w (gQ xs) (aj a xs.length cap) fp) (hf:Fits xs) (hn:xs.length<=100000000) :
  ba3 aZ8 106 #[aj a xs.length cap,ah aA n] w fun e w'=>∃ a' c' fp',e=aK (aj a' (gY xs n).length c')/\eF.ow w' (gQ (gY xs n)) (aj a' (gY xs n).length c') fp'/\(∀ b,fp' b->fp b\/w.heap.size<=b)/\Below w.heap.size w w':=by
 obtain⟨a0,c0,e0,hv,h1,h2⟩:=nI (eF.xZ ho) hf
 cases e0
 obtain⟨a1,c1,G,e1,hs,hG⟩:=jv.1 ho
 cases e1
 have hnone:a=ak->cap=0:=fun e=>by
  rcases hs with ⟨_,h,_⟩|⟨g,off,ha,_⟩
  ·exact h
  ·rw[ha] at e;cases e
 refine (Oi a cap xs n w hv hnone h1 h2 hn hs.plain).mono ?_;rintro e w' (⟨rfl,h3,rfl⟩|⟨g,off,c,rfl,hg,hO,hb⟩)
 ·exact⟨a,cap,fp,by rw[h3],by rw[h3];exact ho,fun b hb=>.inl hb,aZ5 _ _⟩
 ·exact⟨_,c,fun b=>b=g,rfl,jv.2 ⟨_,c,au g,rfl,iV.of hO,fun b=>by simp[eq_comm]⟩,fun b hb=>.inr (by rw[hb];exact hg),hb⟩
def jo (x:Int):Prop:=-9223372036854775808<=x/\x<=9223372036854775807
structure Om (w:aI) (a:Option ba5) (c:Nat) (M:List Int):Prop where
 vec:Vec w a M.length M
 le:M.length<=c
 mx:c<=ba2
 pl:sU a
 nn:a=ak->c=0
theorem Om.below {w: aI} {a: Option ba5} {c: Nat} {M: List Int} (h:Om w a c M) (hb:Below w.heap.size w w'):Om w' a c M:=⟨h.vec.below hb (aZ0 _),h.le,h.mx,h.pl,h.nn⟩
theorem tu {w: aI} {a: Option ba5} {c: Nat} {M: List Int} {fp: Fp} (h:eF.ow w (gQ M) (aj a M.length c) fp) (hf:Fits M):Om w a c M:=by
 obtain⟨a0,c0,e0,hv,h1,h2⟩:=nI (eF.xZ h) hf
 cases e0
 obtain⟨a1,c1,G,e1,hs,hG⟩:=jv.1 h
 cases e1
 refine⟨hv,h1,h2,hs.plain,fun e=>?_⟩
 rcases hs with ⟨_,h,_⟩|⟨g,off,ha,_⟩
 ·exact h
 ·rw[ha] at e;cases e
section
def kK (r:Rw):Nat:=r.txt.length+BL r.txt r.txt.length+r.got.length+r.dQ.length+r.dU.length
attribute [local irreducible] sv
end
section
theorem pK {α:Type}:∀ {l:List α} {k:Nat} {x:α},l[k]?=au x->l.set k x=l
 | [],k,x,h=>by simp at h
 | y::l,0,x,h=>by simp at h;rw[h];rfl
 | y::l,k+1,x,h=>by rw[List.set_cons_succ,pK (by simpa using h)]
attribute [local irreducible] sv
end
def tC (r:Rw):Prop:=jo r.ver/\jo r.dW
structure qo (w:aI) (A:Ra) (r:Rw):Prop where
 txt:Lc w A.ta A.tc r.txt
 got:Om w A.ga A.gc r.got
 dQ:Om w A.sa A.sc r.dQ
 dU:Om w A.ma A.mc r.dU
 i64:tC r
 sz:kK r<=1048576
theorem qo.below {w: aI} {A: Ra} {r: Rw} (h:qo w A r) (hb:Below w.heap.size w w'):qo w' A r:=⟨h.txt.below hb,h.got.below hb,h.dQ.below hb,h.dU.below hb,h.i64,h.sz⟩
theorem qo.rws {w: aI} {A: Ra} {r: Rw} (h:qo w A r):qJ w A r:=by
 have hs:=h.sz;unfold kK at hs;exact⟨h.txt.RP,h.got.vec,h.dQ.vec,h.dU.vec,by unfold ba2;omega,by unfold ba2;omega,by unfold ba2;omega,by unfold ba2;omega⟩
def qK (r:Rw):Prop:=Fits r.got/\Fits r.dQ/\Fits r.dU
theorem Oo {w: aI} {A: Ra} {r: Rw} (h:It w (jL r) (jw A r) lo hi):∃ f1 f2 f3 f4,eF.ow w (ny r.txt) (aj A.ta r.txt.length A.tc) f1/\eF.ow w (gQ r.got) (aj A.ga r.got.length A.gc) f2/\eF.ow w (gQ r.dQ) (aj A.sa r.dQ.length A.sc) f3/\eF.ow w (gQ r.dU) (aj A.ma r.dU.length A.mc) f4:=by
 obtain⟨f,h1,_⟩:=h;obtain⟨u1,vU,f1,g1,e1,o1,h2,_⟩:=h1
 cases e1
 obtain⟨u2,xu,f2,g2,e2,o2,h3,_⟩:=h2
 cases e2
 obtain⟨u3,EJ,f3,g3,e3,o3,h4,_⟩:=h3
 cases e3
 obtain⟨u4,Oq,f4,g4,e4,o4,h5,_⟩:=h4
 cases e4
 exact⟨f1,f2,f3,f4,o1,o2,o3,o4⟩
theorem zV {w: aI} {A: Ra} {r: Rw} (h:It w (jL r) (jw A r) lo hi) (hf:qK r) (h6:tC r) (hs:kK r<=1048576):qo w A r:=by
 obtain⟨f1,f2,f3,f4,o1,o2,o3,o4⟩:=Oo h;exact⟨Oe o1,tu o2 hf.1,tu o3 hf.2.1,tu o4 hf.2.2,h6,hs⟩
theorem Ot {w: aI} {A: Ra} {r: Rw} (h:It w (jL r) (jw A r) lo hi) (hf:qK r) (hs:kK r<=1048576):qJ w A r:=by
 obtain⟨f1,f2,f3,f4,o1,o2,o3,o4⟩:=Oo h;unfold kK at hs;exact⟨(Oe o1).RP,(tu o2 hf.1).vec,(tu o3 hf.2.1).vec,(tu o4 hf.2.2).vec,by unfold ba2;omega,by unfold ba2;omega,by unfold ba2;omega,by unfold ba2;omega⟩
def Wi:Prop:=∀ (A:Ra) (r:Rw) (n:Int) (w:aI),qo w A r->jo n->ba3 aZ8 51 #[iK A r,ah aA n] w fun e w'=>e=aK (aF (gu r n))/\Below w.heap.size w w'
structure Nx (r r':Rw):Prop where
 ver:r.ver<=r'.ver
 txt:r.txt <+: r'.txt
 got:∀ i,el r.got i<=el r'.got i
 dQ:∀ x∈r.dQ,x∈r'.dQ
 wed:r.wed=aB->r'.wed=aB/\r'.got=r.got/\r'.txt=r.txt
 dV:r.dV=aB->r'.dV=aB/\r.dW<=r'.dW/\(r'.dW=r.dW->r'.dU=r.dU)
theorem Nx.refl (r:Rw):Nx r r:=⟨aZ3 _,aV1 _,fun _=>aZ3 _,fun _ h=>h,fun h=>⟨h,rfl,rfl⟩,fun h=>⟨h,aZ3 _,fun _=>rfl⟩⟩
theorem Nx.trans {a b c:Rw} (h:Nx a b) (k:Nx b c):Nx a c:=by
 refine⟨Int.le_trans h.ver k.ver,h.txt.trans k.txt,fun i=>Int.le_trans (h.got i) (k.got i),fun x hx=>k.dQ x (h.dQ x hx),fun hw=>?_,fun hr=>?_⟩
 ·obtain⟨h1,h2,h3⟩:=h.wed hw
  obtain⟨k1,k2,k3⟩:=k.wed h1;exact⟨k1,k2.trans h2,k3.trans h3⟩
 ·obtain⟨h1,h2,h3⟩:=h.dV hr
  obtain⟨k1,k2,k3⟩:=k.dV h1;refine⟨k1,Int.le_trans h2 k2,fun e=>?_⟩
  have e2:b.dW=a.dW:=by omega
  rw[k3 (by omega),h3 e2]
def Chain (l:List Rw):Prop:=l.Pairwise (fun new old=>Nx old new)
theorem Chain.comp {l: List Rw} (h:Chain l) {p q: Rw} (hp:p∈l) (hq:q∈l):Nx p q\/Nx q p:=by
 induction l with
 | nil=>cases hp
 | cons x l ih =>
  obtain⟨h1,h2⟩:=dI.1 h;rcases aX5.1 hp with rfl|hp
  ·rcases aX5.1 hq with rfl|hq
   ·exact .inl (Nx.refl _)
   ·exact .inr (h1 q hq)
  ·rcases aX5.1 hq with e|hq
   ·rw[e];exact .inl (h1 p hp)
   ·exact ih h2 hp hq
theorem Ou:∀ {n:Nat} {l:List Nat},l.Nodup->(∀ x∈l,x<n)->l.length<=n
 | 0,l,hd,h=>by
  cases l with
  | nil=>exact aZ0 _
  | cons x l=>exact absurd (h x dD) (Nat.not_lt_zero _)
 | n+1,l,hd,h=>by
  have h1 : (l.erase n).length <= n := Ou (hd.erase n) (fun x hx => by
   have:=h x (List.mem_of_mem_erase hx);have hne:x≠n:=fun e=>by rw[e] at hx;exact (List.Nodup.not_mem_erase hd) hx
   omega)
  have h2:l.length<=(l.erase n).length+1:=by
   rw[List.length_erase]
   split<;>omega
  omega
theorem UK {n: Nat}:∀ {Q R:List Nat},Q.Nodup->R.Nodup->(∀ x∈Q,x<n)->(∀ x∈R,x<n)->n<2*Q.length->n<2*R.length->∃ x,x∈Q/\x∈R:=by
 intro Q R hQ hR hq hr h1 h2;refine aZ fun hn=>?_
 have hd:∀ x∈Q,x∉R:=fun x hx hx2=>hn ⟨x,hx,hx2⟩
 have hnd:(Q++R).Nodup:=List.nodup_append.2 ⟨hQ,hR,fun a ha b hb e=>hd a ha (e ▸ hb)⟩
 have hl := Ou hnd (n := n) (fun x hx => by
  rcases aW0.1 hx with h|h
  ·exact hq x h
  ·exact hr x h)
 rw[dB] at hl;omega
abbrev Hs:=Nat->List Rw
structure Half (n:Nat) (Q:List Nat):Prop where
 nd:Q.Nodup
 lt:∀ x∈Q,x<n
 half:n<2*Q.length
theorem Half.share {n: Nat} {Q R: List Nat} (h:Half n Q) (k:Half n R):∃ x,x∈Q/\x∈R:=UK h.nd k.nd h.lt k.lt h.half k.half
structure Pp where
 b:Nat
 T:List Int
 Q:List Nat
 p:Nat->Rw
 Qo:List Nat
 po:Nat->Rw
structure Ko (n:Nat) (h:Hs) (P:Pp) (rest:List Pp):Prop where
 bn:P.b<n
 half:Half n P.Q
 mem:∀ j∈P.Q,P.p j∈h j
 wed:∀ j∈P.Q,(P.p j).wed=aB
 low:∀ j∈P.Q,∀ x:Nat,x<P.b->(x:Int)∈(P.p j).dQ
 row:∃ r∈h P.b,r.dV=aB/\r.dW=(P.b:Int)/\r.dU=P.T
 top:(∀ j∈P.Q,(P.p j).dV=aC)\/∃ j∈P.Q,(P.p j).dV=aB/\(∀ k∈P.Q,(P.p k).dV=aB->(P.p k).dW<=(P.p j).dW)/\∃ P'∈rest,(P'.b:Int)=(P.p j).dW/\P'.T=P.T
 oh:Half n P.Qo
 om:∀ j∈P.Qo,P.po j∈h j
 ow:∀ j∈P.Qo,(P.po j).wed=aB/\(P.po j).dV=aC
 oT:∀ s,s<n->(∀ j∈P.Qo,el P.T s<=el (P.po j).got s)/\∃ j∈P.Qo,el P.T s=el (P.po j).got s
 os:∀ i,i<n->i∉P.Qo->∀ j∈P.Qo,(i:Int)∈(P.po j).dQ
def wJ (n:Nat) (h:Hs):List Pp->Prop
 | []=>True
 | P::rest=>Ko n h P rest/\wJ n h rest
theorem wJ.at {n:Nat} {h:Hs}:∀ {log:List Pp},wJ n h log->∀ {P:Pp},P∈log->∃ rest,Ko n h P rest/\wJ n h rest/\(∀ P'∈rest,P'∈log)/\rest.length<log.length
 | [],hl,P,hP=>by cases hP
 | P0::rest,hl,P,hP=>by
  rcases aX5.1 hP with rfl|hP
  ·exact⟨rest,hl.1,hl.2,fun P' h'=>bV _ h',by simp⟩
  ·obtain⟨r,h1,h2,h3,h4⟩:=wJ.at hl.2 hP
   exact⟨r,h1,h2,fun P' h'=>bV _ (h3 P' h'),by simp;omega⟩
theorem Ko.more {n: Nat} {h h': Hs} {P: Pp} {rest: List Pp} (k:Ko n h P rest) (hm:∀ j r,r∈h j->r∈h' j):Ko n h' P rest :=
 ⟨k.bn,k.half,fun j hj=>hm j _ (k.mem j hj),k.wed,k.low,by obtain⟨r,h1,h2⟩:=k.row;exact⟨r,hm _ _ h1,h2⟩,k.top,k.oh,fun j hj=>hm j _ (k.om j hj),k.ow,k.oT,k.os⟩
theorem wJ.more {n:Nat} {h h':Hs} (hm:∀ j r,r∈h j->r∈h' j):∀ {log:List Pp},wJ n h log->wJ n h' log
 | [],_=>trivial
 | P::rest,k=>⟨k.1.more hm,wJ.more hm k.2⟩
structure oU (n:Nat) (h:Hs) (log:List Pp):Prop where
 chain:∀ j,Chain (h j)
 acc:∀ j,∀ r∈h j,r.dV=aB->∃ r0∈h j,Nx r0 r/\r0.dV=aB/\r0.dW=r.dW/\r0.dW∉r0.dQ
 prop:∀ j,∀ r∈h j,r.dV=aB->∃ P∈log,(P.b:Int)=r.dW/\P.T=r.dU
 log:wJ n h log
def Kq (n:Nat) (h:Hs) (q:Nat):Prop:=∀ j,j<n->∃ r∈h j,((q/n:Nat):Int)<el r.got (q%n)
theorem oU.covers {n: Nat} {h: Hs} {log: List Pp} (S:oU n h log) (hn:0<n) {P: Pp} (hP:P∈log) {q: Nat} (hq:Kq n h q):((q/n:Nat):Int)<el P.T (q%n):=by
 obtain⟨_,k,_⟩:=S.log.at hP;obtain⟨_,j,hj,e⟩:=k.oT (q%n) (aZ7 _ hn);obtain⟨r,h1,h2⟩:=hq j (k.oh.lt j hj);rw[e];rcases (S.chain j).comp h1 (k.om j hj) with c|c
 ·have:=c.got (q%n);omega
 ·rw[<- (c.wed (k.ow j hj).1).2.1];exact h2
theorem oU.had {n: Nat} {h: Hs} {log: List Pp} (S:oU n h log) {i: Nat} (hi:i<n) {o: Rw} (ho:o∈h i) (hr:o.dV=aB) (hw:o.wed=aB) {Q: List Nat} (hQ:Half n Q) (hq:∀ j∈Q,∃ q∈h j,q.dV=aB/\(i:Int)∉q.dQ) {s: Nat} (hs:s<n):el o.dU s<=el o.got s:=by
 obtain⟨P,hP,p1,p2⟩:=S.prop i o ho hr;obtain⟨_,k,_⟩:=S.log.at hP;rw[<- p2];by_cases hin:i∈P.Qo
 ·have h1:=(k.oT s hs).1 i hin
  rcases (S.chain i).comp ho (k.om i hin) with c|c
  ·rw[<- (c.wed hw).2.1];exact h1
  ·rw[(c.wed (k.ow i hin).1).2.1];exact h1
 ·obtain⟨j,hj,hj2⟩:=hQ.share k.oh
  obtain⟨q,q1,q2,q3⟩:=hq j hj;rcases (S.chain j).comp q1 (k.om j hj2) with c|c
  ·have:=(c.dV q2).1
   rw[(k.ow j hj2).2] at this
   cases this
  ·exact absurd (c.dQ _ (k.os i hi hin j hj2)) q3
def kL (cs:List Int) (k j:Nat):List Int:=((aZ6 j).filter (fun i=>decide ((k:Int)<el cs i))).map (fun i:Nat=>(cs.length:Int)*(k:Int)+(i:Int))
def iC (cs:List Int) (M:Nat):List Int:=(aZ6 M).flatMap (fun k=>kL cs k cs.length)
theorem yG (cs:List Int) (k j:Nat):kL cs k (j+1)=kL cs k j++(if (k:Int)<el cs j then [(cs.length:Int)*(k:Int)+(j:Int)] else []):=by
 unfold kL;rw[aW2,List.filter_append,aV9];by_cases h:(k:Int)<el cs j
 ·simp[h]
 ·simp[h]
theorem qX (cs:List Int) (M:Nat):iC cs (M+1)=iC cs M++kL cs M cs.length:=by simp[iC,aW2]
theorem Ov {k: Nat} {q: Int}:q∈kL cs k j↔∃ i:Nat,i<j/\(k:Int)<el cs i/\q=(cs.length:Int)*(k:Int)+(i:Int):=by
 simp only[kL,List.mem_map,List.mem_filter,aX1,decide_eq_true_eq]
 constructor
 ·rintro⟨i,⟨h1,h2⟩,h3⟩;exact⟨i,h1,h2,h3.symm⟩
 ·rintro⟨i,h1,h2,h3⟩;exact⟨i,⟨h1,h2⟩,h3.symm⟩
theorem xI {M: Nat} {q: Int}:q∈iC cs M↔∃ k i:Nat,k<M/\i<cs.length/\(k:Int)<el cs i/\q=(cs.length:Int)*(k:Int)+(i:Int):=by
 simp only[iC,List.mem_flatMap,aX1,Ov]
 constructor
 ·rintro⟨k,hk,i,h⟩;exact⟨k,i,hk,h⟩
 ·rintro⟨k,i,hk,h⟩;exact⟨k,hk,i,h⟩
theorem UL (cs:List Int) (k j:Nat):(kL cs k j).Pairwise (·<·):=by
 unfold kL;rw[List.pairwise_map];exact ((List.pairwise_lt_range (n:=j)).filter _).imp (fun hab=>by omega)
theorem zC (cs:List Int) (M:Nat):(iC cs M).Pairwise (·<·):=by
 induction M with
 | zero=>simp[iC]
 | succ M ih =>
  rw[qX,List.pairwise_append];refine⟨ih,UL _ _ _,fun a ha b hb=>?_⟩
  obtain⟨k,i,hk,hi,_,rfl⟩:=xI.1 ha;obtain⟨i',_,_,rfl⟩:=Ov.1 hb;have h1:(cs.length:Int)*((k:Int)+1)<=(cs.length:Int)*(M:Int):=Int.mul_le_mul_of_nonneg_left (by omega) (by omega)
  rw[Int.mul_add,Int.mul_one] at h1;omega
theorem RU {M: Nat} (h1:1<=cs.length) (hM:∀ i,i<cs.length->el cs i<=(M:Int)):FY cs (iC cs M):=by
 refine⟨zC cs M,fun q=>?_⟩
 rw[xI]
 constructor
 ·rintro⟨k,i,hk,hi,hlt,rfl⟩
  have e:(cs.length:Int)*(k:Int)+(i:Int)=((cs.length*k+i:Nat):Int):=by simp
  rw[e];refine⟨by omega, ?_⟩
  rw[dM];unfold bel;rw[Nat.mul_add_mod,Nat.mod_eq_of_lt hi,Nat.mul_add_div (by omega),Nat.div_eq_of_lt hi]
  simpa using hlt
 ·rintro⟨h0,hb⟩
  obtain⟨p,rfl⟩:∃ p:Nat,q=(p:Int):=⟨q.toNat,by omega⟩
  rw[dM] at hb;unfold bel at hb;have hm:p%cs.length<cs.length:=aZ7 _ (by omega)
  have hle:=hM (p%cs.length) hm;refine⟨p/cs.length,p%cs.length,by omega,hm,hb, ?_⟩
  have:=Nat.div_add_mod p cs.length
  exact_mod_cast this.symm
def yV (cs:List Int) (M j:Nat):Nat:=((aZ6 j).map (fun i=>min (el cs i).toNat M)).sum
theorem yH (cs:List Int) (M j:Nat):yV cs M (j+1)=yV cs M j+min (el cs j).toNat M:=by simp[yV,aW2]
theorem Zz (cs:List Int) (M j:Nat):yV cs (M+1) j=yV cs M j+(kL cs M j).length:=by
 induction j with
 | zero=>simp[yV,kL]
 | succ j ih =>
  rw[yH,yH,yG,dB,ih];by_cases h:(M:Int)<el cs j
  ·rw[if_pos h];simp;omega
  ·rw[if_neg h];simp;omega
theorem Ox (cs:List Int) (M:Nat):(iC cs M).length=yV cs M cs.length:=by
 induction M with
 | zero =>
  have:∀ j,yV cs 0 j=0:=fun j=>by
   induction j with
   | zero=>rfl
   | succ j ih=>rw[yH,ih];simp
  rw[this];simp[iC]
 | succ M ih=>rw[qX,dB,ih,Zz]
theorem ZA {M: Nat} (hM:∀ i,i<cs.length->0<=el cs i/\el cs i<=(M:Int)):∀ j,j<=cs.length->(yV cs M j:Int)=pX (cs.take j):=by
 intro j
 induction j with
 | zero=>intro _;simp[yV,pX]
 | succ j ih =>
  intro hj;have h:=hM j (by omega)
  rw[yH,List.take_succ_eq_append_getElem (by omega),Ew,<- ih (by omega),<- uq (by omega)]
  omega
theorem UM {M: Nat} (hM:∀ i,i<cs.length->0<=el cs i/\el cs i<=(M:Int)):((iC cs M).length:Int)=pX cs:=by
 have:=ZA hM cs.length (aZ0 _);rw[List.take_length] at this;rw[Ox,this]
structure Mb where
 id:Int
 n:Int
 rows:List Rw
 dR:List Int
 done:Bool
def kY:Mb:=⟨0,0,[],[],aC⟩
def dO (R:List Rw) (j:Nat):Rw:=R.getD j nJ
def Mb.i (m:Mb):Nat:=m.id.toNat
def Mb.k (m:Mb):Nat:=m.n.toNat
def Mb.own (m:Mb):Rw:=dO m.rows m.i
def EK (m:Mb):Bool:=(aZ6 m.dR.length).all (fun i=>inB (el m.dR i) 0 59&&(m.done||decide (el m.dR i=(i:Int))))
def gZ (m:Mb):Bool :=
 inB m.n 1 5 && (inB m.id 0 (m.n - 1) && (decide ((m.rows.length : Int) = m.n) && (decide (m.dR.length <= 60) && (sZ m.dR && (m.rows.all (fun r => gu r m.n) && (EK m &&
  (decide (el m.own.got m.i=(m.own.txt.length:Int))&&(decide (m.id∉m.own.dQ)&&(!m.done||m.own.dV)))))))))
def kN (id n:Int):Mb×Bool:=if inB n 1 5=aB/\inB id 0 (n-1)=aB then (⟨id,n,aW5 n.toNat (jV n),[],aC⟩,aB) else (kY,aC)
def Mb.put (m:Mb) (o:Rw):Mb:={ m with rows:=m.rows.set m.i o }
def gX (m:Mb) (t:List UInt8):Mb×Bool :=
 if m.own.wed=aB\/m.done=aB\/m.own.txt.length=12\/20<t.length\/m.own.ver=1000000 then (m,aC)
 else (m.put { m.own with txt:=m.own.txt++[t],got:=m.own.got.set m.i (el m.own.got m.i+1),ver:=m.own.ver+1 },aB)
def iJ (m:Mb) (who:Int):Mb×Bool :=
 if inB who 0 (m.n-1)=aC\/who=m.id\/who∈m.own.dQ\/m.done=aB\/m.own.ver=1000000 then (m,aC)
 else (m.put { m.own with dQ:=gY m.own.dQ who,wed:=aB,ver:=m.own.ver+1 },aB)
def fG (m:Mb) (fr:Int) (r:Rw):Mb×Bool :=
 if inB fr 0 (m.n-1)=aC\/fr=m.id\/fr∈m.own.dQ\/m.done=aB\/gu r m.n=aC\/r.ver<=(dO m.rows fr.toNat).ver then (m,aC)
 else ({ m with rows:=m.rows.set fr.toNat r },aB)
def fA (n:Nat) (dQ:List Int):List Nat:=(aZ6 n).filter (fun j=>decide ((j:Int)∉dQ))
def kP (id:Nat) (s:List Int) (r:List Int):List Int:=r.foldl (fun s x=>if x=(id:Int) then s else gY s x) s
def kZ (id:Nat) (o:Rw) (k:Nat) (r:Rw):Rw:=if k=id\/(r.wed=aC/\r.dQ=[]) then o else { o with wed:=aB,dQ:=kP id o.dQ r.dQ }
def learn (R:List Rw) (id:Nat) (o:Rw) (L:List Nat):Rw:=L.foldl (fun o k=>kZ id o k (dO R k)) o
def kH (R:List Rw) (o:Rw) (n:Nat):List Int:=(aZ6 n).map (fun j=>max (el o.got j) ((dO R j).txt.length:Int))
def nS (R:List Rw) (n q:Nat):Bool:=R.all (fun r=>decide (((q/n:Nat):Int)<el r.got (q%n)))
def kR (R:List Rw) (n:Nat):Nat->List Int->List Int
 | 0,s=>s
 | f+1,s=>if nS R n s.length=aB then kR R n f (s++[(s.length:Int)]) else s
def kX (R:List Rw) (o:Rw) (L:List Nat):Bool:=L.all (fun k=>(dO R k).wed&&o.dQ.all (fun x=>decide (x∈(dO R k).dQ)))
def best (R:List Rw) (L:List Nat) (a:Int×List Int):Int×List Int:=L.foldl (fun a k=>if (dO R k).dV=aB/\a.1<(dO R k).dW then ((dO R k).dW,(dO R k).dU) else a) a
def meets (R:List Rw):List Nat->List Int
 | []=>[]
 | k::t=>t.foldl (fun acc j=>je min acc (dO R j).got) (dO R k).got
def endOf (R:List Rw) (L:List Nat):List Int:=if (best R L (-1,[])).1<0 then meets R L else (best R L (-1,[])).2
def lead (R:List Rw) (id:Nat) (o:Rw) (L:List Nat):Rw:=if o.dV=aB/\(id:Int)<=o.dW then o else if kX R o L=aB then { o with dV:=aB,dW:=(id:Int),dU:=endOf R L } else o
def adopt (R:List Rw) (id:Nat) (o:Rw) (f:Nat):Rw :=
 if (dO R f).dV=aB/\(dO R f).dW=(f:Int)/\(id:Int)∉(dO R f).dQ/\¬ (o.dV=aB/\(f:Int)<=o.dW) then { o with dV:=aB,dW:=(f:Int),dU:=(dO R f).dU } else o
def ends (R:List Rw) (id:Nat) (o:Rw) (L:List Nat):Bool:=L.all (fun k=>(dO R k).dV&&(decide ((dO R k).dW=o.dW)&&(decide ((dO R k).dU=o.dU)&&decide ((id:Int)∉(dO R k).dQ))))
def lD (a b:Rw):Bool:=decide (a.wed=b.wed/\a.dV=b.dV/\a.dW=b.dW/\a.got=b.got/\a.dQ=b.dQ/\a.dU=b.dU)
def jO (s T:List Int):List Int:=(iC T 12).foldl (fun s q=>if q∈s then s else gY s q) s
def fF (m:Mb):Rw:=learn m.rows m.i m.own (fA m.k m.own.dQ)
def gV (m:Mb):Rw:=if (fF m).wed=aB then fF m else { fF m with got:=kH m.rows (fF m) m.k }
def iU (m:Mb):List Int:=if (fF m).wed=aB then m.dR else kR (m.rows.set m.i (gV m)) m.k (60-m.dR.length) m.dR
def jT (m:Mb):List Nat:=fA m.k (gV m).dQ
def iG (m:Mb):Rw:=if (gV m).wed=aB/\m.k<2*(jT m).length/\(jT m).head?=au m.i then lead (m.rows.set m.i (gV m)) m.i (gV m) (jT m) else gV m
def fD (m:Mb):Rw:=if (iG m).wed=aB/\(jT m).head?≠au m.i then adopt (m.rows.set m.i (iG m)) m.i (iG m) ((jT m).headD 0) else iG m
def jJ (m:Mb):Bool:=(fD m).dV&&(decide (m.k<2*(jT m).length)&&ends (m.rows.set m.i (fD m)) m.i (fD m) (jT m))
def kG (m:Mb):Rw:=if lD m.own (fD m)=aB then fD m else { fD m with ver:=(fD m).ver+1 }
def fB (m:Mb):Mb:=if m.done=aB\/m.own.ver=1000000 then m else { m with rows:=m.rows.set m.i (kG m),dR:=if jJ m=aB then jO (iU m) (fD m).dU else iU m,done:=jJ m }
theorem wK {id:Nat} {x:Int}:∀ {r s:List Int},x∈kP id s r↔x∈s\/(x∈r/\x≠(id:Int))
 | [],s=>by simp[kP]
 | y::r,s=>by
  have ih:=wK (id:=id) (x:=x) (r:=r) (s:=if y=(id:Int) then s else gY s y)
  unfold kP at ih ⊢;rw[aV6,ih];by_cases e:y=(id:Int)
  ·rw[if_pos e]
   constructor
   ·rintro (h|⟨h,h2⟩)
    ·exact .inl h
    ·exact .inr ⟨bV _ h,h2⟩
   ·rintro (h|⟨h,h2⟩)
    ·exact .inl h
    ·rcases aX5.1 h with h|h
     ·exact absurd (h.trans e) h2
     ·exact .inr ⟨h,h2⟩
  ·rw[if_neg e,nV]
   constructor
   ·rintro ((h|h)|⟨h,h2⟩)
    ·exact .inr ⟨by rw[h];exact dD,by rw[h];exact e⟩
    ·exact .inl h
    ·exact .inr ⟨bV _ h,h2⟩
   ·rintro (h|⟨h,h2⟩)
    ·exact .inl (.inr h)
    ·rcases aX5.1 h with h|h
     ·exact .inl (.inl h)
     ·exact .inr ⟨h,h2⟩
structure zW (o o':Rw):Prop where
 ver:o'.ver=o.ver
 txt:o'.txt=o.txt
 got:o'.got=o.got
 dV:o'.dV=o.dV
 dW:o'.dW=o.dW
 dU:o'.dU=o.dU
 dQ:∀ x∈o.dQ,x∈o'.dQ
 wed:o.wed=aB->o'.wed=aB
 new:o'.wed=aC->o'.dQ=o.dQ
theorem zW.refl (o:Rw):zW o o:=⟨rfl,rfl,rfl,rfl,rfl,rfl,fun _ h=>h,fun h=>h,fun _=>rfl⟩
theorem UN (id:Nat) (o:Rw) (k:Nat) (r:Rw):zW o (kZ id o k r):=by
 unfold kZ
 split
 ·exact zW.refl o
 ·exact⟨rfl,rfl,rfl,rfl,rfl,rfl,fun x hx=>wK.2 (.inl hx),fun _=>rfl,fun h=>by cases h⟩
theorem zW.trans {a b c: Rw} (h : zW a b) (k : zW b c) : zW a c := ⟨k.ver.trans h.ver,k.txt.trans h.txt,k.got.trans h.got,k.dV.trans h.dV,k.dW.trans h.dW,k.dU.trans h.dU,fun x hx => k.dQ x (h.dQ x hx),fun hw => k.wed (h.wed hw),fun hw => by
 have hb:b.wed=aC:=by
  cases e:b.wed with
  | false=>rfl
  | true=>rw[k.wed e] at hw;cases hw
 rw[k.new hw,h.new hb]⟩
theorem qY (R:List Rw) (id:Nat):∀ (L:List Nat) (o:Rw),zW o (learn R id o L)
 | [],o=>zW.refl o
 | k::L,o=>(UN id o k (dO R k)).trans (qY R id L (kZ id o k (dO R k)))
theorem Bj (R:List Rw) (id:Nat):∀ (L:List Nat) (o:Rw) {x:Int},x∈(learn R id o L).dQ->x∈o.dQ\/∃ k∈L,k≠id/\x∈(dO R k).dQ/\x≠(id:Int)
 | [],o,x,h=>.inl h
 | k::L,o,x,h=>by
  rcases Bj R id L (kZ id o k (dO R k)) h with h|⟨k',h1,h2⟩
  ·unfold kZ at h
   split at h
   ·exact .inl h
   ·rename_i hn
    rcases wK.1 h with h|⟨h,h2⟩
    ·exact .inl h
    ·exact .inr ⟨k,dD,fun e=>hn (.inl e),h,h2⟩
  ·exact .inr ⟨k',bV _ h1,h2⟩
theorem zW.nx {o o': Rw} (h:zW o o'):Nx o o' :=
 ⟨by rw[h.ver];exact aZ3 _,by rw[h.txt];exact aV1 _,fun i=>by rw[h.got];exact aZ3 _,h.dQ,fun hw=>⟨h.wed hw,h.got,h.txt⟩,fun hr=>⟨by rw[h.dV,hr],by rw[h.dW];exact aZ3 _,fun _=>h.dU⟩⟩
theorem jd {n: Nat} {dQ: List Int}:j∈fA n dQ↔j<n/\(j:Int)∉dQ:=by simp[fA]
theorem Q5 (n:Nat) (dQ:List Int):(fA n dQ).Nodup:=List.Pairwise.filter _ List.nodup_range
theorem IW {n: Nat} {dQ: List Int} (h:n<2*(fA n dQ).length):Half n (fA n dQ):=⟨Q5 n dQ,fun x hx=>(jd.1 hx).1,h⟩
theorem Q7 {n: Nat} {dQ: List Int} (h:(fA n dQ).head?=au f):f∈fA n dQ/\∀ x,x<f->(x:Int)∈dQ:=by
 have hmem:=List.mem_of_mem_head? h;refine⟨hmem,fun x hx=>?_⟩
 refine aZ fun hn=>?_
 have hxm:x∈fA n dQ:=jd.2 ⟨by have:=(jd.1 hmem).1;omega,hn⟩
 have hp:(fA n dQ).Pairwise (·<·):=List.Pairwise.filter _ List.pairwise_lt_range
 cases e:fA n dQ with
 | nil=>rw[e] at hmem;cases hmem
 | cons y l =>
  rw[e] at h hp hxm;simp at h
  subst h;rcases aX5.1 hxm with h1|h1
  ·omega
  ·have:=(dI.1 hp).1 x h1;omega
def fl (al:List Bool) (i:Nat):Bool:=al.getD i aC
theorem RX {f: Int->Int->Int} (hf:∀ x y,(0<=x/\x<=1000000)->(0<=y/\y<=1000000)->0<=f x y/\f x y<=1000000) {ys: List Int} (h1:okB xs=aB) (h2:okB ys=aB) (hl:xs.length=ys.length):je f xs ys=jn f xs ys xs.length/\(je f xs ys).length=xs.length/\okB (je f xs ys)=aB:=by
 have ht:vG xs ys=aB:=by simp[vG,h1,h2,hl]
 have e:je f xs ys=jn f xs ys xs.length:=by rw[je,if_pos ht]
 have hlen:(je f xs ys).length=xs.length:=by rw[e,mM]
 refine⟨e,hlen, ?_⟩;have h8:=mJ h1;refine xY (by omega) (by omega) (fun j hj=>?_)
 rw[hlen] at hj;rw[e,UA _ _ _ hj];have:=hf _ _ (wF h1 hj) (wF h2 (i:=j) (by omega))
 simp[inB]
 omega
theorem al6:∀ x y:Int,(0<=x/\x<=1000000)->(0<=y/\y<=1000000)->0<=min x y/\min x y<=1000000:=fun x y h1 h2=>by omega
structure iR (r:Rw) (n:Nat):Prop where
 n5:1<=n/\n<=5
 ver:0<=r.ver/\r.ver<=1000000
 tl:r.txt.length<=12
 ts:∀ t∈r.txt,t.length<=20
 got:okB r.got=aB
 gl:r.got.length=n
 g12:∀ x∈r.got,x<=12
 dQ:∀ x∈r.dQ,0<=x/\x<(n:Int)
 pq:sZ r.dQ=aB
 dV:r.dV=aB->r.wed=aB/\(0<=r.dW/\r.dW<(n:Int))/\okB r.dU=aB/\r.dU.length=n/\∀ x∈r.dU,x<=12
 not:r.dV=aC->r.dW=0/\r.dU=[]
theorem FZ {n: Nat}:lZ v (n:Int)=aB↔okB v=aB/\v.length=n/\∀ x∈v,x<=12:=by
 simp only[lZ,aU2,decide_eq_true_eq,aU3]
 constructor
 ·rintro⟨h1,h2,h3⟩;exact⟨h1,by omega,h3⟩
 ·rintro⟨h1,h2,h3⟩;exact⟨h1,by omega,h3⟩
theorem qh {r: Rw} {n: Nat}:gu r (n:Int)=aB↔iR r n:=by
 constructor
 ·intro h
  simp only[gu,aU2,decide_eq_true_eq,aU3,mX] at h;obtain⟨h1,h2,h3,h4,⟨h5,h6⟩,h7,h8⟩:=h;have h1:=iQ.1 h1;have h2:=iQ.1 h2;obtain⟨g1,g2,g3⟩:=FZ.1 h4;refine⟨by omega,h2,h3,h7,g1,g2,g3,fun x hx=>by have:=iQ.1 (h5 x hx);omega,h6,fun hr=>?_,fun hr=>?_⟩
  ·rw[if_pos hr] at h8
   simp only[aU2] at h8;obtain⟨k1,k2,k3⟩:=h8;have k2:=iQ.1 k2;obtain⟨t1,t2,t3⟩:=FZ.1 k3;exact⟨k1,by omega,t1,t2,t3⟩
  ·rw[hr] at h8
   simp at h8
   exact h8
 ·intro h
  simp only[gu,aU2,decide_eq_true_eq,aU3,mX]
  have:=h.n5;have:=h.ver;refine⟨iQ.2 (by omega),iQ.2 (by omega),h.tl,FZ.2 ⟨h.got,h.gl,h.g12⟩,⟨fun x hx=>iQ.2 (by have:=h.dQ x hx;omega),h.pq⟩,h.ts, ?_⟩
  cases hr:r.dV with
  | true =>
   obtain⟨k1,k2,k3,k4,k5⟩:=h.dV hr;rw[if_pos rfl];simp only[aU2]
   exact⟨k1,iQ.2 (by omega),FZ.2 ⟨k3,k4,k5⟩⟩
  | false =>
   obtain⟨k1,k2⟩:=h.not hr;simp[k1,k2]
def sK (h:Hs) (i:Nat) (r:Rw):Hs:=fun j=>if j=i then r::h j else h j
theorem jS {h: Hs} {i: Nat} {r x: Rw} (hx:x∈h j):x∈sK h i r j:=by
 unfold sK
 split
 ·exact bV _ hx
 ·exact hx
theorem nK (h:Hs) (i:Nat) (r:Rw):sK h i r i=r::h i:=by simp[sK]
theorem oJ {h: Hs} {i: Nat} {r: Rw} (e:j≠i):sK h i r j=h j:=by simp[sK,e]
theorem oU.add {n: Nat} {h: Hs} {log wL: List Pp} (S:oU n h log) {i: Nat} {o o': Rw} {t: List Rw} (ho:h i=o::t) (hx:Nx o o') (ha:o'.dV=aB->(o.dV=aB/\o.dW=o'.dW)\/(o'.dW∉o'.dQ/\∃ P∈wL,(P.b:Int)=o'.dW/\P.T=o'.dU))
  (hl:wJ n (sK h i o') wL) (hs:∀ P∈log,P∈wL):oU n (sK h i o') wL:=by
 have hoi:o∈h i:=by rw[ho];exact dD
 refine⟨fun j=>?_,fun j r hr hrd=>?_,fun j r hr hrd=>?_,hl⟩
 ·by_cases e:j=i
  ·subst e
   rw[nK];refine dI.2 ⟨fun x hx2=>?_,S.chain j⟩
   rw[ho] at hx2;rcases aX5.1 hx2 with h1|h1
   ·rw[h1];exact hx
   ·have:=S.chain j
    rw[ho] at this;exact ((dI.1 this).1 x h1).trans hx
  ·rw[oJ e];exact S.chain j
 ·by_cases e:j=i
  ·subst e
   rw[nK] at hr;rcases aX5.1 hr with h1|h1
   ·subst h1
    rcases ha hrd with ⟨k1,k2⟩|⟨k1,_⟩
    ·obtain⟨r0,m0,m1,m2,m3,m4⟩:=S.acc j o hoi k1
     exact⟨r0,jS m0,m1.trans hx,m2,m3.trans k2,m4⟩
    ·exact⟨r,by rw[nK];exact dD,Nx.refl _,hrd,rfl,k1⟩
   ·obtain⟨r0,m0,m⟩:=S.acc j r h1 hrd
    exact⟨r0,jS m0,m⟩
  ·rw[oJ e] at hr
   obtain⟨r0,m0,m⟩:=S.acc j r hr hrd;exact⟨r0,jS m0,m⟩
 ·by_cases e:j=i
  ·subst e
   rw[nK] at hr;rcases aX5.1 hr with h1|h1
   ·subst h1
    rcases ha hrd with ⟨k1,k2⟩|⟨_,k⟩
    ·obtain⟨P,p0,p1,p2⟩:=S.prop j o hoi k1
     exact⟨P,hs P p0,by rw[p1,k2],by rw[p2,(hx.dV k1).2.2 k2.symm]⟩
    ·exact k
   ·obtain⟨P,p0,p⟩:=S.prop j r h1 hrd
    exact⟨P,hs P p0,p⟩
  ·rw[oJ e] at hr
   obtain⟨P,p0,p⟩:=S.prop j r hr hrd;exact⟨P,hs P p0,p⟩
theorem oU.same {n: Nat} {h: Hs} {log: List Pp} (S:oU n h log) {i: Nat} {o o': Rw} {t: List Rw} (ho:h i=o::t) (hx:Nx o o') (ha:o'.dV=aB->(o.dV=aB/\o.dW=o'.dW)\/(o'.dW∉o'.dQ/\∃ P∈log,(P.b:Int)=o'.dW/\P.T=o'.dU)):oU n (sK h i o') log :=
 S.add ho hx ha (S.log.more (fun j r hr=>jS hr)) (fun P h=>h)
theorem Kq.more {n: Nat} {h h': Hs} {q: Nat} (k:Kq n h q) (hm:∀ j r,r∈h j->r∈h' j):Kq n h' q:=fun j hj=>by
 obtain⟨r,h1,h2⟩:=k j hj;exact⟨r,hm j r h1,h2⟩
structure MInv (n:Nat) (h:Hs) (i:Nat) (m:Mb):Prop where
 hid:m.id=(i:Int)
 hn:m.n=(n:Int)
 lt:i<n
 len:m.rows.length=n
 head:∃ t,h i=dO m.rows i::t
 view:∀ j,j<n->dO m.rows j∈h j
 ok:∀ j,j<n->iR (dO m.rows j) n
 self:(i:Int)∉(dO m.rows i).dQ
 EL:∀ j,j<n->el (dO m.rows i).got j<=((dO m.rows j).txt.length:Int)
 oD:el (dO m.rows i).got i=((dO m.rows i).txt.length:Int)
 uO:m.done=aC->m.dR.length<=60/\∀ q,q<m.dR.length->el m.dR q=(q:Int)/\Kq n h q
 fin:m.done=aB->(dO m.rows i).dV=aB/\n<2*(fA n (dO m.rows i).dQ).length/\(∀ j∈fA n (dO m.rows i).dQ,∃ q∈h j,q.dV=aB/\q.dW=(dO m.rows i).dW/\q.dU=(dO m.rows i).dU/\(i:Int)∉q.dQ)/\m.dR=iC (dO m.rows i).dU 12
theorem MInv.more {n:Nat} {h h':Hs} {i:Nat} {m:Mb} (M:MInv n h i m) (hm:∀ j r,r∈h j->r∈h' j) (he:h' i=h i):MInv n h' i m :=
 ⟨M.hid,M.hn,M.lt,M.len,by rw [he];exact M.head,fun j hj => hm j _ (M.view j hj),M.ok,M.self,M.EL,M.oD,fun hd => ⟨(M.uO hd).1,fun q hq => ⟨((M.uO hd).2 q hq).1,((M.uO hd).2 q hq).2.more hm⟩⟩,
  fun hd=>by
   obtain⟨h1,h2,h3,h4⟩:=M.fin hd;exact⟨h1,h2,fun j hj=>by obtain⟨q,q1,q2⟩:=h3 j hj;exact⟨q,hm j q q1,q2⟩,h4⟩⟩
theorem gB {R: List Rw} {i: Nat} {o: Rw} (hi:i<R.length):dO (R.set i o) j=if j=i then o else dO R j:=by
 unfold dO;rw[aV,aV,List.getElem?_set];by_cases e:i=j
 ·subst e;simp[hi]
 ·rw[if_neg e,if_neg (Ne.symm e)]
theorem MInv.i {n: Nat} {h: Hs} {i: Nat} {m: Mb} (M:MInv n h i m):m.i=i:=by rw[Mb.i,M.hid];rfl
theorem MInv.k {n: Nat} {h: Hs} {i: Nat} {m: Mb} (M:MInv n h i m):m.k=n:=by rw[Mb.k,M.hn];rfl
theorem MInv.own {n: Nat} {h: Hs} {i: Nat} {m: Mb} (M:MInv n h i m):m.own=dO m.rows i:=by rw[Mb.own,M.i]
theorem lK:sZ xs=aB↔xs.Pairwise (·<·):=by rw[sZ,decide_eq_true_iff,Ce]
theorem jG {n: Nat} (hn:1<=n/\n<=5) (hl:v.length=n):(okB v=aB/\∀ x∈v,x<=12)↔∀ j,j<n->0<=el v j/\el v j<=12:=by
 constructor
 ·rintro⟨h1,h2⟩ j hj
  have:=wF h1 (i:=j) (by omega)
  exact⟨this.1,h2 _ (kM (by omega))⟩
 ·intro h
  refine⟨xY (by omega) (by omega) (fun j hj=>?_),fun x hx=>?_⟩
  ·have:=h j (by omega)
   simp[inB]
   omega
  ·obtain⟨j,hj,rfl⟩:=bU.1 hx
   have:=(h j (by omega)).2
   simpa[el,hj] using this
theorem iR.g {r: Rw} {n: Nat} (h:iR r n):∀ j,j<n->0<=el r.got j/\el r.got j<=12:=(jG h.n5 h.gl).1 ⟨h.got,h.g12⟩
theorem iR.t {r: Rw} {n: Nat} (h:iR r n) (hr:r.dV=aB):∀ j,j<n->0<=el r.dU j/\el r.dU j<=12:=(jG h.n5 (h.dV hr).2.2.2.1).1 ⟨(h.dV hr).2.2.1,(h.dV hr).2.2.2.2⟩
theorem iR.RY {r: Rw} {n: Nat} (h:iR r n) (hw:r.wed=aC):r.dV=aC:=by
 cases e:r.dV with
 | false=>rfl
 | true=>rw[(h.dV e).1] at hw;cases hw
theorem zX {i: Nat} {x: Int} (hi:i<l.length):el (l.set i x) j=if j=i then x else el l j:=by
 unfold el;rw[aV,aV,List.getElem?_set];by_cases e:i=j
 ·subst e;simp[hi]
 ·rw[if_neg e,if_neg (Ne.symm e)]
theorem MInv.to {n: Nat} {h h': Hs} {i: Nat} {m: Mb} (M:MInv n h i m) (hm:∀ j r,r∈h j->r∈h' j) {o': Rw} (head:∃ t,h' i=o'::t) (ok:iR o' n) (self:(i:Int)∉o'.dQ) (EL:∀ j,j<n->j≠i->el o'.got j<=((dO m.rows j).txt.length:Int)) (oD:el o'.got i=(o'.txt.length:Int)) {mY: List Int} {done': Bool}
  (uO:done'=aC->mY.length<=60/\∀ q,q<mY.length->el mY q=(q:Int)/\Kq n h' q)
  (fin:done'=aB->o'.dV=aB/\n<2*(fA n o'.dQ).length/\(∀ j∈fA n o'.dQ,∃ q∈h' j,q.dV=aB/\q.dW=o'.dW/\q.dU=o'.dU/\(i:Int)∉q.dQ)/\mY=iC o'.dU 12) :
  MInv n h' i { m with rows:=m.rows.set i o',dR:=mY,done:=done' }:=by
 have hi:i<m.rows.length:=by rw[M.len];exact M.lt
 have e1:dO (m.rows.set i o') i=o':=by rw[gB hi,if_pos rfl]
 refine⟨M.hid,M.hn,M.lt,by simp only[aV3];exact M.len, ?_,fun j hj=>?_,fun j hj=>?_, ?_,fun j hj=>?_, ?_,uO, ?_⟩
 ·simp only[e1];exact head
 ·simp only[gB hi]
  split
  ·rename_i e;rw[e];obtain⟨t,ht⟩:=head;rw[ht];exact dD
  ·exact hm j _ (M.view j hj)
 ·simp only[gB hi]
  split
  ·exact ok
  ·exact M.ok j hj
 ·simp only[e1];exact self
 ·simp only[e1,gB hi]
  split
  ·rename_i e;rw[e,oD];exact aZ3 _
  ·rename_i e;exact EL j hj e
 ·simp only[e1];exact oD
 ·simp only[e1];exact fin
def Goes (n:Nat) (h:Hs) (log:List Pp) (i:Nat) (m':Mb):Prop:=∃ h' wL,oU n h' wL/\MInv n h' i m'/\(∀ j,j≠i->h' j=h j)/\∀ j r,r∈h j->r∈h' j
theorem Goes.same {n: Nat} {h: Hs} {log: List Pp} {i: Nat} {m: Mb} (S:oU n h log) (M:MInv n h i m):Goes n h log i m:=⟨h,log,S,M,fun _ _=>rfl,fun _ _ h=>h⟩
theorem ZB {n: Nat} {h: Hs} {log: List Pp} {i: Nat} {m: Mb} (S:oU n h log) (M:MInv n h i m) (t:List UInt8):Goes n h log i (gX m t).1:=by
 unfold gX
 split
 ·exact Goes.same S M
 ·rename_i hn
  simp only[not_or] at hn;obtain⟨h1,h2,h3,h4,h5⟩:=hn;rw[M.own] at h1 h3 h5 ⊢;have hd:m.done=aC:=by simpa using h2
  have hw:(dO m.rows i).wed=aC:=by simpa using h1
  have ok:=M.ok i M.lt;have hr:=ok.RY hw;have hgi:=M.oD;have htl:=ok.tl;have hlen:i<(dO m.rows i).got.length:=by rw[ok.gl];exact M.lt
  obtain⟨tt,ht⟩:=M.head
  have hx:Nx (dO m.rows i) { dO m.rows i with txt:=(dO m.rows i).txt++[t],got:=(dO m.rows i).got.set i (el (dO m.rows i).got i+1),ver:=(dO m.rows i).ver+1 }:=by
   refine⟨by simp only;omega,List.prefix_append _ _,fun j=>?_,fun x hx=>hx,fun hw2=>(by rw[hw] at hw2;cases hw2),fun hr2=>(by rw[hr] at hr2;cases hr2)⟩
   simp only[zX hlen]
   split
   ·rename_i e;rw[e];omega
   ·exact aZ3 _
  simp only[Mb.put,M.i]
  refine⟨_,log,S.same ht hx (fun hr2=>by simp only at hr2;rw[hr] at hr2;cases hr2), ?_,fun j hj=>oJ hj,fun j r hr=>jS hr⟩
  have hov:=ok.ver;refine M.to (o':={ dO m.rows i with txt:=(dO m.rows i).txt++[t],got:=(dO m.rows i).got.set i (el (dO m.rows i).got i+1),ver:=(dO m.rows i).ver+1 }) (mY:=m.dR) (done':=m.done) (fun j r hr=>jS hr) ⟨_,nK _ _ _⟩ ?_ M.self (fun j hj hne=>?_) ?_ (fun _=>⟨(M.uO hd).1,fun q hq=>⟨((M.uO hd).2 q hq).1,((M.uO hd).2 q hq).2.more (fun j r hr=>jS hr)⟩⟩) (fun h=>(by rw[hd] at h;cases h))
  ·have hg:∀ j,j<n->0<=el ((dO m.rows i).got.set i (el (dO m.rows i).got i+1)) j/\el ((dO m.rows i).got.set i (el (dO m.rows i).got i+1)) j<=12:=fun j hj=>by
    rw[zX hlen]
    split
    ·omega
    ·exact ok.g j hj
   have hgl:((dO m.rows i).got.set i (el (dO m.rows i).got i+1)).length=n:=by rw[aV3];exact ok.gl
   have:=(jG ok.n5 hgl).2 hg;refine⟨ok.n5,by simp only;omega,by simp only[dB,bP];omega,fun x hx=>?_,this.1,hgl,this.2,ok.dQ,ok.pq,fun h=>(by simp only at h;rw[hr] at h;cases h),fun h=>ok.not hr⟩
   rcases aW0.1 hx with hx|hx
   ·exact ok.ts x hx
   ·have:=dH.1 hx;rw[this];omega
  ·simp only[zX hlen,if_neg hne]
   exact M.EL j hj
  ·simp only[zX hlen,if_pos,dB,bP]
   omega
theorem UO {n: Nat} {h: Hs} {log: List Pp} {i: Nat} {m: Mb} (S:oU n h log) (M:MInv n h i m) (who:Int):Goes n h log i (iJ m who).1:=by
 unfold iJ
 split
 ·exact Goes.same S M
 ·rename_i hn
  simp only[not_or] at hn;obtain⟨h1,h2,h3,h4,h5⟩:=hn;rw[M.own] at h3 h5 ⊢;rw[M.hid] at h2;rw[M.hn] at h1;have h1:=iQ.1 (by simpa using h1)
  have hd:m.done=aC:=by simpa using h4
  have ok:=M.ok i M.lt;have hov:=ok.ver;obtain⟨tt,ht⟩:=M.head
  have hx:Nx (dO m.rows i) { dO m.rows i with dQ:=gY (dO m.rows i).dQ who,wed:=aB,ver:=(dO m.rows i).ver+1 } :=
   ⟨by simp only;omega,aV1 _,fun j=>aZ3 _,fun x hx=>nV.2 (.inr hx),fun _=>⟨rfl,rfl,rfl⟩,fun hr=>⟨hr,aZ3 _,fun _=>rfl⟩⟩
  simp only[Mb.put,M.i]
  refine⟨_,log,S.same ht hx (fun hr=>.inl ⟨hr,rfl⟩), ?_,fun j hj=>oJ hj,fun j r hr=>jS hr⟩
  refine M.to (o':={ dO m.rows i with dQ:=gY (dO m.rows i).dQ who,wed:=aB,ver:=(dO m.rows i).ver+1 }) (mY:=m.dR) (done':=m.done) (fun j r hr=>jS hr) ⟨_,nK _ _ _⟩ ?_ (fun hm=>?_) (fun j hj hne=>M.EL j hj) M.oD (fun _=>⟨(M.uO hd).1,fun q hq=>⟨((M.uO hd).2 q hq).1,((M.uO hd).2 q hq).2.more (fun j r hr=>jS hr)⟩⟩) (fun h=>(by rw[hd] at h;cases h))
  ·refine⟨ok.n5,by simp only;omega,ok.tl,ok.ts,ok.got,ok.gl,ok.g12,fun x hx=>?_,lK.2 (wH (lK.1 ok.pq)),fun hr=>⟨rfl,(ok.dV hr).2⟩,ok.not⟩
   rcases nV.1 hx with e|hx
   ·rw[e];omega
   ·exact ok.dQ x hx
  ·rcases nV.1 hm with e|hx
   ·exact h2 e.symm
   ·exact M.self hx
theorem UQ {n: Nat} {h: Hs} {log: List Pp} {i: Nat} {m: Mb} (S:oU n h log) (M:MInv n h i m) {fr: Nat} {r: Rw} (hr:r∈h fr) (hf:fr<n):MInv n h i (fG m (fr:Int) r).1:=by
 unfold fG
 split
 ·exact M
 ·rename_i hn
  simp only[not_or] at hn;obtain⟨h1,h2,h3,h4,h5,h6⟩:=hn;rw[M.hid] at h2;rw[M.hn] at h5;have hne:i≠fr:=fun e=>h2 (by rw[e])
  have IX:iR r n:=qh.1 (by simpa using h5)
  simp only[dM] at h6 ⊢;have hfl:fr<m.rows.length:=by rw[M.len];exact hf
  have e1:dO (m.rows.set fr r) i=dO m.rows i:=by rw[gB hfl,if_neg hne]
  refine⟨M.hid,M.hn,M.lt,by simp only[aV3];exact M.len,by simp only[e1];exact M.head,fun j hj=>?_,fun j hj=>?_,by simp only[e1];exact M.self,fun j hj=>?_,by simp only[e1];exact M.oD,M.uO,by simp only[e1];exact M.fin⟩
  ·simp only[gB hfl]
   split
   ·rename_i e;rw[e];exact hr
   ·exact M.view j hj
  ·simp only[gB hfl]
   split
   ·exact IX
   ·exact M.ok j hj
  ·simp only[e1]
   simp only[gB hfl]
   split
   ·rename_i e
    have h7:=M.EL fr hf;rcases (S.chain fr).comp (M.view fr hf) hr with c|c
    ·have:=c.txt.length_le
     rw[e];omega
    ·exact absurd c.ver (by omega)
   ·exact M.EL j hj
theorem ao2 {x: Int} {q: Nat}:el (s++[x]) q=if q=s.length then x else el s q:=by
 unfold el;rw[aV,aV];by_cases h:q<s.length
 ·rw[List.getElem?_append_left h,if_neg (by omega)]
 ·by_cases e:q=s.length
  ·subst e;simp
  ·rw[if_neg e,List.getElem?_append_right (by omega),bK (by simp;omega),bK (by omega)]
theorem yI (R:List Rw) (n:Nat):∀ (f:Nat) (s:List Int),(∀ q,q<s.length->el s q=(q:Int))->(kR R n f s).length<=s.length+f/\s.length<=(kR R n f s).length/\(∀ q,q<(kR R n f s).length->el (kR R n f s) q=(q:Int))/\∀ q,s.length<=q->q<(kR R n f s).length->nS R n q=aB
 | 0,s,h=>⟨aZ0 _,aZ0 _,h,fun q h1 h2=>absurd h2 (by simp only[kR];omega)⟩
 | f+1,s,h=>by
  unfold kR
  split
  ·rename_i hs
   obtain ⟨h1,h2,h3,h4⟩ := yI R n f (s ++ [(s.length : Int)]) (fun q hq => by
    rw[ao2]
    split
    ·rename_i e;rw[e]
    ·rename_i e;simp at hq;exact h q (by omega))
   rw[dB,bP] at h1 h2 h4;refine⟨by omega,by omega,h3,fun q q1 q2=>?_⟩
   by_cases e:q=s.length
   ·rw[e];exact hs
   ·exact h4 q (by omega) q2
  ·exact⟨by omega,aZ0 _,h,fun q h1 h2=>absurd h2 (by omega)⟩
theorem Bl (R:List Rw):∀ (L:List Nat) (a:Int×List Int),(best R L a=a\/∃ k∈L,(dO R k).dV=aB/\best R L a=((dO R k).dW,(dO R k).dU))/\a.1<=(best R L a).1/\∀ k∈L,(dO R k).dV=aB->(dO R k).dW<=(best R L a).1
 | [],a=>⟨.inl rfl,aZ3 _,fun k hk=>by cases hk⟩
 | k::L,a=>by
  have e:best R (k::L) a=best R L (if (dO R k).dV=aB/\a.1<(dO R k).dW then ((dO R k).dW,(dO R k).dU) else a):=rfl
  obtain⟨h1,h2,h3⟩:=Bl R L (if (dO R k).dV=aB/\a.1<(dO R k).dW then ((dO R k).dW,(dO R k).dU) else a)
  rw[e];by_cases c:(dO R k).dV=aB/\a.1<(dO R k).dW
  ·rw[if_pos c] at h1 h2 h3 ⊢
   simp only at h2
   refine⟨?_,by omega,fun k' hk' hr=>?_⟩
   ·rcases h1 with h1|⟨k',q1,q2,q3⟩
    ·exact .inr ⟨k,dD,c.1,h1⟩
    ·exact .inr ⟨k',bV _ q1,q2,q3⟩
   ·rcases aX5.1 hk' with rfl|hk'
    ·exact h2
    ·exact h3 k' hk' hr
  ·rw[if_neg c] at h1 h2 h3 ⊢
   refine⟨?_,h2,fun k' hk' hr=>?_⟩
   ·rcases h1 with h1|⟨k',q1,q2,q3⟩
    ·exact .inl h1
    ·exact .inr ⟨k',bV _ q1,q2,q3⟩
   ·rcases aX5.1 hk' with rfl|hk'
    ·have:¬ a.1<(dO R k').dW:=fun h=>c ⟨hr,h⟩
     omega
    ·exact h3 k' hk' hr
theorem Ll {R:List Rw} {n:Nat} (hn:1<=n/\n<=5):∀ (L:List Nat) (acc:List Int),acc.length=n->(∀ s,s<n->0<=el acc s/\el acc s<=12)->(∀ k∈L,(dO R k).got.length=n/\∀ s,s<n->0<=el (dO R k).got s/\el (dO R k).got s<=12) ->
  (L.foldl (fun acc j=>je min acc (dO R j).got) acc).length=n/\∀ s,s<n->(0<=el (L.foldl (fun acc j=>je min acc (dO R j).got) acc) s/\el (L.foldl (fun acc j=>je min acc (dO R j).got) acc) s<=el acc s)/\(∀ k∈L,el (L.foldl (fun acc j=>je min acc (dO R j).got) acc) s<=el (dO R k).got s)/\(el (L.foldl (fun acc j=>je min acc (dO R j).got) acc) s=el acc s\/∃ k∈L,el (L.foldl (fun acc j=>je min acc (dO R j).got) acc) s=el (dO R k).got s)
 | [],acc,hl,ha,hL=>⟨hl,fun s hs=>⟨⟨(ha s hs).1,aZ3 _⟩,fun k hk=>(by cases hk),.inl rfl⟩⟩
 | k::L,acc,hl,ha,hL=>by
  obtain⟨k1,k2⟩:=hL k dD;have o1:=((jG hn hl).2 ha).1;have o2:=((jG hn k1).2 k2).1;obtain⟨e1,e2,e3⟩:=RX al6 o1 o2 (by rw[hl,k1])
  have hel:∀ s,s<n->el (je min acc (dO R k).got) s=min (el acc s) (el (dO R k).got s):=fun s hs=>by rw[e1,UA _ _ _ (by omega)]
  obtain⟨h1,h2⟩:=Ll hn L (je min acc (dO R k).got) (by rw[e2,hl]) (fun s hs=>by rw[hel s hs];have:=ha s hs;have:=k2 s hs;omega) (fun j hj=>hL j (bV _ hj))
  refine⟨h1,fun s hs=>?_⟩
  obtain⟨⟨a1,a2⟩,a3,a4⟩:=h2 s hs;have hs2:=hel s hs;simp only[aV6]
  refine⟨⟨a1,by omega⟩,fun j hj=>?_, ?_⟩
  ·rcases aX5.1 hj with rfl|hj
   ·omega
   ·exact a3 j hj
  ·rcases a4 with a4|⟨j,j1,j2⟩
   ·rcases Int.le_total (el acc s) (el (dO R k).got s) with c|c
    ·exact .inl (by omega)
    ·exact .inr ⟨k,dD,by omega⟩
   ·exact .inr ⟨j,bV _ j1,j2⟩
theorem zD {R: List Rw} {n: Nat} (hn:1<=n/\n<=5) (hne:L≠[]) (hL:∀ k∈L,(dO R k).got.length=n/\∀ s,s<n->0<=el (dO R k).got s/\el (dO R k).got s<=12) :
  (meets R L).length=n/\∀ s,s<n->0<=el (meets R L) s/\(∀ k∈L,el (meets R L) s<=el (dO R k).got s)/\∃ k∈L,el (meets R L) s=el (dO R k).got s:=by
 cases L with
 | nil=>exact absurd rfl hne
 | cons k t =>
  obtain⟨k1,k2⟩:=hL k dD;obtain⟨h1,h2⟩:=Ll hn t (dO R k).got k1 k2 (fun j hj=>hL j (bV _ hj))
  refine⟨h1,fun s hs=>?_⟩
  obtain⟨⟨a1,a2⟩,a3,a4⟩:=h2 s hs;refine⟨a1,fun j hj=>?_, ?_⟩
  ·rcases aX5.1 hj with rfl|hj
   ·exact a2
   ·exact a3 j hj
  ·rcases a4 with a4|⟨j,j1,j2⟩
   ·exact⟨k,dD,a4⟩
   ·exact⟨j,bV _ j1,j2⟩
structure Ph (n:Nat) (h:Hs) (log:List Pp) (i:Nat) (R:List Rw) (o:Rw):Prop where
 S:oU n h log
 head:∃ t,h i=o::t
 view:∀ j,j<n->j≠i->dO R j∈h j
 okv:∀ j,j<n->j≠i->iR (dO R j) n
 ok:iR o n
 self:(i:Int)∉o.dQ
 lt:i<n
 len:R.length=n
theorem Ph.own {n: Nat} {h: Hs} {log: List Pp} {i: Nat} {R: List Rw} {o: Rw} (P:Ph n h log i R o):o∈h i:=by obtain⟨t,ht⟩:=P.head;rw[ht];exact dD
theorem Ph.row {n: Nat} {h: Hs} {log: List Pp} {i: Nat} {R: List Rw} {o: Rw} (P:Ph n h log i R o) (hj:j<n):dO (R.set i o) j∈h j/\iR (dO (R.set i o) j) n:=by
 rw[gB (by rw[P.len];exact P.lt)]
 split
 ·rename_i e;subst e;exact⟨P.own,P.ok⟩
 ·rename_i e;exact⟨P.view j hj e,P.okv j hj e⟩
theorem Ph.next {n: Nat} {h: Hs} {log: List Pp} {i: Nat} {R: List Rw} {o o': Rw} (P:Ph n h log i R o) (hx:Nx o o') (ok:iR o' n) (self:(i:Int)∉o'.dQ) (ha:o'.dV=aB->(o.dV=aB/\o.dW=o'.dW)\/(o'.dW∉o'.dQ/\∃ P∈log,(P.b:Int)=o'.dW/\P.T=o'.dU)):Ph n (sK h i o') log i R o':=by
 obtain⟨t,ht⟩:=P.head;exact⟨P.S.same ht hx ha,⟨_,nK _ _ _⟩,fun j hj hne=>jS (P.view j hj hne),P.okv,ok,self,P.lt,P.len⟩
theorem Ph.leads {n: Nat} {h: Hs} {log: List Pp} {i: Nat} {R: List Rw} {o: Rw} (P:Ph n h log i R o) (hw:o.wed=aB) (hb:n<2*(fA n o.dQ).length) (hf:(fA n o.dQ).head?=au i):∃ wL,Ph n (sK h i (lead (R.set i o) i o (fA n o.dQ))) wL i R (lead (R.set i o) i o (fA n o.dQ))/\Nx o (lead (R.set i o) i o (fA n o.dQ)):=by
 obtain⟨hin,hlow⟩:=Q7 hf;unfold lead
 split
 ·exact⟨log,P.next (Nx.refl _) P.ok P.self (fun hr=>.inl ⟨hr,rfl⟩),Nx.refl _⟩
 ·rename_i hnb
  split
  ·rename_i hok
   have al7:=IW hb
   have hQ:∀ k∈fA n o.dQ,(dO (R.set i o) k).wed=aB/\∀ x∈o.dQ,x∈(dO (R.set i o) k).dQ:=fun k hk=>by
    unfold kX at hok;rw[aU3] at hok;have:=hok k hk;simp only[aU2,aU3,decide_eq_true_eq] at this;exact this
   have hrow:∀ k∈fA n o.dQ,dO (R.set i o) k∈h k/\iR (dO (R.set i o) k) n:=fun k hk=>P.row (jd.1 hk).1
   have hne:fA n o.dQ≠[]:=fun e=>by rw[e] at hin;cases hin
   obtain⟨b1,b2,b3⟩:=Bl (R.set i o) (fA n o.dQ) (-1,[]);have jy:=P.ok.n5
   -- where the end comes from
   have key:((endOf (R.set i o) (fA n o.dQ)).length=n/\∀ s,s<n->0<=el (endOf (R.set i o) (fA n o.dQ)) s/\el (endOf (R.set i o) (fA n o.dQ)) s<=12) /\
     ((∀ j ∈ fA n o.dQ,(dO (R.set i o) j).dV = aC) /\ (∀ s,s < n -> (∀ j ∈ fA n o.dQ,el (endOf (R.set i o) (fA n o.dQ)) s <= el (dO (R.set i o) j).got s) /\ ∃ j ∈ fA n o.dQ,el (endOf (R.set i o) (fA n o.dQ)) s = el (dO (R.set i o) j).got s) \/
      ∃ j∈fA n o.dQ,(dO (R.set i o) j).dV=aB/\(∀ k∈fA n o.dQ,(dO (R.set i o) k).dV=aB->(dO (R.set i o) k).dW<=(dO (R.set i o) j).dW)/\(dO (R.set i o) j).dU=endOf (R.set i o) (fA n o.dQ)):=by
    unfold endOf;by_cases c:(best (R.set i o) (fA n o.dQ) (-1,[])).1<0
    ·rw[if_pos c]
     obtain⟨m1,m2⟩:=zD jy hne (fun k hk=>⟨(hrow k hk).2.gl,(hrow k hk).2.g⟩)
     refine⟨⟨m1,fun s hs=>?_⟩,.inl ⟨fun j hj=>?_,fun s hs=>(m2 s hs).2⟩⟩
     ·obtain⟨a1,a2,j,a3,a4⟩:=m2 s hs
      have:=(hrow j a3).2.g s hs;omega
     ·cases e:(dO (R.set i o) j).dV with
      | false=>rfl
      | true =>
       have h1:=b3 j hj e;have h2:=((hrow j hj).2.dV e).2.1;omega
    ·rw[if_neg c]
     rcases b1 with e|⟨j,j1,j2,j3⟩
     ·rw[e] at c;simp at c
     ·rw[j3]
      refine⟨⟨((hrow j j1).2.dV j2).2.2.2.1,(hrow j j1).2.t j2⟩,.inr ⟨j,j1,j2,fun k hk hr=>?_,rfl⟩⟩
      have:=b3 k hk hr;rw[j3] at this;exact this
   generalize endOf (R.set i o) (fA n o.dQ)=T at *;obtain⟨⟨kl,ks⟩,aM0⟩:=key
   have hx:Nx o { o with dV:=aB,dW:=(i:Int),dU:=T }:=by
    refine⟨aZ3 _,aV1 _,fun j=>aZ3 _,fun x hx=>hx,fun hw=>⟨hw,rfl,rfl⟩,fun hr=>⟨rfl, ?_,fun e=>?_⟩⟩
    ·have:¬ (i:Int)<=o.dW:=fun h=>hnb ⟨hr,h⟩
     simp only
     omega
    ·have:¬ (i:Int)<=o.dW:=fun h=>hnb ⟨hr,h⟩
     simp only at e
     omega
   have Wj:=(jG jy kl).2 ks;have hlt:=P.lt;have ok':iR { o with dV:=aB,dW:=(i:Int),dU:=T } n:=⟨jy,P.ok.ver,P.ok.tl,P.ok.ts,P.ok.got,P.ok.gl,P.ok.g12,P.ok.dQ,P.ok.pq,fun _=>⟨hw,by simp only;omega,Wj.1,kl,Wj.2⟩,fun h=>by cases h⟩
   -- the proposal
   obtain⟨Qo,po,g1,g2,g3,g4,g5,g6⟩:∃ (Qo:List Nat) (po:Nat->Rw),Half n Qo/\(∀ j∈Qo,po j∈h j)/\(∀ j∈Qo,(po j).wed=aB/\(po j).dV=aC)/\(∀ s,s<n->(∀ j∈Qo,el T s<=el (po j).got s)/\∃ j∈Qo,el T s=el (po j).got s)/\(∀ i,i<n->i∉Qo->∀ j∈Qo,(i:Int)∈(po j).dQ) /\
     ((∀ j∈fA n o.dQ,(dO (R.set i o) j).dV=aC)\/∃ j∈fA n o.dQ,(dO (R.set i o) j).dV=aB/\(∀ k∈fA n o.dQ,(dO (R.set i o) k).dV=aB->(dO (R.set i o) k).dW<=(dO (R.set i o) j).dW)/\∃ P'∈log,(P'.b:Int)=(dO (R.set i o) j).dW/\P'.T=T):=by
    rcases aM0 with ⟨n1,n2⟩|⟨j,j1,j2,j3,j4⟩
    ·refine⟨fA n o.dQ,fun j=>dO (R.set i o) j,al7,fun j hj=>(hrow j hj).1,fun j hj=>⟨(hQ j hj).1,n1 j hj⟩,n2,fun x hx hxn j hj=>(hQ j hj).2 _ ?_,.inl n1⟩
     refine aZ fun hc=>hxn (jd.2 ⟨hx,hc⟩)
    ·obtain⟨P',p1,p2,p3⟩:=P.S.prop j _ (hrow j j1).1 j2
     obtain⟨_,pk,_⟩:=P.S.log.at p1;have e:P'.T=T:=by rw[p3,j4]
     exact⟨P'.Qo,P'.po,pk.oh,pk.om,pk.ow,by rw[<- e];exact pk.oT,pk.os,.inr ⟨j,j1,j2,j3,P',p1,p2,e⟩⟩
   obtain⟨t,ht⟩:=P.head;have hm:∀ j r,r∈h j->r∈sK h i { o with dV:=aB,dW:=(i:Int),dU:=T } j:=fun j r hr=>jS hr
   have hP:Ko n (sK h i { o with dV:=aB,dW:=(i:Int),dU:=T }) ⟨i,T,fA n o.dQ,fun j=>dO (R.set i o) j,Qo,po⟩ log :=
    ⟨hlt,al7,fun j hj=>hm j _ (hrow j hj).1,fun j hj=>(hQ j hj).1,fun j hj x hx=>(hQ j hj).2 _ (hlow x hx),⟨_,by rw[nK];exact dD,rfl,rfl,rfl⟩,g6,g1,fun j hj=>hm j _ (g2 j hj),g3,g4,g5⟩
   refine⟨⟨i,T,fA n o.dQ,fun j=>dO (R.set i o) j,Qo,po⟩::log,⟨P.S.add ht hx (fun _=>.inr ⟨P.self,_,dD,rfl,rfl⟩) ⟨hP,P.S.log.more hm⟩ (fun P0 h0=>bV _ h0),⟨_,nK _ _ _⟩,fun j hj hne=>hm j _ (P.view j hj hne),P.okv,ok',P.self,P.lt,P.len⟩,hx⟩
  ·exact⟨log,P.next (Nx.refl _) P.ok P.self (fun hr=>.inl ⟨hr,rfl⟩),Nx.refl _⟩
theorem Ph.Wp {n: Nat} {h: Hs} {log: List Pp} {i: Nat} {R: List Rw} {o: Rw} (P:Ph n h log i R o) (hw:o.wed=aB) (hf:f∈fA n o.dQ) (hne:f≠i):Ph n (sK h i (adopt (R.set i o) i o f)) log i R (adopt (R.set i o) i o f)/\Nx o (adopt (R.set i o) i o f):=by
 unfold adopt
 split
 ·rename_i hc
  obtain⟨c1,c2,c3,c4⟩:=hc;obtain⟨f1,f2⟩:=jd.1 hf;obtain⟨v1,v2⟩:=P.row f1
  have hx:Nx o { o with dV:=aB,dW:=(f:Int),dU:=(dO (R.set i o) f).dU }:=by
   refine⟨aZ3 _,aV1 _,fun j=>aZ3 _,fun x hx=>hx,fun hw=>⟨hw,rfl,rfl⟩,fun hr=>⟨rfl, ?_,fun e=>?_⟩⟩
   ·have:¬ (f:Int)<=o.dW:=fun h=>c4 ⟨hr,h⟩
    simp only
    omega
   ·have:¬ (f:Int)<=o.dW:=fun h=>c4 ⟨hr,h⟩
    simp only at e
    omega
  refine⟨P.next hx ⟨P.ok.n5,P.ok.ver,P.ok.tl,P.ok.ts,P.ok.got,P.ok.gl,P.ok.g12,P.ok.dQ,P.ok.pq,fun _=>⟨hw,by simp only;omega,(v2.dV c1).2.2⟩,fun h=>by cases h⟩ P.self (fun _=>.inr ⟨f2, ?_⟩),hx⟩
  obtain⟨P',p1,p2,p3⟩:=P.S.prop f _ v1 c1;exact⟨P',p1,by rw[p2,c2],p3⟩
 ·exact⟨P.next (Nx.refl _) P.ok P.self (fun hr=>.inl ⟨hr,rfl⟩),Nx.refl _⟩
theorem yJ (R:List Rw) (id:Nat) (o:Rw) (L:List Nat):(lead R id o L).dQ=o.dQ/\(lead R id o L).wed=o.wed/\(lead R id o L).got=o.got/\(lead R id o L).txt=o.txt/\(lead R id o L).ver=o.ver:=by
 unfold lead
 split
 ·exact⟨rfl,rfl,rfl,rfl,rfl⟩
 ·split<;>exact⟨rfl,rfl,rfl,rfl,rfl⟩
theorem wM (R:List Rw) (id:Nat) (o:Rw) (f:Nat):(adopt R id o f).dQ=o.dQ/\(adopt R id o f).wed=o.wed/\(adopt R id o f).got=o.got/\(adopt R id o f).txt=o.txt/\(adopt R id o f).ver=o.ver:=by
 unfold adopt
 split<;>exact⟨rfl,rfl,rfl,rfl,rfl⟩
theorem tH {x:Int}:∀ {W s:List Int},x∈W.foldl (fun s q=>if q∈s then s else gY s q) s↔x∈s\/x∈W
 | [],s=>by simp
 | q::W,s=>by
  rw[aV6,tH];by_cases c:q∈s
  ·rw[if_pos c,aX5]
   constructor
   ·rintro (h|h)
    ·exact .inl h
    ·exact .inr (.inr h)
   ·rintro (h|h|h)
    ·exact .inl h
    ·rw[h];exact .inl c
    ·exact .inr h
  ·rw[if_neg c,nV,aX5]
   constructor
   ·rintro ((h|h)|h)
    ·exact .inr (.inl h)
    ·exact .inl h
    ·exact .inr (.inr h)
   ·rintro (h|h|h)
    ·exact .inl (.inr h)
    ·exact .inl (.inl h)
    ·exact .inr h
theorem EM:∀ {W s:List Int},s.Pairwise (·<·)->(W.foldl (fun s q=>if q∈s then s else gY s q) s).Pairwise (·<·)
 | [],s,h=>h
 | q::W,s,h=>by
  rw[aV6];refine EM ?_
  split
  ·exact h
  ·exact wH h
theorem zF (h:∀ q,q<s.length->el s q=(q:Int)):s.Pairwise (·<·):=Ce.1 (fun i hi=>by rw[h i (by omega),h (i+1) (by omega)];omega)
theorem Dq (h:∀ q,q<s.length->el s q=(q:Int)) {x: Int}:x∈s↔∃ q:Nat,q<s.length/\x=(q:Int):=by
 constructor
 ·intro hx
  obtain⟨j,hj,rfl⟩:=bU.1 hx;exact⟨j,hj,by rw[<- h j hj];simp[el,hj]⟩
 ·rintro⟨q,hq,rfl⟩
  rw[<- h q hq];exact kM hq
theorem Lp {T: List Int} {n: Nat} (hl:T.length=n) (hn:0<n) (ht:∀ s,s<n->el T s<=12) {q: Nat}:(q:Int)∈iC T 12↔((q/n:Nat):Int)<el T (q%n):=by
 rw[xI];have hm:=aZ7 q hn
 constructor
 ·rintro⟨k,i,h1,h2,h3,h4⟩
  rw[hl] at h2 h4
  have e:q=n*k+i:=by
   have:(q:Int)=((n*k+i:Nat):Int):=by push_cast;exact h4
   exact_mod_cast this
  rw[e,Nat.mul_add_div hn,Nat.mul_add_mod,Nat.mod_eq_of_lt h2,Nat.div_eq_of_lt h2,Nat.add_zero];exact h3
 ·intro h
  have h12:=ht (q%n) hm;refine⟨q/n,q%n,by omega,by rw[hl];exact hm,h, ?_⟩
  rw[hl];have:=Nat.div_add_mod q n;have h2:((n*(q/n)+q%n:Nat):Int)=(q:Int):=by rw[this]
  push_cast at h2
  omega
theorem ZC {T: List Int} {n: Nat} (hl:T.length=n) (hn:0<n) (ht:∀ j,j<n->el T j<=12) (hs:∀ q,q<s.length->el s q=(q:Int)) (hc:∀ q,q<s.length->((q/n:Nat):Int)<el T (q%n)):jO s T=iC T 12:=by
 unfold jO;refine DZ (EM (zF hs)) (zC T 12) (fun x=>?_)
 rw[tH]
 constructor
 ·rintro (h|h)
  ·obtain⟨q,h1,rfl⟩:=(Dq hs).1 h
   exact (Lp hl hn ht).2 (hc q h1)
  ·exact h
 ·exact .inr
theorem F8 (h:l.length<=j):el l j=0:=by
 unfold el;rw[aV,bK h]
 rfl
theorem zY {R: List Rw} {o: Rw} {n: Nat} (hj:j<n):el (kH R o n) j=max (el o.got j) ((dO R j).txt.length:Int):=by
 unfold kH el;simp[hj]
theorem Bo (R:List Rw) (id:Nat):∀ (L:List Nat) (o:Rw),o.dQ.Pairwise (·<·)->(learn R id o L).dQ.Pairwise (·<·)
 | [],o,h=>h
 | k::L,o,h=>by
  refine Bo R id L (kZ id o k (dO R k)) ?_;unfold kZ
  split
  ·exact h
  ·simp only
   generalize (dO R k).dQ=r
   induction r generalizing o with
   | nil=>exact h
   | cons x r ih =>
    unfold kP;rw[aV6]
    split
    ·exact ih o h
    ·exact ih { o with dQ:=gY o.dQ x } (wH h)
theorem EN {n: Nat} {h: Hs} {log: List Pp} {i: Nat} {m: Mb} (S:oU n h log) (M:MInv n h i m):Goes n h log i (fB m):=by
 unfold fB
 split
 ·exact Goes.same S M
 rename_i hnd
 simp only[not_or] at hnd;obtain⟨hd,hv⟩:=hnd;have hd:m.done=aC:=by simpa using hd
 have hi:=M.i;have hk:=M.k;have hown:=M.own;have hlt:=M.lt;have hlen:i<m.rows.length:=by rw[M.len];exact hlt
 have ok:=M.ok i hlt;have hn0:0<n:=by omega
 rw[hown] at hv;have hov:=ok.ver;obtain⟨Oy,F9⟩:=M.uO hd;have P0:Ph n h log i m.rows (dO m.rows i):=⟨S,M.head,fun j hj _=>M.view j hj,fun j hj _=>M.ok j hj,ok,M.self,hlt,M.len⟩
 -- it learns
 have e1:fF m=learn m.rows i (dO m.rows i) (fA n (dO m.rows i).dQ):=by rw[fF,hi,hk,hown]
 have L1:zW (dO m.rows i) (fF m):=by rw[e1];exact qY _ _ _ _
 have Bq:∀ x∈(fF m).dQ,(0<=x/\x<(n:Int))/\x≠(i:Int):=fun x hx=>by
  rw[e1] at hx;rcases Bj _ _ _ _ hx with hx|⟨k,k1,k2,k3,k4⟩
  ·exact⟨ok.dQ x hx,fun e=>M.self (e ▸ hx)⟩
  ·exact⟨(M.ok k (jd.1 k1).1).dQ x k3,k4⟩
 have ok1 : iR (fF m) n := ⟨ok.n5,by rw [L1.ver];exact ok.ver,by rw [L1.txt];exact ok.tl,by rw [L1.txt];exact ok.ts,by rw [L1.got];exact ok.got,by rw [L1.got];exact ok.gl,by rw [L1.got];exact ok.g12,fun x hx => (Bq x hx).1,lK.2 (by rw [e1];exact Bo _ _ _ _ (lK.1 ok.pq)),fun hr => by
  rw[L1.dV] at hr;obtain⟨a1,a2⟩:=ok.dV hr;rw[L1.dW,L1.dU];exact⟨L1.wed a1,a2⟩,fun hr=>by rw[L1.dV] at hr;rw[L1.dW,L1.dU];exact ok.not hr⟩
 have uD:(i:Int)∉(fF m).dQ:=fun hx=>(Bq _ hx).2 rfl
 have P1:=P0.next L1.nx ok1 uD (fun hr=>.inl ⟨by rw[<- L1.dV];exact hr,L1.dW.symm⟩)
 cases hw1:(fF m).wed with
 | false =>
  have hr1:=ok1.RY hw1;have e2:gV m={ fF m with got:=kH m.rows (fF m) n }:=by rw[gV,if_neg (by rw[hw1];simp),hk]
  have hg2:∀ j,j<n->el (gV m).got j=max (el (dO m.rows i).got j) ((dO m.rows j).txt.length:Int):=fun j hj=>by rw[e2];simp only;rw[zY hj,L1.got]
  have BM:(gV m).got.length=n:=by rw[e2];simp[kH]
  have hx2:Nx (fF m) (gV m):=by
   refine⟨by rw[e2];exact aZ3 _,by rw[e2];exact aV1 _,fun j=>?_,fun x hx=>by rw[e2];exact hx,fun h=>(by rw[hw1] at h;cases h),fun h=>(by rw[hr1] at h;cases h)⟩
   by_cases hj:j<n
   ·rw[hg2 j hj,L1.got];omega
   ·rw[F8 (by rw[ok1.gl];omega),F8 (by rw[BM];omega)];exact aZ3 _
  have hr2:(gV m).dV=aC:=by rw[e2];exact hr1
  have hw2:(gV m).wed=aC:=by rw[e2];exact hw1
  have ht2:(gV m).txt=(dO m.rows i).txt:=by rw[e2];exact L1.txt
  have hsm:=(jG ok.n5 BM).2 (fun j hj=>by rw[hg2 j hj];have:=ok.g j hj;have:=(M.ok j hj).tl;omega)
  have ok2:iR (gV m) n:=⟨ok.n5,by rw[e2];exact ok1.ver,by rw[e2];exact ok1.tl,by rw[e2];exact ok1.ts,hsm.1,BM,hsm.2,by rw[e2];exact ok1.dQ,by rw[e2];exact ok1.pq,fun h=>(by rw[hr2] at h;cases h),fun _=>by rw[e2];exact ok1.not hr1⟩
  have Dt:(i:Int)∉(gV m).dQ:=by rw[e2];exact uD
  have P2:=P1.next hx2 ok2 Dt (fun h=>(by rw[hr2] at h;cases h))
  have e3:iG m=gV m:=by rw[iG,if_neg (by rw[hw2];simp)]
  have e4:fD m=gV m:=by rw[fD,e3,if_neg (by rw[hw2];simp)]
  have eE:jJ m=aC:=by rw[jJ,e4,hr2];rfl
  have eS:iU m=kR (m.rows.set i (gV m)) n (60-m.dR.length) m.dR:=by rw[iU,if_neg (by rw[hw1];simp),hi,hk]
  have hx5:Nx (gV m) (kG m)/\iR (kG m) n/\(kG m).dQ=(gV m).dQ/\(kG m).got=(gV m).got/\(kG m).txt=(gV m).txt/\(kG m).dV=aC:=by
   unfold kG;rw[e4]
   split
   ·exact⟨Nx.refl _,ok2,rfl,rfl,rfl,hr2⟩
   ·have hvv:(gV m).ver=(dO m.rows i).ver:=by rw[e2];exact L1.ver
    refine⟨⟨by simp only;omega,aV1 _,fun _=>aZ3 _,fun _ h=>h,fun h=>⟨h,rfl,rfl⟩,fun h=>⟨h,aZ3 _,fun _=>rfl⟩⟩,⟨ok2.n5,by simp only;omega,ok2.tl,ok2.ts,ok2.got,ok2.gl,ok2.g12,ok2.dQ,ok2.pq,ok2.dV,ok2.not⟩,rfl,rfl,rfl,hr2⟩
  obtain⟨x5,Wq,s5,g5,t5,r5⟩:=hx5;have P5:=P2.next x5 Wq (by rw[s5];exact Dt) (fun h=>(by rw[r5] at h;cases h))
  have hm:∀ j r,r∈h j->r∈sK (sK (sK h i (fF m)) i (gV m)) i (kG m) j:=fun j r hr=>jS (jS (jS hr))
  obtain⟨q1,q2,q3,q4⟩:=yI (m.rows.set i (gV m)) n (60-m.dR.length) m.dR (fun q hq=>(F9 q hq).1)
  refine⟨_,log,P5.S, ?_,fun j hj=>by rw[oJ hj,oJ hj,oJ hj],hm⟩
  rw[hi,eE,if_neg (by simp)]
  refine M.to (o':=kG m) (mY:=iU m) (done':=aC) hm ⟨_,nK _ _ _⟩ Wq (by rw[s5];exact Dt) (fun j hj hne=>?_) ?_ (fun _=>?_) (fun h=>by cases h)
  ·rw[g5,hg2 j hj]
   have:=M.EL j hj;omega
  ·rw[g5,t5,hg2 i hlt,ht2,M.oD]
   omega
  ·rw[eS]
   refine⟨by omega,fun q hq=>⟨q3 q hq, ?_⟩⟩
   by_cases c:q<m.dR.length
   ·exact (F9 q c).2.more hm
   ·have hs:=q4 q (by omega) hq
    unfold nS at hs;rw[aU3] at hs;intro j hj;have hjl:j<(m.rows.set i (gV m)).length:=by rw[aV3,M.len];exact hj
    have hmem:dO (m.rows.set i (gV m)) j∈m.rows.set i (gV m):=by
     unfold dO;rw[aV,bC hjl];exact aU7 hjl
    have:=hs _ hmem;exact⟨_,jS (P2.row hj).1,by simpa using this⟩
 | true =>
  have e2:gV m=fF m:=by rw[gV,if_pos hw1]
  have eL:jT m=fA n (fF m).dQ:=by rw[jT,e2,hk]
  have eS:iU m=m.dR:=by rw[iU,if_pos hw1]
  have hiL:i∈fA n (fF m).dQ:=jd.2 ⟨hlt,uD⟩
  -- it leads
  obtain⟨h3,UR,P3,m3,n3,k1,k2,k3,k4,k5⟩:∃ h3 UR,Ph n h3 UR i m.rows (iG m)/\(∀ j r,r∈h j->r∈h3 j)/\(∀ j,j≠i->h3 j=h j)/\(iG m).dQ=(fF m).dQ/\(iG m).wed=aB/\(iG m).got=(fF m).got/\(iG m).txt=(fF m).txt/\(iG m).ver=(fF m).ver:=by
   by_cases c:(gV m).wed=aB/\m.k<2*(jT m).length/\(jT m).head?=au m.i
   ·have e3:iG m=lead (m.rows.set i (fF m)) i (fF m) (fA n (fF m).dQ):=by rw[iG,if_pos c,e2,eL,hi]
    rw[eL,hk,hi] at c;obtain⟨wL,Q1,Q2⟩:=P1.leads hw1 c.2.1 c.2.2;obtain⟨a1,a2,a3,a4,a5⟩:=yJ (m.rows.set i (fF m)) i (fF m) (fA n (fF m).dQ);rw[e3];exact⟨_,wL,Q1,fun j r hr=>jS (jS hr),fun j hj=>by rw[oJ hj,oJ hj],a1,by rw[a2];exact hw1,a3,a4,a5⟩
   ·have e3:iG m=fF m:=by rw[iG,if_neg c,e2]
    rw[e3];exact⟨_,log,P1,fun j r hr=>jS hr,fun j hj=>oJ hj,rfl,hw1,rfl,rfl,rfl⟩
  -- it Wp
  obtain⟨h4,P4,m4,n4,l1,l2,l3,l4,l5⟩:∃ h4,Ph n h4 UR i m.rows (fD m)/\(∀ j r,r∈h j->r∈h4 j)/\(∀ j,j≠i->h4 j=h j)/\(fD m).dQ=(fF m).dQ/\(fD m).wed=aB/\(fD m).got=(fF m).got/\(fD m).txt=(fF m).txt/\(fD m).ver=(fF m).ver:=by
   by_cases c:(iG m).wed=aB/\(jT m).head?≠au m.i
   ·have e4:fD m=adopt (m.rows.set i (iG m)) i (iG m) ((fA n (fF m).dQ).headD 0):=by rw[fD,if_pos c,eL,hi]
    rw[eL,hi] at c
    cases eh:fA n (fF m).dQ with
    | nil=>rw[eh] at hiL;cases hiL
    | cons f t =>
     rw[eh] at c e4;have hf:f∈fA n (iG m).dQ:=by rw[k1,eh];exact dD
     have hfi:f≠i:=fun e=>c.2 (by rw[e];rfl)
     obtain⟨Q1,Q2⟩:=P3.Wp k2 hf hfi;obtain⟨a1,a2,a3,a4,a5⟩:=wM (m.rows.set i (iG m)) i (iG m) f;rw[show (f::t).headD 0=f from rfl] at e4
     rw[e4];exact⟨_,Q1,fun j r hr=>jS (m3 j r hr),fun j hj=>by rw[oJ hj];exact n3 j hj,a1.trans k1,a2.trans k2,a3.trans k3,a4.trans k4,a5.trans k5⟩
   ·have e4:fD m=iG m:=by rw[fD,if_neg c]
    rw[e4];exact⟨h3,P3,m3,n3,k1,k2,k3,k4,k5⟩
  have hx5:Nx (fD m) (kG m)/\iR (kG m) n/\(kG m).dQ=(fD m).dQ/\(kG m).got=(fD m).got/\(kG m).txt=(fD m).txt/\(kG m).dV=(fD m).dV/\(kG m).dW=(fD m).dW/\(kG m).dU=(fD m).dU:=by
   unfold kG
   split
   ·exact⟨Nx.refl _,P4.ok,rfl,rfl,rfl,rfl,rfl,rfl⟩
   ·have hvv:(fD m).ver=(dO m.rows i).ver:=by rw[l5];exact L1.ver
    refine⟨⟨by simp only;omega,aV1 _,fun _=>aZ3 _,fun _ h=>h,fun h=>⟨h,rfl,rfl⟩,fun h=>⟨h,aZ3 _,fun _=>rfl⟩⟩,⟨P4.ok.n5,by simp only;omega,P4.ok.tl,P4.ok.ts,P4.ok.got,P4.ok.gl,P4.ok.g12,P4.ok.dQ,P4.ok.pq,P4.ok.dV,P4.ok.not⟩,rfl,rfl,rfl,rfl,rfl,rfl⟩
  obtain⟨x5,Wq,s5,g5,t5,r5,b5,T5⟩:=hx5;have P5:=P4.next x5 Wq (by rw[s5];exact P4.self) (fun h=>.inl ⟨by rw[<- r5];exact h,b5.symm⟩)
  have hm:∀ j r,r∈h j->r∈sK h4 i (kG m) j:=fun j r hr=>jS (m4 j r hr)
  refine⟨_,UR,P5.S, ?_,fun j hj=>by rw[oJ hj];exact n4 j hj,hm⟩
  rw[hi,eS];refine M.to (o':=kG m) hm ⟨_,nK _ _ _⟩ Wq (by rw[s5];exact P4.self) (fun j hj hne=>?_) ?_ (fun hE=>?_) (fun hE=>?_)
  ·rw[g5,l3,L1.got];exact M.EL j hj
  ·rw[g5,t5,l3,l4,L1.got,L1.txt];exact M.oD
  ·rw[hE,if_neg (by simp)]
   exact⟨Oy,fun q hq=>⟨(F9 q hq).1,(F9 q hq).2.more hm⟩⟩
  ·rw[if_pos hE]
   unfold jJ at hE;simp only[aU2,decide_eq_true_eq] at hE;obtain⟨z1,z2,z3⟩:=hE;rw[eL,hk] at z2;rw[eL,hi] at z3;unfold ends at z3;rw[aU3] at z3;have aA1:=s5.trans l1;refine⟨by rw[r5];exact z1,by rw[aA1];exact z2,fun j hj=>?_, ?_⟩
   ·rw[aA1] at hj
    have:=z3 j hj;simp only[aU2,decide_eq_true_eq] at this;obtain⟨y1,y2,y3,y4⟩:=this;exact⟨_,jS (P4.row (jd.1 hj).1).1,y1,by rw[b5];exact y2,by rw[T5];exact y3,y4⟩
   ·rw[T5]
    obtain⟨a1,a2,a3,a4,a5⟩:=P4.ok.dV z1;refine ZC a4 hn0 (fun j hj=>(P4.ok.t z1 j hj).2) (fun q hq=>(F9 q hq).1) (fun q hq=>?_)
    obtain⟨P,p1,p2,p3⟩:=P4.S.prop i _ P4.own z1;rw[<- p3];exact P4.S.covers hn0 p1 ((F9 q hq).2.more m4)
structure iP (m:Mb) (i n:Nat):Prop where
 hid:m.id=(i:Int)
 hn:m.n=(n:Int)
 n5:1<=n/\n<=5
 lt:i<n
 len:m.rows.length=n
 sl:m.dR.length<=60
 pq:m.dR.Pairwise (·<·)
 ok:∀ j,j<n->iR (dO m.rows j) n
 sg:∀ q,q<m.dR.length->(0<=el m.dR q/\el m.dR q<=59)/\(m.done=aC->el m.dR q=(q:Int))
 oD:el (dO m.rows i).got i=((dO m.rows i).txt.length:Int)
 self:(i:Int)∉(dO m.rows i).dQ
 dn:m.done=aB->(dO m.rows i).dV=aB
theorem oM {R: List Rw} (h:j<R.length):dO R j∈R:=by
 unfold dO;rw[aV,bC h];exact aU7 h
theorem Ib {R: List Rw} {r: Rw} (h:r∈R):∃ j,j<R.length/\r=dO R j:=by
 obtain⟨j,hj,rfl⟩:=bU.1 h;exact⟨j,hj,by simp[dO,hj]⟩
theorem lH {m: Mb}:gZ m=aB↔∃ i n,iP m i n:=by
 constructor
 ·intro h
  simp only[gZ,EK,aU2,decide_eq_true_eq,aU3,aX1,Bool.or_eq_true] at h;obtain⟨h1,h2,h3,h4,h5,h6,h7,h8,h9,h10⟩:=h;have h1:=iQ.1 h1;have h2:=iQ.1 h2;have hid:m.id=((m.id.toNat:Nat):Int):=by omega
  have hn:m.n=((m.n.toNat:Nat):Int):=by omega
  refine⟨m.id.toNat,m.n.toNat,hid,hn,by omega,by omega,by omega,h4,lK.1 h5,fun j hj=>qh.1 (by rw[<- hn];exact h6 _ (oM (by omega))),fun q hq=>?_,h8,by rw[<- hid];exact h9,fun hd=>?_⟩
  ·obtain⟨q1,q2⟩:=h7 q hq
   have:=iQ.1 q1;refine⟨this,fun hd=>?_⟩
   rcases q2 with q2|q2
   ·rw[hd] at q2;cases q2
   ·exact q2
  ·rw[hd] at h10
   have h11:m.own.dV=aB:=by simpa using h10
   exact h11
 ·rintro⟨i,n,M⟩
  have hlt:=M.lt;have jy:=M.n5;have hi:m.i=i:=by rw[Mb.i,M.hid];rfl
  simp only[gZ,EK,aU2,decide_eq_true_eq,aU3,aX1,Bool.or_eq_true]
  refine⟨iQ.2 (by rw[M.hn];omega),iQ.2 (by rw[M.hid,M.hn];omega),by rw[M.len,M.hn],M.sl,lK.2 M.pq,fun r hr=>?_,fun q hq=>?_, ?_, ?_, ?_⟩
  ·obtain⟨j,hj,rfl⟩:=Ib hr
   rw[M.hn];exact qh.2 (M.ok j (by rw[<- M.len];exact hj))
  ·obtain⟨q1,q2⟩:=M.sg q hq
   refine⟨iQ.2 q1, ?_⟩
   cases hd:m.done with
   | true=>exact .inl rfl
   | false=>exact .inr (q2 hd)
  ·rw[Mb.own,hi];exact M.oD
  ·rw[Mb.own,hi,M.hid];exact M.self
  ·cases hd:m.done with
   | false=>exact .inl rfl
   | true=>exact .inr (by rw[Mb.own,hi];exact M.dn hd)
theorem Du {R: List Rw} {i n: Nat} {o: Rw} (ok:iR o n) (hw:o.wed=aB) (hi:i<n) (hne:L≠[]) (hL:∀ k∈L,iR (dO R k) n):iR (lead R i o L) n/\Nx o (lead R i o L):=by
 unfold lead
 split
 ·exact⟨ok,Nx.refl _⟩
 ·rename_i hnb
  split
  ·obtain⟨b1,b2,b3⟩:=Bl R L (-1,[])
   have key:(endOf R L).length=n/\∀ s,s<n->0<=el (endOf R L) s/\el (endOf R L) s<=12:=by
    unfold endOf
    split
    ·obtain⟨m1,m2⟩:=zD ok.n5 hne (fun k hk=>⟨(hL k hk).gl,(hL k hk).g⟩)
     refine⟨m1,fun s hs=>?_⟩
     obtain⟨a1,a2,j,a3,a4⟩:=m2 s hs;have:=(hL j a3).g s hs;omega
    ·rename_i c
     rcases b1 with e|⟨j,j1,j2,j3⟩
     ·rw[e] at c;simp at c
     ·rw[j3]
      exact⟨((hL j j1).dV j2).2.2.2.1,(hL j j1).t j2⟩
   have Wj:=(jG ok.n5 key.1).2 key.2;refine⟨⟨ok.n5,ok.ver,ok.tl,ok.ts,ok.got,ok.gl,ok.g12,ok.dQ,ok.pq,fun _=>⟨hw,by simp only;omega,Wj.1,key.1,Wj.2⟩,fun h=>by cases h⟩,aZ3 _,aV1 _,fun j=>aZ3 _,fun x hx=>hx,fun hw=>⟨hw,rfl,rfl⟩,fun hr=>⟨rfl, ?_,fun e=>?_⟩⟩
   ·have:¬ (i:Int)<=o.dW:=fun h=>hnb ⟨hr,h⟩
    simp only
    omega
   ·have:¬ (i:Int)<=o.dW:=fun h=>hnb ⟨hr,h⟩
    simp only at e
    omega
  ·exact⟨ok,Nx.refl _⟩
theorem Lr {R: List Rw} {i n: Nat} {o: Rw} (ok:iR o n) (hw:o.wed=aB) (hf:f<n) (hr:iR (dO R f) n):iR (adopt R i o f) n/\Nx o (adopt R i o f):=by
 unfold adopt
 split
 ·rename_i hc
  obtain⟨c1,c2,c3,c4⟩:=hc;refine⟨⟨ok.n5,ok.ver,ok.tl,ok.ts,ok.got,ok.gl,ok.g12,ok.dQ,ok.pq,fun _=>⟨hw,by simp only;omega,(hr.dV c1).2.2⟩,fun h=>by cases h⟩,aZ3 _,aV1 _,fun j=>aZ3 _,fun x hx=>hx,fun hw=>⟨hw,rfl,rfl⟩,fun hr=>⟨rfl, ?_,fun e=>?_⟩⟩
  ·have:¬ (f:Int)<=o.dW:=fun h=>c4 ⟨hr,h⟩
   simp only
   omega
  ·have:¬ (f:Int)<=o.dW:=fun h=>c4 ⟨hr,h⟩
   simp only at e
   omega
 ·exact⟨ok,Nx.refl _⟩
theorem iP.i {m: Mb} {i n: Nat} (M:iP m i n):m.i=i:=by rw[Mb.i,M.hid];rfl
theorem iP.k {m: Mb} {i n: Nat} (M:iP m i n):m.k=n:=by rw[Mb.k,M.hn];rfl
theorem iP.own {m: Mb} {i n: Nat} (M:iP m i n):m.own=dO m.rows i:=by rw[Mb.own,M.i]
structure Stp (m:Mb) (i n:Nat):Prop where
 ok:iR (kG m) n
 nx:Nx (dO m.rows i) (kG m)
 self:(i:Int)∉(kG m).dQ
 oD:el (kG m).got i=((kG m).txt.length:Int)
 qL:iR (fD m) n
 dV:(kG m).dV=(fD m).dV
 dU:(kG m).dU=(fD m).dU
 aA2:(fF m).wed=aB->iU m=m.dR
 dry:(fF m).wed=aC->jJ m=aC
theorem ZE {m: Mb} {i n: Nat} (M:iP m i n) (hv:(dO m.rows i).ver≠1000000):Stp m i n:=by
 have hi:=M.i;have hk:=M.k;have hown:=M.own;have hlt:=M.lt;have ok:=M.ok i hlt;have hov:=ok.ver;have hlen:i<m.rows.length:=by rw[M.len];exact hlt
 have e1:fF m=learn m.rows i (dO m.rows i) (fA n (dO m.rows i).dQ):=by rw[fF,hi,hk,hown]
 have L1:zW (dO m.rows i) (fF m):=by rw[e1];exact qY _ _ _ _
 have Bq:∀ x∈(fF m).dQ,(0<=x/\x<(n:Int))/\x≠(i:Int):=fun x hx=>by
  rw[e1] at hx;rcases Bj _ _ _ _ hx with hx|⟨k,k1,k2,k3,k4⟩
  ·exact⟨ok.dQ x hx,fun e=>M.self (e ▸ hx)⟩
  ·exact⟨(M.ok k (jd.1 k1).1).dQ x k3,k4⟩
 have ok1 : iR (fF m) n := ⟨ok.n5,by rw [L1.ver];exact ok.ver,by rw [L1.txt];exact ok.tl,by rw [L1.txt];exact ok.ts,by rw [L1.got];exact ok.got,by rw [L1.got];exact ok.gl,by rw [L1.got];exact ok.g12,fun x hx => (Bq x hx).1,lK.2 (by rw [e1];exact Bo _ _ _ _ (lK.1 ok.pq)),fun hr => by
  rw[L1.dV] at hr;obtain⟨a1,a2⟩:=ok.dV hr;rw[L1.dW,L1.dU];exact⟨L1.wed a1,a2⟩,fun hr=>by rw[L1.dV] at hr;rw[L1.dW,L1.dU];exact ok.not hr⟩
 have uD:(i:Int)∉(fF m).dQ:=fun hx=>(Bq _ hx).2 rfl
 have last:∀ (o4:Rw),iR o4 n->o4.ver=(dO m.rows i).ver->iR { o4 with ver:=o4.ver+1 } n/\Nx o4 { o4 with ver:=o4.ver+1 }:=fun o4 qL hv4=>⟨⟨qL.n5,by simp only;omega,qL.tl,qL.ts,qL.got,qL.gl,qL.g12,qL.dQ,qL.pq,qL.dV,qL.not⟩,by simp only;omega,aV1 _,fun _=>aZ3 _,fun _ h=>h,fun h=>⟨h,rfl,rfl⟩,fun h=>⟨h,aZ3 _,fun _=>rfl⟩⟩
 -- from the fourth row to the last
 have fin:∀ {o4:Rw},fD m=o4->iR o4 n->Nx (dO m.rows i) o4->o4.ver=(dO m.rows i).ver->(i:Int)∉o4.dQ->el o4.got i=(o4.txt.length:Int)->((fF m).wed=aB->iU m=m.dR)->((fF m).wed=aC->jJ m=aC)->Stp m i n:=fun {o4} e4 qL nx4 hv4 al8 g4 s4 d4=>by
  obtain⟨l1,l2⟩:=last o4 qL hv4;by_cases c:lD m.own (fD m)=aB
  ·have e5:kG m=o4:=by rw[kG,if_pos c,e4]
   exact⟨by rw[e5];exact qL,by rw[e5];exact nx4,by rw[e5];exact al8,by rw[e5];exact g4,by rw[e4];exact qL,by rw[e5,e4],by rw[e5,e4],s4,d4⟩
  ·have e5:kG m={ o4 with ver:=o4.ver+1 }:=by rw[kG,if_neg c,e4]
   exact⟨by rw[e5];exact l1,by rw[e5];exact nx4.trans l2,by rw[e5];exact al8,by rw[e5];exact g4,by rw[e4];exact qL,by rw[e5,e4],by rw[e5,e4],s4,d4⟩
 cases hw1:(fF m).wed with
 | false =>
  have hr1:=ok1.RY hw1;have e2:gV m={ fF m with got:=kH m.rows (fF m) n }:=by rw[gV,if_neg (by rw[hw1];simp),hk]
  have hg2:∀ j,j<n->el (gV m).got j=max (el (dO m.rows i).got j) ((dO m.rows j).txt.length:Int):=fun j hj=>by rw[e2];simp only;rw[zY hj,L1.got]
  have BM:(gV m).got.length=n:=by rw[e2];simp[kH]
  have hx2:Nx (fF m) (gV m):=by
   refine⟨by rw[e2];exact aZ3 _,by rw[e2];exact aV1 _,fun j=>?_,fun x hx=>by rw[e2];exact hx,fun h=>(by rw[hw1] at h;cases h),fun h=>(by rw[hr1] at h;cases h)⟩
   by_cases hj:j<n
   ·rw[hg2 j hj,L1.got];omega
   ·rw[F8 (by rw[ok1.gl];omega),F8 (by rw[BM];omega)];exact aZ3 _
  have hr2:(gV m).dV=aC:=by rw[e2];exact hr1
  have hw2:(gV m).wed=aC:=by rw[e2];exact hw1
  have ht2:(gV m).txt=(dO m.rows i).txt:=by rw[e2];exact L1.txt
  have hsm:=(jG ok.n5 BM).2 (fun j hj=>by rw[hg2 j hj];have:=ok.g j hj;have:=(M.ok j hj).tl;omega)
  have ok2:iR (gV m) n:=⟨ok.n5,by rw[e2];exact ok1.ver,by rw[e2];exact ok1.tl,by rw[e2];exact ok1.ts,hsm.1,BM,hsm.2,by rw[e2];exact ok1.dQ,by rw[e2];exact ok1.pq,fun h=>(by rw[hr2] at h;cases h),fun _=>by rw[e2];exact ok1.not hr1⟩
  have e3:iG m=gV m:=by rw[iG,if_neg (by rw[hw2];simp)]
  have e4:fD m=gV m:=by rw[fD,e3,if_neg (by rw[hw2];simp)]
  refine fin e4 ok2 (L1.nx.trans hx2) (by rw[e2];exact L1.ver) (by rw[e2];exact uD) ?_ (fun h=>(by rw[hw1] at h;cases h)) (fun _=>by rw[jJ,e4,hr2];rfl)
  rw[hg2 i hlt,ht2,M.oD];omega
 | true =>
  have e2:gV m=fF m:=by rw[gV,if_pos hw1]
  have eL:jT m=fA n (fF m).dQ:=by rw[jT,e2,hk]
  have eS:iU m=m.dR:=by rw[iU,if_pos hw1]
  have hiL:i∈fA n (fF m).dQ:=jd.2 ⟨hlt,uD⟩;have Oz:fA n (fF m).dQ≠[]:=fun e=>by rw[e] at hiL;cases hiL
  have hrow:∀ {o:Rw},iR o n->∀ j,j<n->iR (dO (m.rows.set i o) j) n:=fun {o} ho j hj=>by
   rw[gB hlen]
   split
   ·exact ho
   ·exact M.ok j hj
  obtain⟨Gs,nx3,k1,k2,k3,k4,k5⟩:iR (iG m) n/\Nx (fF m) (iG m)/\(iG m).dQ=(fF m).dQ/\(iG m).wed=aB/\(iG m).got=(fF m).got/\(iG m).txt=(fF m).txt/\(iG m).ver=(fF m).ver:=by
   by_cases c:(gV m).wed=aB/\m.k<2*(jT m).length/\(jT m).head?=au m.i
   ·have e3:iG m=lead (m.rows.set i (fF m)) i (fF m) (fA n (fF m).dQ):=by rw[iG,if_pos c,e2,eL,hi]
    obtain⟨a1,a2,a3,a4,a5⟩:=yJ (m.rows.set i (fF m)) i (fF m) (fA n (fF m).dQ);obtain⟨b1,b2⟩:=Du (R:=m.rows.set i (fF m)) ok1 hw1 hlt Oz (fun k hk=>hrow ok1 k (jd.1 hk).1)
    rw[e3];exact⟨b1,b2,a1,by rw[a2];exact hw1,a3,a4,a5⟩
   ·have e3:iG m=fF m:=by rw[iG,if_neg c,e2]
    rw[e3];exact⟨ok1,Nx.refl _,rfl,hw1,rfl,rfl,rfl⟩
  obtain⟨qL,nx4,l1,l2,l3,l4,l5⟩:iR (fD m) n/\Nx (iG m) (fD m)/\(fD m).dQ=(fF m).dQ/\(fD m).wed=aB/\(fD m).got=(fF m).got/\(fD m).txt=(fF m).txt/\(fD m).ver=(fF m).ver:=by
   by_cases c:(iG m).wed=aB/\(jT m).head?≠au m.i
   ·have e4:fD m=adopt (m.rows.set i (iG m)) i (iG m) ((fA n (fF m).dQ).headD 0):=by rw[fD,if_pos c,eL,hi]
    have hf:(fA n (fF m).dQ).headD 0<n:=by
     cases eh:fA n (fF m).dQ with
     | nil=>exact absurd eh Oz
     | cons f t=>exact (jd.1 (show f∈fA n (fF m).dQ by rw[eh];exact dD)).1
    obtain⟨a1,a2,a3,a4,a5⟩:=wM (m.rows.set i (iG m)) i (iG m) ((fA n (fF m).dQ).headD 0);obtain⟨b1,b2⟩:=Lr (i:=i) (R:=m.rows.set i (iG m)) Gs k2 hf (hrow Gs _ hf);rw[e4];exact⟨b1,b2,a1.trans k1,a2.trans k2,a3.trans k3,a4.trans k4,a5.trans k5⟩
   ·have e4:fD m=iG m:=by rw[fD,if_neg c]
    rw[e4];exact⟨Gs,Nx.refl _,k1,k2,k3,k4,k5⟩
  exact fin rfl qL ((L1.nx.trans nx3).trans nx4) (by rw[l5];exact L1.ver) (by rw[l1];exact uD) (by rw[l3,l4,L1.got,L1.txt];exact M.oD) (fun _=>eS) (fun h=>(by rw[hw1] at h;cases h))
structure Ml where
 fr:Int
 «to»:Int
 row:Rw
structure Ac where
 kind:Int
 a:Int
 b:Int
 txt:List UInt8
structure Gr where
 mem:List Mb
 up:List Bool
 dS:List Ml
def kQ:Gr:=⟨[],[],[]⟩
def dY (g:Gr) (i:Nat):Mb:=g.mem.getD i kY
def nM (g:Gr) (i:Nat):Bool:=g.up.getD i aC
def jg (n:Int):Gr×Bool:=if inB n 1 5=aB then (⟨(aZ6 n.toNat).map (fun (i:Nat)=>(kN (i:Int) n).1),aW5 n.toNat aB,[]⟩,aB) else (kQ,aC)
def qj (x:Ml) (n:Int):Bool:=inB x.fr 0 (n-1)&&(inB x.to 0 (n-1)&&(decide (x.fr≠x.to)&&gu x.row n))
def jQ (g:Gr):Bool :=
 decide (1 <= g.mem.length) && (decide (g.mem.length <= 5) && (decide (g.up.length = g.mem.length) && (decide (g.dS.length <= 200) &&
  ((aZ6 g.mem.length).all (fun i=>gZ (dY g i)&&(decide ((dY g i).id=(i:Int))&&decide ((dY g i).n=(g.mem.length:Int))))&&g.dS.all (fun x=>qj x (g.mem.length:Int))))))
def Gr.set (g:Gr) (i:Nat) (m:Mb):Gr:={ g with mem:=g.mem.set i m }
def iT (g:Gr) (a b:Int):Gr:=if g.dS.length<200 then { g with dS:=g.dS++[⟨a,b,dO (dY g a.toNat).rows a.toNat⟩] } else g
def eX (g:Gr) (i:Nat):Ml:=g.dS.getD i ⟨0,0,nJ⟩
def jl (g:Gr) (i:Nat):Gr :=
 if nM g (eX g i).to.toNat=aB then { mem:=g.mem.set (eX g i).to.toNat (fG (dY g (eX g i).to.toNat) (eX g i).fr (eX g i).row).1,up:=g.up,dS:=g.dS.take i++g.dS.drop (i+1) }
 else { g with dS:=g.dS.take i++g.dS.drop (i+1) }
def kS (g:Gr) (a:Int):Gr:=(aZ6 g.mem.length).foldl (fun g (i:Nat)=>if (i:Int)=a then g else iT g a (i:Int)) g
def nN (g:Gr) (x:Ac):Bool:=inB x.a 0 ((g.mem.length:Int)-1)&&(inB x.b 0 ((g.mem.length:Int)-1)&&decide (x.a≠x.b))
def iY (g:Gr) (x:Ac):Gr×Bool :=
 if x.kind=3 then (if nN g x=aB then (match g.dS.findIdx? (fun y=>decide (y.fr=x.a/\y.to=x.b)) with|some i=>(jl g i,aB)|none=>(g,aC)) else (g,aC))
 else if inB x.a 0 ((g.mem.length:Int)-1)=aC\/nM g x.a.toNat=aC then (g,aC)
 else if x.kind=1 then (g.set x.a.toNat (gX (dY g x.a.toNat) x.txt).1,(gX (dY g x.a.toNat) x.txt).2)
 else if x.kind=2 then (if nN g x=aB then (iT g x.a x.b,aB) else (g,aC))
 else if x.kind=4 then (g.set x.a.toNat (fB (dY g x.a.toNat)),aB)
 else if x.kind=5 then (if nN g x=aB then (g.set x.a.toNat (iJ (dY g x.a.toNat) x.b).1,(iJ (dY g x.a.toNat) x.b).2) else (g,aC))
 else if x.kind=6 then ({ g with up:=g.up.set x.a.toNat aC },aB)
 else if x.kind=7 then (kS g x.a,aB)
 else (g,aC)
def drain:Nat->Gr->Gr
 | 0,g=>g
 | f+1,g=>if 0<g.dS.length then drain f (jl g 0) else g
def jP (g:Gr) (i:Nat):Gr:=if nM g i=aB then kS (g.set i (fB (dY g i))) (i:Int) else g
def lV (g:Gr):Gr:=(fun g=>drain g.dS.length g) ((aZ6 g.mem.length).foldl jP g)
def oV (g:Gr):Gr:=lV (lV (lV (lV (lV (lV (lV (lV g)))))))
structure GInv (n:Nat) (g:Gr) (h:Hs) (log:List Pp):Prop where
 S:oU n h log
 n5:1<=n/\n<=5
 ml:g.mem.length=n
 ul:g.up.length=n
 mem:∀ i,i<n->MInv n h i (dY g i)
 jZ:∀ x∈g.dS,∃ a b:Nat,x.fr=(a:Int)/\x.to=(b:Int)/\a<n/\b<n/\a≠b/\x.row∈h a/\iR x.row n
 pF:g.dS.length<=200
def yK (n:Nat) (g:Gr):Prop:=∃ h log,GInv n g h log
theorem nX {g: Gr} {i: Nat} {m: Mb} (hi:i<g.mem.length):dY (g.set i m) j=if j=i then m else dY g j:=by
 unfold dY Gr.set;simp only
 rw[aV,aV,List.getElem?_set];by_cases e:i=j
 ·subst e;simp[hi]
 ·rw[if_neg e,if_neg (Ne.symm e)]
theorem GInv.goes {n: Nat} {g: Gr} {h: Hs} {log: List Pp} (G:GInv n g h log) {i: Nat} (hi:i<n) {m': Mb} (hg:Goes n h log i m'):yK n (g.set i m'):=by
 obtain⟨h',wL,S',M',hne,hm⟩:=hg;have hil:i<g.mem.length:=by rw[G.ml];exact hi
 refine⟨h',wL,S',G.n5,by simp only[Gr.set,aV3];exact G.ml,G.ul,fun j hj=>?_,fun x hx=>?_,G.pF⟩
 ·rw[nX hil]
  split
  ·rename_i e;rw[e];exact M'
  ·rename_i e;exact (G.mem j hj).more hm (hne j e)
 ·obtain⟨a,b,h1,h2,h3,h4,h5,h6,h7⟩:=G.jZ x hx
  exact⟨a,b,h1,h2,h3,h4,h5,hm a _ h6,h7⟩
theorem GInv.push {n: Nat} {g: Gr} {h: Hs} {log: List Pp} (G:GInv n g h log) {a b: Nat} (ha:a<n) (hb:b<n) (hab:a≠b):GInv n (iT g (a:Int) (b:Int)) h log/\(iT g (a:Int) (b:Int)).mem=g.mem:=by
 unfold iT
 split
 ·rename_i hl
  refine⟨⟨G.S,G.n5,G.ml,G.ul,G.mem,fun x hx=>?_,by simp only[dB,bP];omega⟩,rfl⟩
  rcases aW0.1 hx with hx|hx
  ·exact G.jZ x hx
  ·have:=dH.1 hx
   subst this;refine⟨a,b,rfl,rfl,ha,hb,hab, ?_, ?_⟩
   ·simp only[dM];exact (G.mem a ha).view a ha
   ·simp only[dM];exact (G.mem a ha).ok a ha
 ·exact⟨G,rfl⟩
theorem GInv.all {n:Nat} {h:Hs} {log:List Pp} {a:Nat} (ha:a<n):∀ (L:List Nat) {g:Gr},GInv n g h log->(∀ x∈L,x<n)->GInv n (L.foldl (fun g (i:Nat)=>if (i:Int)=(a:Int) then g else iT g (a:Int) (i:Int)) g) h log
 | [],g,G,_=>G
 | i::L,g,G,hL=>by
  rw[aV6];refine GInv.all ha L ?_ (fun x hx=>hL x (bV _ hx))
  split
  ·exact G
  ·rename_i e
   exact (G.push ha (hL i dD) (fun e2=>e (by rw[e2]))).1
theorem GInv.land {n: Nat} {g: Gr} {h: Hs} {log: List Pp} (G:GInv n g h log) {i: Nat} (hi:i<g.dS.length):GInv n (jl g i) h log:=by
 have hx:eX g i∈g.dS:=by
  unfold eX;rw[aV,bC hi];exact aU7 hi
 obtain⟨a,b,h1,h2,h3,h4,h5,h6,h7⟩:=G.jZ _ hx
 have hsub:∀ x∈g.dS.take i++g.dS.drop (i+1),x∈g.dS:=fun x hx=>by
  rcases aW0.1 hx with hx|hx
  ·exact List.mem_of_mem_take hx
  ·exact List.mem_of_mem_drop hx
 have hlen:(g.dS.take i++g.dS.drop (i+1)).length<=200:=by
  have:=G.pF;simp only[dB,aU5,aU8]
  omega
 unfold jl
 split
 ·rw[h2,h1]
  simp only[dM]
  have hbl:b<g.mem.length:=by rw[G.ml];exact h4
  refine⟨G.S,G.n5,by simp only[aV3];exact G.ml,G.ul,fun j hj=>?_,fun x hx=>G.jZ x (hsub x hx),hlen⟩
  have:=nX (g:=g) (i:=b) (j:=j) (m:=(fG (dY g b) (a:Int) (eX g i).row).1) hbl;have e:dY { mem:=g.mem.set b (fG (dY g b) (a:Int) (eX g i).row).1,up:=g.up,dS:=g.dS.take i++g.dS.drop (i+1) } j=dY (g.set b (fG (dY g b) (a:Int) (eX g i).row).1) j:=rfl;rw[e,this]
  split
  ·rename_i e2;rw[e2];exact UQ G.S (G.mem b h4) h6 h3
  ·exact G.mem j hj
 ·exact⟨G.S,G.n5,G.ml,G.ul,G.mem,fun x hx=>G.jZ x (hsub x hx),hlen⟩
theorem sD {x: Int} {n: Nat} (h:inB x 0 ((n:Int)-1)=aB):∃ a:Nat,x=(a:Int)/\a<n:=by
 have:=iQ.1 h;exact⟨x.toNat,by omega,by omega⟩
theorem Ws {n: Nat} {g: Gr} (hg:yK n g) (x:Ac):yK n (iY g x).1:=by
 obtain⟨h,log,G⟩:=hg;have hself:yK n g:=⟨h,log,G⟩
 have ZF:nN g x=aB->∃ a b:Nat,x.a=(a:Int)/\x.b=(b:Int)/\a<n/\b<n/\a≠b:=fun ht=>by
  simp only[nN,aU2,decide_eq_true_eq] at ht;rw[G.ml] at ht;obtain⟨a,e1,h1⟩:=sD ht.1;obtain⟨b,e2,h2⟩:=sD ht.2.1;exact⟨a,b,e1,e2,h1,h2,fun e=>ht.2.2 (by rw[e1,e2,e])⟩
 unfold iY;by_cases c3:x.kind=3
 ·rw[if_pos c3]
  by_cases c2:nN g x=aB
  ·rw[if_pos c2]
   cases e:g.dS.findIdx? (fun y=>decide (y.fr=x.a/\y.to=x.b)) with
   | none=>exact hself
   | some i=>exact⟨h,log,G.land (List.findIdx?_eq_some_iff_getElem.1 e).1⟩
  ·rw[if_neg c2];exact hself
 ·rw[if_neg c3]
  by_cases c0:inB x.a 0 ((g.mem.length:Int)-1)=aC\/nM g x.a.toNat=aC
  ·rw[if_pos c0];exact hself
  ·rw[if_neg c0]
   simp only[not_or] at c0;rw[G.ml] at c0;obtain⟨a,ea,ha⟩:=sD (by simpa using c0.1)
   have M:=G.mem a ha;have et:x.a.toNat=a:=by rw[ea];rfl
   rw[et];by_cases c1:x.kind=1
   ·rw[if_pos c1];exact G.goes ha (ZB G.S M x.txt)
   ·rw[if_neg c1]
    by_cases c2:x.kind=2
    ·rw[if_pos c2]
     by_cases c4:nN g x=aB
     ·rw[if_pos c4]
      obtain⟨a',b,e1,e2,h1,h2,h3⟩:=ZF c4;rw[e1,e2];exact⟨h,log,(G.push h1 h2 h3).1⟩
     ·rw[if_neg c4];exact hself
    ·rw[if_neg c2]
     by_cases c4:x.kind=4
     ·rw[if_pos c4];exact G.goes ha (EN G.S M)
     ·rw[if_neg c4]
      by_cases c5:x.kind=5
      ·rw[if_pos c5]
       by_cases c6:nN g x=aB
       ·rw[if_pos c6];exact G.goes ha (UO G.S M x.b)
       ·rw[if_neg c6];exact hself
      ·rw[if_neg c5]
       by_cases c6:x.kind=6
       ·rw[if_pos c6];exact⟨h,log,G.S,G.n5,G.ml,by simp only[aV3];exact G.ul,G.mem,G.jZ,G.pF⟩
       ·rw[if_neg c6]
        by_cases c7:x.kind=7
        ·rw[if_pos c7,ea]
         exact⟨h,log,GInv.all ha (aZ6 g.mem.length) G (fun y hy=>by rw[G.ml] at hy;exact aX1.1 hy)⟩
        ·rw[if_neg c7];exact hself
theorem UU {n: Nat} {g: Gr} (hg:yK n g) {i: Nat} (hi:i<n):yK n (jP g i):=by
 unfold jP
 split
 ·obtain⟨h,log,G⟩:=hg
  obtain⟨h',wL,G'⟩:=G.goes hi (EN G.S (G.mem i hi));exact⟨h',wL,GInv.all hi (aZ6 (g.set i (fB (dY g i))).mem.length) G' (fun y hy=>by rw[G'.ml] at hy;exact aX1.1 hy)⟩
 ·exact hg
theorem Ic {n: Nat} (hn:1<=n/\n<=5):iR (jV (n:Int)) n/\jV (n:Int)=⟨0,[],aW5 n 0,[],aC,aC,0,[]⟩:=by
 have e:jV (n:Int)=⟨0,[],aW5 n 0,[],aC,aC,0,[]⟩:=by rw[jV,if_pos (iQ.2 (by omega))];simp
 rw[e];have hg:=(jG (v:=aW5 n 0) hn (by simp)).2 (fun j hj=>by simp[el,bH,hj])
 exact⟨⟨hn,by simp,by simp,fun t ht=>(by cases ht),hg.1,by simp,hg.2,fun x hx=>(by cases hx),by simp[sZ],fun h=>(by cases h),fun _=>⟨rfl,rfl⟩⟩,rfl⟩
theorem Ie {n: Nat} (hn:1<=n/\n<=5):yK n (jg (n:Int)).1:=by
 obtain⟨ok,e⟩:=Ic hn;have hb:inB (n:Int) 1 5=aB:=iQ.2 (by omega)
 have hmN:∀ i,i<n->dY (jg (n:Int)).1 i=⟨(i:Int),(n:Int),aW5 n (jV (n:Int)),[],aC⟩:=fun i hi=>by
  rw[jg,if_pos hb];unfold dY;simp only[dM]
  rw[aV,List.getElem?_map,List.getElem?_range hi];simp only[Option.map_some,Option.getD_some]
  rw[kN,if_pos ⟨hb,iQ.2 (by omega)⟩]
  simp
 have hrow:∀ j,j<n->dO (aW5 n (jV (n:Int))) j=jV (n:Int):=fun j hj=>by simp[dO,bH,hj]
 refine⟨fun _=>[jV (n:Int)],[],⟨fun j=>List.pairwise_singleton _ _,fun j r hr hrd=>?_,fun j r hr hrd=>?_,trivial⟩,hn, ?_, ?_,fun i hi=>?_, ?_, ?_⟩
 ·rw[dH.1 hr,e] at hrd;cases hrd
 ·rw[dH.1 hr,e] at hrd;cases hrd
 ·rw[jg,if_pos hb];simp
 ·rw[jg,if_pos hb];simp
 ·rw[hmN i hi]
  refine⟨rfl,rfl,hi,by simp,⟨[],by simp only[hrow i hi]⟩,fun j hj=>by simp only[hrow j hj];exact dH.2 rfl,fun j hj=>by simp only[hrow j hj];exact ok,by simp only[hrow i hi];rw[e];simp,fun j hj=>?_, ?_,fun _=>⟨by simp,fun q hq=>by simp at hq⟩,fun h=>by cases h⟩
  ·simp only[hrow i hi,hrow j hj];rw[e];simp[el,bH,hj]
  ·simp only[hrow i hi];rw[e];simp[el,bH,hi]
 ·rw[jg,if_pos hb];intro x hx;cases hx
 ·rw[jg,if_pos hb];simp
theorem OA {T: List Int} {n: Nat} (hl:T.length=n) (hn:n<=5) {x: Int} (hx:x∈iC T 12):∃ q:Nat,x=(q:Int)/\q<12*n:=by
 obtain⟨k,i,h1,h2,h3,h4⟩:=xI.1 hx;rw[hl] at h2 h4;refine⟨n*k+i,by rw[h4];push_cast;rfl, ?_⟩
 have:n*k<=n*11:=Nat.mul_le_mul_left n (by omega)
 omega
theorem GInv.had {n:Nat} {g:Gr} {h:Hs} {log:List Pp} (G:GInv n g h log) {i:Nat} (hi:i<n) {x:Int} (hx:x∈(dY g i).dR):∃ q:Nat,x=(q:Int)/\q/n<(dO (dY g i).rows (q%n)).txt.length:=by
 have n5:=G.n5;have M:=G.mem i hi
 have OB:∀ q:Nat,((q/n:Nat):Int)<el (dO (dY g i).rows i).got (q%n)->q/n<(dO (dY g i).rows (q%n)).txt.length:=fun q hq=>by
  have:=M.EL (q%n) (aZ7 _ (by omega))
  omega
 cases di:(dY g i).done with
 | true =>
  obtain⟨h1,h2,h3,h4⟩:=M.fin di;have ok:=M.ok i hi;obtain⟨a1,a2,a3,a4,a5⟩:=ok.dV h1;rw[h4] at hx;obtain⟨q,e,_⟩:=OA a4 n5.2 hx;rw[e] at hx;have hq:=(Lp a4 (by omega) (fun j hj=>(ok.t h1 j hj).2)).1 hx
  refine⟨q,e,OB q ?_⟩;have:=G.S.had hi (M.view i hi) h1 a1 (IW h2) (fun j hj=>by obtain⟨p,p1,p2,_,_,p5⟩:=h3 j hj;exact⟨p,p1,p2,p5⟩) (aZ7 q (show 0<n by omega))
  omega
 | false =>
  obtain⟨s1,s2⟩:=M.uO di;obtain⟨q,hq,e⟩:=(Dq (fun q hq=>(s2 q hq).1)).1 hx
  refine⟨q,e,OB q ?_⟩;obtain⟨r,r1,r2⟩:=(s2 q hq).2 i hi;obtain⟨t,ht⟩:=M.head
  have hnx:Nx r (dO (dY g i).rows i):=by
   rcases aX5.1 (ht ▸ r1) with e|e
   ·rw[e];exact Nx.refl _
   ·have:=G.S.chain i
    rw[ht] at this;exact (dI.1 this).1 r e
  have:=hnx.got (q%n);omega
end Go.Proofs.YtafimeakbdmkjaaGreat