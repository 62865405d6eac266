/-
  Texts in one.
-/
import Derived.Test.YtafimeakbdmkjaaGreatXao
import Derived.Test.YtafimeakbdmkjaaGreatXaa
import Derived.Test.YtafimeakbdmkjaaGreatXab
import Derived.Test.YtafimeakbdmkjaaGreatXac
import Derived.Defers
import Derived.Recover
import Derived.BigQuiet
import Derived.Stop.Asserts
namespace Go.Proofs.YtafimeakbdmkjaaGreat
open Bool renaming and_eq_true->bI,false->aC,true->aB
open Go renaming Addr->dH,Calls->dF,Value->aJ,World->aI,bodyPost_ret->bY,maxLen->dD
open Go.Builtin renaming append_->bU
open Go.Ending renaming returned->aK
open Go.Instr renaming typeAssert->bK
open Go.IntKind renaming i64->aA
open Go.Obj renaming cells->aH
open Go.Proofs.Tryz renaming prog->dA
open Go.RowKit renaming Hid->aG,intOf->dG
open Go.RowKit.Below renaming refl->dw
open Go.Value renaming agg->aP,bool->aF,int->ah,int->dB,pointer->aO,slice->aj,string->aN
open List renaming all_eq_true->bJ,getD_eq_getElem?_getD->aS,getElem?_eq_getElem->aV,length_append->bD,length_cons->bP,mem_cons->bW,mem_iff_getElem->bg
open Nat renaming le_refl->cO,le_trans->bZ,lt_succ_iff_lt_or_eq->aW,zero_le->cZ
open Option renaming none->ak,some->au
open Option.some renaming inj->bT
set_option linter.unusedVariables false
set_option linter.unusedSimpArgs false
open Go.RowKit Go.Sort
set_option maxRecDepth 100000
set_option maxHeartbeats 12800000
variable {n x:Int} {r:Rw}
section
def sG (L:List Ac):List aJ:=L.flatMap (fun x=>(rV x).toList)
theorem am9 (L:List Ac):(sG L).length=L.length*4:=by
 induction L with
 | nil=>rfl
 | cons x L ih =>
  show ((rV x).toList++sG L).length=_
  rw[bD,ih,bP]
  show 4+_=_
  omega
theorem an0 (L M:List Ac):sG (L++M)=sG L++sG M:=by simp[sG]
theorem an1 (L:List Ac):∀ u∈sG L,u.oneCell'=aB:=by
 intro u hu;unfold sG at hu;obtain⟨x,_,hx⟩:=List.mem_flatMap.1 hu;simp only[rV,bW,List.not_mem_nil,or_false] at hx;rcases hx with rfl|rfl|rfl|rfl<;>rfl
theorem Tryz.infoAc:(Tryz.prog.info? 38).map (fun i=>(i.zero,i.size,i.bytes))=au (au (aP #[ah aA 0,ah aA 0,ah aA 0,.string ⟨#[]⟩]),4,40):=by kernel_rfl
structure AL (w X Y:aI) (p:Nat) (a:Option dH) (len cap:Nat) (bs:Nat->Int) (oa:Option dH) (c:Nat) (G:Option Nat) (L:List Ac):Prop where
 cc:Cc w Y p a len cap bs
 own:iQ Y 4 oa L.length c (sG L) G
 lo:∀ g,G=au g->X.heap.size<=g
 hpo:p<X.heap.size
 gr:X.grownBy Y (au p)
 ok:∀ x∈L,zf x
section
variable {w X Y Y':aI} {p:Nat} {a:Option dH} {len cap:Nat} {bs:Nat->Int} {oa:Option dH} {c:Nat} {G:Option Nat} {L:List Ac}
theorem AL.drawn (h:AL w X Y p a len cap bs oa c G L) (hg:Y.grownBy Y' (au p)) (hc:Cc w Y' p a len cap bs):AL w X Y' p a len cap bs oa c G L:=by
 have h1:=h.hpo;exact⟨hc,h.own.wrt (eX.lI hg) (fun b hb e=>by cases e;have:=h.lo _ hb;omega),h.lo,h1,fP h.gr hg,h.ok⟩
theorem AL.step (h:AL w X Y p a len cap bs oa c G L) (hb:Below Y.heap.size Y Y'):AL w X Y' p a len cap bs oa c G L :=
 ⟨h.cc.step hb,h.own.frame hb.size (fun g hg=>hb.block g (h.own.lt hg)),h.lo,h.hpo,fP h.gr ⟨hb.os,hb.tape,hb.output,hb.size,fun x hx _=>hb.block x hx⟩,h.ok⟩
theorem AL.app (h:AL w X Y p a len cap bs oa c G L) (M:List Ac) (hok:∀ x∈M,zf x) (hl:L.length<=10000) (hm:M.length<=10) :
  ∀ Z,Same Z (Y.alloc (aH (sG M).toArray 38))->∃ v' w4,(bU #[29,29] 29 #[aj oa L.length c,aj (au ⟨Y.heap.size,0,ak⟩) M.length M.length]).run dA Z=.ok v' w4 /\
   ∃ D7 c' G',v'=aj D7 (L.length+M.length) c'/\AL w X w4 p a len cap bs D7 c' G' (L++M):=by
 intro Z hZ;have h1:=h.hpo;have hw:=h.cc.hp;have mW:=(dX Y _).trans (hZ.below.mono (dX Y _).size);have hS:=h.step mW;obtain⟨i0,hi0,hz0,hz1,hz2⟩:=uP Tryz.infoAc;obtain⟨a',c',G',w4,k1,k2,k3,k4⟩:=ny (P:=dA) Z 29 29 38 i0 _ 4 40 Tryz.underlying29 hi0 hz0 hz1 hz2 rfl (by omega) oa L.length c (sG L) G hS.own (au ⟨Y.heap.size,0,ak⟩) M.length M.length (sG M) (am9 M) (.inr ⟨_,rfl,World.news_of_block (cs:=(sG M).toArray) (t:=38) (fr:=(0,0)) (by rw[hZ.heap];exact heap_alloc_new Y _)⟩) (an1 M) (by unfold dD;omega) (by omega)
 have hW:=eX.lI k3;refine⟨_,w4,k1,a',c',G',rfl,hS.cc.wrt hW (fun e=>by have:=h.lo _ e;omega) (fun b e=>by have:=h.lo _ e;omega), ?_,fun g hg=>?_,h1,nU hS.gr hW (fun b e=>h.lo b e),fun x hx=>?_⟩
 ·rw[bD,an0]
  exact k2
 ·rcases k4 with e|e
  ·exact h.lo g (e ▸ hg)
  ·rw[e] at hg
   have:=bT hg;have:=hS.gr.size;omega
 ·rcases List.mem_append.1 hx with h2|h2
  ·exact h.ok x h2
  ·exact hok x h2
end
def aG1 (w X X':aI) (p:Nat) (a:Option dH) (len cap:Nat) (bs:Nat->Int) (e:Ending) (q:Nat):Prop:=∃ (oa:Option dH) (c:Nat) (G:Option Nat) (L:List Ac),e=aK (aj oa L.length c)/\AL w X X' p a len cap bs oa c G L/\L.length<=q
attribute [local irreducible] sv
theorem Jp (N:Nat) (n:Int) (hN:n=(N:Int)) (hN1:1<=N) (Gs:N<=5) {w X: aI} {p: Nat} {a: Option dH} {len cap: Nat} {bs: Nat->Int} (h:Cc w X p a len cap bs) :
  dF dA 31 #[aO (au ⟨p,0,ak⟩),ah aA n] X fun e X'=>aG1 w X X' p a len cap bs e 325:=by
 subst hN;have Fb:=h.lt;have J5:aG ((⟨#[]⟩:ByteArray)=sv []):=by rw[aG];unfold sv;rfl
 have b0:=dX X (aH #[] 38);have Xd:aG (AL w X (X.alloc (aH #[] 38)) p a len cap bs (au ⟨X.heap.size,0,ak⟩) 0 ak []):=⟨h.step b0,iQ.nil _ _ (kL _ _),fun g hg=>(by cases hg),Fb,⟨b0.os,b0.tape,b0.output,b0.size,fun x hx _=>b0.block x hx⟩,fun x hx=>absurd hx List.not_mem_nil⟩
 clear h b0;go_enter Tryz.func31,Tryz.ntmps31
 go_upto_region 2 with fail
 generalize X.alloc (aH #[] 38)=W0 at *;go_wp2_with fail
 refine (jP 26 26 rfl Xd.out.cc (by omega) (by omega)).mono ?_
 rintro e W1 ⟨K,rfl,hK,c1,g1⟩;have HA1:=dP (Xd.out.drawn g1 c1);clear c1 g1 Xd;go_wp2_with fail
 go_loopw [5,6] (fun v i wr=>∃ (k:Nat) (oa:Option dH) (c:Nat) (G:Option Nat) (L:List Ac),k<=25/\i=ah aA (k:Int)/\v=aj oa L.length c/\L.length<=13*(25-k)/\AL w X wr p a len cap bs oa c G L) (fun _ i _=>(dG i).toNat)
 case atStart=>exact⟨K,_,0,none,[],by omega,rfl,rfl,by simp,HA1.out⟩
 case round =>
  obtain⟨k,oa,c,G,L,hk,rfl,rfl,hll,hA⟩:=hrel;have HA:=dP hA;clear hA HA1;by_cases hk0:0<k
  ·have k1:(0:Int)<k:=by omega
   have wk:wrap64 ((k:Int)-1)=((k-1:Nat):Int):=by unfold wrap64;omega
   have HF:aG (∀ (Y:aI) (D7:Option dH) (c':Nat) (G':Option Nat) (L':List Ac) (z:aJ),z=aj D7 L'.length c'->L'.length<=L.length+13->AL w X Y p a len cap bs D7 c' G' L'->∃ (k':Nat) (oa:Option dH) (c:Nat) (G:Option Nat) (L:List Ac),k'<=25/\(dB aA ((k:Int)-1))=ah aA (k':Int)/\z=aj oa L.length c/\L.length<=13*(25-k')/\AL w X Y p a len cap bs oa c G L):=fun Y D7 c' G' L' z e h1 h2=>⟨k-1,D7,c',G',L',by omega,by congr 1;omega,e,by omega,h2⟩
   clear wk;have hO:=uq 3 HA.out.cc (by omega)
   go_wp2_with fail
   refine hO.mono ?_;rintro e Y1 ⟨b,rfl,c7,g7⟩;have HA1:=dP (HA.out.drawn g7 c7);clear c7 g7 hO HA
   cases b with
   | false =>
    have hD:=UR N (N:Int) rfl hN1 Gs HA1.out.cc;go_wp2_with fail
    refine hD.mono ?_;rintro e Y2 ⟨x,rfl,hx,c8,g8⟩;have HA2:=dP (HA1.out.drawn g8 c8);have Fe:=HA2.out.app [x] (fun y hy=>by rw[List.mem_singleton.1 hy];exact hx) (by omega) (by simp)
    unfold o8 rV;have e1:sG [x]=[ah aA x.kind,ah aA x.a,ah aA x.b,aN (sv x.txt)]:=rfl;rw[e1] at Fe;clear c8 g8 hD HA1 e1;go_wp2_with (at_builtin;refine fG (by rfl) _ _ _ _ (by rfl) _ _ (by rfl) (by rfl) Fe ⟨rfl,rfl,rfl,rfl⟩ ?_;rintro v1 w2 ⟨Fg,c1,G1,rfl,q1⟩;have HQ:aG (AL w X w2 p a len cap bs Fg c1 G1 (L++[x])):=q1;clear q1 Fe)
    have HE:aG _:=HF.out w2 Fg c1 G1 (L++[x]) (aj Fg (L.length+1) c1) (by simp) (by simp) HQ.out
    clear HF HQ;go_roundw
    case rel=>exact HE.out
    case measure=>simp[dG];omega
   | true =>
    have hB:=jP N (N:Int) rfl HA1.out.cc hN1 (by omega)
    go_wp2_with fail
    refine hB.mono ?_;rintro e Y2 ⟨xa,rfl,hxa,c8,g8⟩;have HA2:=dP (HA1.out.drawn g8 c8);clear c8 g8 hB HA1;have hT:=Dz 2 2 rfl (by omega) HA2.out.cc
    go_wp2_with fail
    refine hT.mono ?_;rintro e Y3 ⟨t,rfl,ht,c8,g8⟩;have HA3:=dP (HA2.out.drawn g8 c8)
    obtain⟨M,F8,Fh,Xl⟩:∃ M:List Ac,M.length=3/\sG M=[ah aA 1,ah aA (xa:Int),ah aA 0,aN (sv t),ah aA 4,ah aA (xa:Int),ah aA 0,.string ⟨#[]⟩,ah aA 7,ah aA (xa:Int),ah aA 0,.string ⟨#[]⟩]/\∀ y∈M,zf y:=by
     have hxb:ji (xa:Int):=⟨by omega,by omega⟩
     have hk:∀ k:Int,0<=k->k<=7->ji k:=fun k h1 h2=>⟨by omega,by omega⟩
     refine⟨[⟨1,(xa:Int),0,t⟩,⟨4,(xa:Int),0,[]⟩,⟨7,(xa:Int),0,[]⟩],rfl,by rw[J5.out];rfl,fun y hy=>?_⟩
     simp only[bW,List.not_mem_nil,or_false] at hy;rcases hy with rfl|rfl|rfl
     ·exact Bf (hk _ (by omega) (by omega)) hxb (hk _ (by omega) (by omega)) (by omega)
     ·exact Bf (hk _ (by omega) (by omega)) hxb (hk _ (by omega) (by omega)) (by simp)
     ·exact Bf (hk _ (by omega) (by omega)) hxb (hk _ (by omega) (by omega)) (by simp)
    have Fe:=HA3.out.app M Xl (by omega) (by omega)
    rw[F8,Fh] at Fe;have lC:=dP F8;clear c8 g8 hT HA2 F8 Fh Xl;go_upto_region 8 with (at_builtin;refine fG (by rfl) _ _ _ _ (by rfl) _ _ (by rfl) (by rfl) Fe ⟨rfl,rfl,rfl,rfl⟩ ?_;rintro v1 w2 ⟨Fg,c1,G1,rfl,q1⟩;have HQ:aG (AL w X w2 p a len cap bs Fg c1 G1 (L++M)):=q1;clear q1 Fe)
    obtain⟨L1,hL1⟩:∃ L1,aG (L++M=L1):=⟨_,rfl⟩;have tN:aG (AL w X w2 p a len cap bs Fg c1 G1 L1):=by have:=HQ.out;rw[hL1.out] at this;exact this
    have wz:aG (L1.length=L.length+3):=by rw[aG,<- hL1.out,bD,lC.out]
    clear HQ hL1 HA3 lC;rw[<- wz.out];go_wp2_with fail
    go_loopw [5,8] (fun v i wq=>∃ (b:Nat) (oa:Option dH) (c:Nat) (G:Option Nat) (L2:List Ac),b<=N/\i=ah aA (b:Int)/\v=aj oa L2.length c/\L2.length<=L.length+3+2*b/\AL w X wq p a len cap bs oa c G L2) (fun _ i _=>N-(dG i).toNat)
    case atStart=>exact⟨0,Fg,c1,G1,L1,cZ _,rfl,rfl,by rw[wz.out];omega,tN.out⟩
    case round =>
     obtain⟨b,ob,cb,Gb,L2,hbN,rfl,rfl,hl2,hA2⟩:=hrel;have HB:=dP hA2;clear hA2;by_cases hb:b<N
     ·have b1:(b:Int)<N:=by omega
      have b0:(0:Int)<=b:=by omega
      have HG:aG (∀ (Y:aI) (D7:Option dH) (c':Nat) (G':Option Nat) (L':List Ac) (z:aJ),z=aj D7 L'.length c'->L'.length<=L2.length+2->AL w X Y p a len cap bs D7 c' G' L'->∃ (b':Nat) (oa:Option dH) (c:Nat) (G:Option Nat) (L2:List Ac),b'<=N/\(dB aA ((b:Int)+1))=ah aA (b':Int)/\z=aj oa L2.length c/\L2.length<=L.length+3+2*b'/\AL w X Y p a len cap bs oa c G L2):=fun Y D7 c' G' L' z e h1 h2=>⟨b+1,D7,c',G',L',by omega,by push_cast;rfl,e,by omega,h2⟩
      clear HF tN;by_cases hx:b=xa
      ·have n1:((b:Int) != (xa:Int))=aC:=by rw[hx];exact bne_self_eq_false _
       have HE:aG _:=HG.out _ ob cb Gb L2 (aj ob L2.length cb) rfl (by omega) HB.out
       clear HG HB hx;go_wp2;go_roundw
       case rel=>exact HE.out
       case measure=>simp[dG];omega
      ·have n1:((b:Int) != (xa:Int))=aB:=bne_iff_ne.2 (by omega)
       have hO:=uq 6 HB.out.cc (by omega)
       clear hx;go_wp2_with fail
       refine hO.mono ?_;rintro e Y6 ⟨u,rfl,c9,g9⟩;have uS:=dP (HB.out.drawn g9 c9);clear hO c9 g9 HB n1
       cases u with
       | true =>
        have HE:aG _:=HG.out _ ob cb Gb L2 (aj ob L2.length cb) rfl (by omega) uS.out
        clear HG uS;go_wp2;go_roundw
        case rel=>exact HE.out
        case measure=>simp[dG];omega
       | false =>
        obtain⟨M,hM2,Fh,Xl⟩:∃ M:List Ac,M.length=2/\sG M=[ah aA 3,ah aA (xa:Int),ah aA (b:Int),.string ⟨#[]⟩,ah aA 4,ah aA (b:Int),ah aA 0,.string ⟨#[]⟩]/\∀ y∈M,zf y:=by
         have hk:∀ k:Int,0<=k->k<=7->ji k:=fun k h1 h2=>⟨by omega,by omega⟩
         refine⟨[⟨3,(xa:Int),(b:Int),[]⟩,⟨4,(b:Int),0,[]⟩],rfl,by rw[J5.out];rfl,fun y hy=>?_⟩
         simp only[bW,List.not_mem_nil,or_false] at hy;rcases hy with rfl|rfl
         ·exact Bf (hk _ (by omega) (by omega)) (hk _ (by omega) (by omega)) (hk _ (by omega) (by omega)) (by simp)
         ·exact Bf (hk _ (by omega) (by omega)) (hk _ (by omega) (by omega)) (hk _ (by omega) (by omega)) (by simp)
        have Fe:=uS.out.app M Xl (by omega) (by omega)
        rw[hM2,Fh] at Fe;have jk:=dP hM2;clear hM2 Fh Xl;go_wp2_with (at_builtin;refine fG (by rfl) _ _ _ _ (by rfl) _ _ (by rfl) (by rfl) Fe ⟨rfl,rfl,rfl,rfl⟩ ?_;rintro v1 w2 ⟨Fg,c1,G1,rfl,q1⟩;have HQ:aG (AL w X w2 p a len cap bs Fg c1 G1 (L2++M)):=q1;clear q1 Fe)
        have HE:aG _:=HG.out w2 Fg c1 G1 (L2++M) (aj Fg (L2.length+2) c1) (by rw[bD,jk.out]) (by rw[bD,jk.out];exact cO _) HQ.out
        clear HG uS HQ;go_roundw
        case rel=>exact HE.out
        case measure=>simp[dG];omega
     ·have b1:¬ ((b:Int)<N):=by omega
      have HE:aG _:=HF.out _ ob cb Gb L2 (aj ob L2.length cb) rfl (by omega) HB.out
      clear HF HB tN;go_wp2;go_roundw
      case rel=>exact HE.out
      case measure=>simp[dG];omega
  ·have k1:¬ ((0:Int)<k):=by omega
   go_wp2;go_ret
   exact⟨oa,c,G,L,rfl,HA.out,by omega⟩
end
def Gu (e:Ending):Prop:=∃ T v,e=.panicked [{ v:=.iface T v,recovered:=aC }]
theorem wW (w:aI):dF dA 86 #[aF aB] w fun e w'=>e=aK (.tuple #[])/\w'=w:=by
 have hnot:∀ (x:Bool) (w:aI),(Op.unary .not (aF x)).run dA w=.ok (aF (!x)) w:=fun _ _=>rfl
 go_enter Tryz.func86,Tryz.ntmps86
 go_wp2
 first|go_end0|go_ret
 exact⟨rfl,rfl⟩
theorem rG (w:aI):dF dA 86 #[aF aC] w fun e w'=>Gu e/\w'=w:=by
 go_enter Tryz.func86,Tryz.ntmps86
 go_wp2;exact⟨rfl,⟨_,_,rfl⟩,rfl⟩
theorem aG2 (p:dH) (x:aJ) (u:TypeId) (pv:aJ) (older:List PanicEntry) (w:aI) (hc:w.cell? p=au x) (hz:w.frozen? p=aC) :
  CallsD dA 85 #[aO (au p)] (.panicking ({ v:=.iface u pv,recovered:=aC }::older)) w fun e u' w' =>
   e=aK (.tuple #[])/\u'=.panicking ({ v:=.iface u pv,recovered:=aB }::older)/\w'=w.setCell p (aF aC):=by
 refine callsD_of_wpS Tryz.func85 rfl fun c₀ cs hu=>?_
 apply wpS_region
 simp[wpOpsS,go_sem,recoverD,hu,Tryz.ntmps85,hc,hz,bodyPostS,results,Tryz.results85]
theorem aG3 (p:dH) (x:aJ) (w:aI) (hc:w.cell? p=au x) (hz:w.frozen? p=aC) :
  CallsD dA 85 #[aO (au p)] .returning w fun e u' w'=>e=aK (.tuple #[])/\u'=.returning/\w'=w.setCell p (aF aB):=by
 refine callsD_of_wpS Tryz.func85 rfl fun c₀ cs hu=>?_
 apply wpS_region
 simp[wpOpsS,go_sem,recoverD,hu,Tryz.ntmps85,hc,hz,bodyPostS,results,Tryz.results85]
 cases c₀
 simp_all
theorem PN (F:Nat) (C D:Array aJ) (w:aI) (Q:Bool->aI->Prop) (hE:∀ (args:Array aJ) (w:aI),(callFunc F args).run dA w=.ok (.enter F args) w)
  (h:dF dA F (C++D) (w.alloc (aH #[aF aC] 4)) fun e w'=>(e=aK (.tuple #[])/\Q aB w')\/(Gu e/\Q aC w')) (hq:∀ b w',Q b w'->Bx w' w.heap.size 4 #[aF aC]) :
  dF dA 46 #[.func (.func F) C D] w fun e w'=>∃ b X,e=aK (aF b)/\Q b X/\eX (fun x=>x=w.heap.size) X w':=by
 have hmf:∀ (fn:Fn) (first cap:Array aJ) (w:aI),(Instr.makeFunc fn first cap).run dA w=.ok (.func fn first cap) w:=fun _ _ _ _=>rfl
 have HQ:=dP hq;clear hq
 go_enter_defers Tryz.func46,Tryz.ntmps46
 go_wp2_with fail
 refine h.mono ?_;rintro e w1 (⟨rfl,hQ⟩|⟨⟨T,v,rfl⟩,hQ⟩)
 ·have hx:=HQ.out _ _ hQ
  have c0:=hx.at 0 (v:=aF aC) rfl;have f0:=hx.f 0;have tN:=dP hQ;clear hQ h hx;go_wp2;refine leaves_cons (f:=85) (args:=#[aO (au ⟨w.heap.size,0,ak⟩)]) (by simp) (by simp[go_sem]) ?_
  refine (aG3 ⟨w.heap.size,0,ak⟩ (aF aB) _ (World.cell?_setCell_same _ _ _ c0) (by rw[World.frozen?_setCell];exact f0)).mono ?_
  rintro e u' w'' ⟨rfl,rfl,rfl⟩;have hc:((w1.setCell ⟨w.heap.size,0,ak⟩ (aF aB)).setCell ⟨w.heap.size,0,ak⟩ (aF aB)).cell? ⟨w.heap.size,0,ak⟩=au (aF aB):=World.cell?_setCell_same _ _ _ (World.cell?_setCell_same _ _ _ c0);have hW:=(eX.set w1 w.heap.size 0 (aF aB)).trans (eX.set (w1.setCell ⟨w.heap.size,0,ak⟩ (aF aB)) w.heap.size 0 (aF aB)) (fun _ _ h=>h)
  generalize (w1.setCell ⟨w.heap.size,0,ak⟩ (aF aB)).setCell ⟨w.heap.size,0,ak⟩ (aF aB)=W2 at *;refine⟨aF aB,by simp[results,Tryz.results46,go_sem,hc],aB,w1,rfl,tN.out,hW⟩
 ·have hx:=HQ.out _ _ hQ
  have c0:=hx.at 0 (v:=aF aC) rfl;have f0:=hx.f 0;have tN:=dP hQ;clear hQ h hx;simp only
  refine leaves_cons (f:=85) (args:=#[aO (au ⟨w.heap.size,0,ak⟩)]) (by simp) (by simp[go_sem]) ?_
  refine (aG2 ⟨w.heap.size,0,ak⟩ (aF aC) T v [] _ c0 f0).mono ?_;rintro e u' w'' ⟨rfl,rfl,rfl⟩;have hc:(w1.setCell ⟨w.heap.size,0,ak⟩ (aF aC)).cell? ⟨w.heap.size,0,ak⟩=au (aF aC):=World.cell?_setCell_same _ _ _ c0;have hW:=eX.set w1 w.heap.size 0 (aF aC);generalize w1.setCell ⟨w.heap.size,0,ak⟩ (aF aC)=W2 at *;refine⟨aF aC,by simp[results,Tryz.results46,go_sem,hc],aC,w1,rfl,tN.out,hW⟩
theorem kV (n last:Int) (w:aI):dF dA 87 #[ah aA n,ah aA last] w fun e w'=>e=aK (aF (inB n 0 last))/\w'=w:=by
 by_cases h0:(0:Int)<=n
 ·have H:aG (inB n 0 last=decide (n<=last)):=by rw[aG,inB];simp[h0]
  go_enter Tryz.func87,Tryz.ntmps87
  go_wp2;go_ret
  exact⟨dZ (by rw[H.out]),rfl⟩
 ·have H:aG (inB n 0 last=aC):=by rw[aG,inB];simp[h0]
  go_enter Tryz.func87,Tryz.ntmps87
  go_wp2;go_ret
  exact⟨dZ (by rw[H.out]),rfl⟩
theorem PO (a:Option dH) (len cap:Nat) (B:Int) (xs:List Int) (w:aI) (hv:Vec w a len xs) (hm:len<=dD) :
  dF dA 89 #[aj a len cap,ah aA (B-1)] w fun e w'=>e=aK (aF (decide (zi B xs)))/\w'=w:=by
 unfold dD at hm;have HL:=dP hv.1;have hc:=hv.2.2;clear hv;go_enter Tryz.func89,Tryz.ntmps89
 go_wp2
 go_loop [9] (fun i=>∃ k:Nat,k<=len/\i=ah aA k/\(∀ j,j<k->0<=el xs j/\el xs j<=B-1)/\∀ j,j+1<k->el xs j<el xs (j+1)) (fun i=>len-(dG i).toNat)
 case atStart=>exact⟨0,cZ _,rfl,fun j hj=>by omega,fun j hj=>by omega⟩
 case round =>
  obtain⟨k,hk,rfl,hin,yS⟩:=hrel;have HI:=dP hin;have HR:=dP yS;clear hin yS;by_cases hlt:k<len
  ·rcases hc with h0|⟨b,off,rfl,hc⟩
   ·omega
   have hck:=hc k hlt;have k0:(0:Int)<=k:=by omega
   have k1:(k:Int)<len:=by omega
   cases e4:inB (el xs k) 0 (B-1) with
   | false =>
    have HF : aG (decide (zi B xs) = aC) := decide_eq_false (fun h => by
     have:=h.1 k (by rw[HL.out];exact hlt)
     rw[iZ.2 this] at e4
     cases e4)
    go_wp2_with (go_at_call 87;refine fV (kV _ _ _) ?_)
    go_ret
    exact⟨dZ (by rw[HF.out]),rfl⟩
   | true =>
    have HX:=dP (iZ.1 e4);by_cases hk0:0<k
    ·obtain⟨q,rfl⟩:∃ q,k=q+1:=⟨k-1,by omega⟩
     have hcq:=hc q (by omega)
     have hg:decide (((q+1:Nat):Int)>0)=aB:=decide_eq_true (by omega)
     have g0:(0:Int)<((q+1:Nat):Int):=by omega
     have hq:wrap64 (((q+1:Nat):Int)-1)=(q:Int):=by unfold wrap64;omega
     have q0:(0:Int)<=q:=by omega
     have q1:(q:Int)<len:=by omega
     by_cases hx:el xs q<el xs (q+1)
     ·have hd:decide (el xs (q+1)<=el xs q)=aC:=by simp;omega
      have HY:=dP hx;clear hx;go_wp2_with (go_at_call 87;refine fV (kV _ _ _) ?_)
      go_round
      case rel => exact ⟨q + 1 + 1,by omega,by go_num,fun j hj => by
       rcases aW.1 hj with h|h
       ·exact HI.out j h
       ·rw[h];exact HX.out,fun j hj=>by
       rcases aW.1 hj with h|h
       ·exact HR.out j h
       ·have:j=q:=by omega
        rw[this];exact HY.out⟩
      case measure=>simp[dG];omega
     ·have hd:decide (el xs (q+1)<=el xs q)=aB:=by simp;omega
      have HF:aG (decide (zi B xs)=aC):=decide_eq_false (fun h=>hx (h.2 q (by rw[HL.out];omega)))
      clear hx;go_wp2_with (go_at_call 87;refine fV (kV _ _ _) ?_)
      go_ret
      exact⟨dZ (by rw[HF.out]),rfl⟩
    ·obtain rfl:k=0:=by omega
     rw[Nat.add_zero] at hck;go_wp2_with (go_at_call 87;refine fV (kV _ _ _) ?_)
     go_round
     case rel => exact ⟨1,by omega,by go_num,fun j hj => by
      obtain rfl:j=0:=by omega
      exact HX.out,fun j hj=>by omega⟩
     case measure=>simp[dG];omega
  ·have hkl:k=len:=by omega
   have HF:aG (decide (zi B xs)=aB):=decide_eq_true ⟨fun j hj=>HI.out j (by rw[HL.out] at hj;omega),fun j hj=>HR.out j (by rw[HL.out] at hj;omega)⟩
   subst hkl;clear hc;go_wp2;go_ret
   exact⟨dZ (by rw[HF.out]),rfl⟩
def Jq (xs:List Int) (x z:Int):Prop:=(∃ k:Nat,k<xs.length/\z=(k:Int)/\el xs k=x/\∀ j,j<k->el xs j≠x)\/(z=-1/\∀ j,j<xs.length->el xs j≠x)
theorem Jq.mem {xs: List Int} {z: Int} (h:Jq xs x z):decide (0<=z)=decide (x∈xs):=by
 rcases h with ⟨k,hk,rfl,rfl,_⟩|⟨rfl,h⟩
 ·rw[decide_eq_true (aE4 hk),decide_eq_true (by omega)]
 ·rw[decide_eq_false (by omega),decide_eq_false (fun hx=>by obtain⟨i,hi,e⟩:=aE5 hx;exact h i hi e)]
theorem Xm (a:Option dH) (cap:Nat) (xs:List Int) (x:Int) (w:aI) (hv:Vec w a xs.length xs) (hm:xs.length<=dD) :
  dF dA 127 #[aj a xs.length cap,ah aA x] w fun e w'=>(∃ z:Int,e=aK (ah aA z)/\Jq xs x z)/\w'=w:=by
 unfold dD at hm;have hc:=hv.2.2;clear hv;go_enter Tryz.func127,Tryz.ntmps127
 go_wp2
 go_loop [8] (fun i=>∃ k:Nat,k<=xs.length/\i=ah aA k/\∀ j,j<k->el xs j≠x) (fun i=>xs.length-(dG i).toNat)
 case atStart=>exact⟨0,cZ _,rfl,fun j hj=>by omega⟩
 case round =>
  obtain⟨k,hk,rfl,hall⟩:=hrel;have HA:=dP hall;clear hall;by_cases hlt:k<xs.length
  ·rcases hc with h0|⟨b,off,rfl,hc⟩
   ·omega
   have hck:=hc k hlt;clear hc;have k0:(0:Int)<=k:=by omega
   have k1:(k:Int)<xs.length:=by omega
   by_cases hx:el xs k=x
   ·have HX:aG (Jq xs x (k:Int)):=.inl ⟨k,hlt,rfl,hx,HA.out⟩
    have hq:(x==el xs k)=aB:=by simp[hx]
    clear hx;generalize el xs k=E at *;go_wp2;go_ret
    exact⟨⟨_,rfl,HX.out⟩,rfl⟩
   ·have HX:aG (∀ j,j<k+1->el xs j≠x):=fun j hj=>by
     by_cases e:j=k
     ·rw[e];exact hx
     ·exact HA.out j (by omega)
    have hq:(x==el xs k)=aC:=by simp[Ne.symm hx]
    clear hx;generalize el xs k=E at *;go_wp2
    go_round
    case rel=>exact⟨k+1,by omega,by go_num,HX.out⟩
    case measure=>simp[dG];omega
  ·have k1:¬ ((k:Int)<xs.length):=by omega
   obtain rfl:k=xs.length:=by omega
   clear hc;go_wp2;go_ret
   exact⟨⟨_,rfl,.inr ⟨rfl,HA.out⟩⟩,rfl⟩
theorem tZ (a:Option dH) (cap:Nat) (xs:List Int) (x:Int) (w:aI) (hv:Vec w a xs.length xs) (hm:xs.length<=dD) :
  dF dA 88 #[aj a xs.length cap,ah aA x] w fun e w'=>e=aK (aF (decide (x∈xs)))/\w'=w:=by
 have hI:=Xm a cap xs x w hv hm;clear hv;go_enter Tryz.func88,Tryz.ntmps88
 go_wp2_with (go_at_call 127;refine hI.mono ?_;rintro e w' ⟨⟨z,rfl,hz⟩,hw'⟩;rw[hw'];clear hw';have HZ:aG (Jq xs x z):=hz;clear hz)
 go_ret
 exact⟨dZ (by rw[<- HZ.out.mem]),rfl⟩
section
theorem vO (n:Int) (w:aI):dF dA 52 #[ah aA n] w fun e w'=>e=aK (aF (inB n 1 5))/\w'=w:=by
 by_cases h0:(1:Int)<=n
 ·have H:aG (inB n 1 5=decide (n<=5)):=by rw[aG,inB];simp[h0]
  go_enter Tryz.func52,Tryz.ntmps52
  go_wp2;go_ret
  exact⟨dZ (by rw[H.out]),rfl⟩
 ·have H:aG (inB n 1 5=aC):=by rw[aG,inB];simp[h0]
  go_enter Tryz.func52,Tryz.ntmps52
  go_wp2;go_ret
  exact⟨dZ (by rw[H.out]),rfl⟩
def zZ (T:List (List UInt8)):Bool:=decide (T.length<=12)&&T.all (fun t=>decide (t.length<=20))
theorem Z4 {T: List (List UInt8)} {k: Nat} (hk:k<T.length) (h:¬ (T.getD k []).length<=20):zZ T=aC:=by
 have:T.all (fun t=>decide (t.length<=20))=aC:=by
  rw[List.all_eq_false];refine⟨T[k],List.getElem_mem hk, ?_⟩;rw[aS,aV hk] at h;simpa using h
 rw[zZ,this];simp
theorem an2 {T: List (List UInt8)} (h0:T.length<=12) (h:∀ k,k<T.length->(T.getD k []).length<=20):zZ T=aB:=by
 have:T.all (fun t=>decide (t.length<=20))=aB:=by
  rw[bJ];intro t ht;obtain⟨j,hj,rfl⟩:=bg.1 ht;have:=h j hj;rw[aS,aV hj] at this;simpa using this
 rw[zZ,decide_eq_true h0,this]
 rfl
attribute [local irreducible] sv
theorem Xn (a:Option dH) (cap:Nat) (T:List (List UInt8)) (w:aI) (hv:yA w a T) (hm:T.length<=dD) :
  dF dA 94 #[aj a T.length cap] w fun e w'=>e=aK (aF (zZ T))/\w'=w:=by
 unfold dD at hm;by_cases h12:T.length<=12
 ·have g12:¬ ((12:Int)<T.length):=by omega
  have H12:=dP h12;have HV:=dP hv;clear hv h12;go_enter Tryz.func94,Tryz.ntmps94
  go_wp2
  go_loop [10] (fun i=>∃ k:Nat,k<=T.length/\i=ah aA k/\∀ j,j<k->(T.getD j []).length<=20) (fun i=>T.length-(dG i).toNat)
  case atStart=>exact⟨0,cZ _,rfl,fun j hj=>by omega⟩
  case round =>
   obtain⟨k,hk,rfl,hall⟩:=hrel;have HA:=dP hall;clear hall;by_cases hlt:k<T.length
   ·rcases HV.out with h0|⟨b,off,rfl,hc⟩
    ·omega
    have hck:=hc k hlt;have k1:(k:Int)<T.length:=by omega
    have k0:(0:Int)<=k:=by omega
    clear hc;by_cases h20:(T.getD k []).length<=20
    ·have g20:¬ ((20:Int)<((T.getD k []).length:Int)):=by omega
     have HN:aG (∀ j,j<k+1->(T.getD j []).length<=20):=fun j hj=>by
      rcases aW.1 hj with h1|h1
      ·exact HA.out j h1
      ·rw[h1];exact h20
     generalize T.getD k []=t at *;have hz:=BP t;clear h20;go_wp2
     go_round
     case rel=>exact⟨k+1,by omega,by go_num,HN.out⟩
     case measure=>simp[dG];omega
    ·have g20:(20:Int)<((T.getD k []).length:Int):=by omega
     have HZ:=dP (Z4 (k:=k) hlt h20);generalize T.getD k []=t at *;have hz:=BP t;clear h20;go_wp2;go_ret
     exact⟨dZ (by rw[HZ.out]),rfl⟩
   ·have k1:¬ ((k:Int)<T.length):=by omega
    have HZ:aG (zZ T=aB):=an2 H12.out (fun j hj=>HA.out j (by omega))
    go_wp2;go_ret
    exact⟨dZ (by rw[HZ.out]),rfl⟩
 ·have g12:(12:Int)<T.length:=by omega
  have HZ:aG (zZ T=aC):=by rw[aG,zZ,decide_eq_false h12];rfl
  clear hv h12;go_enter Tryz.func94,Tryz.ntmps94
  go_wp2;go_ret
  exact⟨dZ (by rw[HZ.out]),rfl⟩
theorem aK6 {m: Int}:∀ {xs:List Int},hiL x xs<=m↔x<=m/\∀ y∈xs,y<=m:=by
 intro xs
 induction xs generalizing x with
 | nil=>simp[hiL]
 | cons y ys ih =>
  show hiL (max x y) ys<=m↔_
  rw[ih];simp only[bW]
  constructor
  ·rintro⟨h1,h2⟩
   exact⟨by omega,fun z hz=>by rcases hz with rfl|hz;omega;exact h2 z hz⟩
  ·rintro⟨h1,h2⟩
   exact⟨by have:=h2 y (.inl rfl);omega,fun z hz=>h2 z (.inr hz)⟩
theorem aG4 {v: List Int} (h1:(v.length:Int)=n) (h2:okB v=aB):lG v n=decide (hiL (el v 0) v.tail<=12):=by
 have hl:=(mM h2).1;rw[lG,h2,decide_eq_true h1,Bool.true_and,Bool.true_and,Bool.eq_iff_iff,decide_eq_true_eq,aK6,bJ]
 cases v with
 | nil=>simp at hl
 | cons x xs =>
  simp only[decide_eq_true_eq,bW,List.tail_cons]
  constructor
  ·intro h
   exact⟨h _ (.inl rfl),fun y hy=>h y (.inr hy)⟩
  ·rintro⟨h,h'⟩ y hy
   rcases hy with rfl|hy
   ·exact h
   ·exact h' y hy
theorem LZ (a:Option dH) (cap:Nat) (v:List Int) (n:Int) (w:aI) (hv:Vec w a v.length v) (hcap:v.length<=cap) (hm:cap<=dD) :
  dF dA 95 #[aj a v.length cap,ah aA n] w fun e w'=>e=aK (aF (lG v n))/\∃ m,w'=w.drewN m:=by
 have hV:=xw a v.length cap v w hv hcap hm;have hml:=bZ hcap hm;unfold dD at hml;by_cases hl:(v.length:Int)=n
 ·have e1:((v.length:Int)==n)=aB:=by simpa using hl
  cases hb:okB v with
  | false =>
   rw[hb] at hV;have HZ:aG (lG v n=aC):=by rw[aG,lG,hb];rfl
   clear hb hl hv;go_enter Tryz.func95,Tryz.ntmps95
   go_wp2_with (go_at_call 130;refine hV.mono ?_;rintro e w' ⟨rfl,n1,rfl⟩)
   go_ret
   exact⟨dZ (by rw[HZ.out]),_,rfl⟩
  | true =>
   rw[hb] at hV;have HZ:=dP (aG4 hl hb);have h18:=mM hb;clear hb hl;obtain⟨_,hf,hcs⟩:=hv
   have hG:aG (∀ n,dF dA 131 #[aj a v.length cap] (w.drewN n) fun e w'=>e=aK (ah aA (hiL (el v 0) v.tail))/\∃ m,w'=(w.drewN n).drewN m):=by
    intro n;rcases hcs with h0|⟨b,off,rfl,hc⟩
    ·omega
    ·exact rJ b off v.length cap v _ rfl hf (fun k hk=>by rw[World.cell?_drewN];exact hc k hk) (by omega) hcap hm
   clear hcs hf h18;generalize hiL (el v 0) v.tail=G at *;go_enter Tryz.func95,Tryz.ntmps95
   go_wp2_with (first|(go_at_call 130;refine hV.mono ?_;rintro e w' ⟨rfl,n1,rfl⟩)|(go_at_call 131;refine (hG.out _).mono ?_;rintro e w' ⟨rfl,n2,rfl⟩))
   go_ret
   exact⟨dZ (by rw[HZ.out]),_,rfl⟩
 ·have e1:((v.length:Int)==n)=aC:=by simpa using hl
  have HZ:aG (lG v n=aC):=by rw[aG,lG,decide_eq_false hl];simp
  clear hl hv hV;go_enter Tryz.func95,Tryz.ntmps95
  go_wp2;go_ret
  exact⟨dZ (by rw[HZ.out]),0,rfl⟩
theorem SL (n:Int) (l:List Int):decide (zi n l)=lY l n:=by
 rw[Bool.eq_iff_iff,decide_eq_true_eq,lY,bI,bJ,zi,sK,decide_eq_true_eq]
 constructor
 ·rintro⟨h1,h2⟩
  refine⟨fun x hx=>?_,h2⟩
  obtain⟨j,hj,rfl⟩:=bg.1 hx;have:=h1 j hj;rw[qX hj] at this;exact iZ.2 this
 ·rintro⟨h1,h2⟩
  exact⟨fun i hi=>iZ.1 (h1 _ (kK hi)),h2⟩
theorem Z5 (a a':Option dH) (cap cap':Nat) (S T:List (List UInt8)) (w:aI) (hv:yA w a S) (hv':yA w a' T) (hm:S.length<=dD) (hl:S.length=T.length) :
  dF dA 175 #[aj a S.length cap,aj a' T.length cap'] w fun e w'=>e=aK (aF (decide (S=T)))/\∃ n,w'=w.drewN n:=by
 unfold dD at hm;have hne:((S.length:Int) != (T.length:Int))=aC:=by simp[hl]
 have HL:=dP hl;have HV:=dP hv;have HV':=dP hv';clear hl hv hv';go_enter Tryz.func175,Tryz.ntmps175
 go_wp2
 go_loopw [13] (fun i wr=>∃ k:Nat,k<=S.length/\i=ah aA k/\(∀ j,j<k->S.getD j []=T.getD j [])/\∃ n,wr=w.drewN n) (fun i _=>S.length-(dG i).toNat)
 case atStart=>exact⟨0,cZ _,rfl,fun j hj=>by omega,0,rfl⟩
 case round =>
  obtain⟨k,hk,rfl,hall,n,rfl⟩:=hrel;have HA:=dP hall;clear hall;by_cases hlt:k<S.length
  ·have hlq:k<T.length:=by rw[<- HL.out];exact hlt
   rcases HV.out with h0|⟨b,off,rfl,hc⟩
   ·omega
   rcases HV'.out with h0|⟨b2,off2,rfl,hc2⟩
   ·omega
   have hck:=hc k hlt;have aK7:=hc2 k hlq;have k1:(k:Int)<S.length:=by omega
   have k2:(k:Int)<T.length:=by omega
   have k0:(0:Int)<=k:=by omega
   clear hc hc2;by_cases he:S.getD k []=T.getD k []
   ·have HN:aG (∀ j,j<k+1->S.getD j []=T.getD j []):=fun j hj=>by
     rcases aW.1 hj with h1|h1
     ·exact HA.out j h1
     ·rw[h1];exact he
    rw[<- he] at aK7;generalize S.getD k []=t at *;have ns:((sv t).toList==(sv t).toList)=aB:=by simp
    clear he;go_wp2_with fail
    go_quiet (fail)
    go_wp2;go_roundw
    case rel=>exact⟨k+1,by omega,by go_num,HN.out,_,rfl⟩
    case measure=>simp[dG];omega
   ·have HZ:aG (decide (S=T)=aC):=decide_eq_false (fun h=>he (by rw[h]))
    have ns:((sv (S.getD k [])).toList==(sv (T.getD k [])).toList)=aC:=by rw[Ri,Ri];simpa using he
    generalize S.getD k []=t at *;generalize T.getD k []=t2 at *;clear he;go_wp2_with fail
    go_quiet (fail)
    go_wp2;go_ret
    exact⟨dZ (by rw[HZ.out]),_,World.drewN_drewN _ _ _⟩
  ·have k1:¬ ((k:Int)<S.length):=by omega
   have HZ : aG (decide (S = T) = aB) := decide_eq_true (List.ext_getElem HL.out (fun i h1 h2 => by
    have:=HA.out i (by omega)
    rwa [aS,aV h1,aS,aV h2] at this))
   go_wp2;go_ret
   exact⟨dZ (by rw[HZ.out]),_,rfl⟩
theorem Z7 (a b:Option dH) (c d:Nat) (l o:List Int) (w:aI) (hv:Vec w a l.length l) (hu:Vec w b o.length o) (hm:l.length<=dD) (hm2:o.length<=dD) :
  dF dA 192 #[aj b o.length d,aj a l.length c] w fun e w'=>e=aK (aF (o.all (fun x=>decide (x∈l))))/\w'=w:=by
 have hH:=fun x=>tZ a c l x w hv hm
 have HU:=dP hu;unfold dD at hm hm2;clear hu hv;go_enter Tryz.func192,Tryz.ntmps192
 go_wp2
 go_loop [9] (fun i=>∃ k:Nat,k<=o.length/\i=ah aA k/\∀ j,j<k->el o j∈l) (fun i=>o.length-(dG i).toNat)
 case atStart=>exact⟨0,cZ _,rfl,fun j hj=>by omega⟩
 case round =>
  obtain⟨k,hk,rfl,hall⟩:=hrel;have HA:=dP hall;clear hall;by_cases hlt:k<o.length
  ·rcases HU.out.2.2 with h0|⟨b',off,rfl,hc⟩
   ·omega
   have hck:=hc k hlt;have k1:(k:Int)<o.length:=by omega
   have k0:(0:Int)<=k:=by omega
   have hI:=hH (el o k);clear hc hH;by_cases hb:el o k∈l
   ·rw[decide_eq_true hb] at hI
    have HN:aG (∀ j,j<k+1->el o j∈l):=fun j hj=>by
     rcases aW.1 hj with h1|h1
     ·exact HA.out j h1
     ·rw[h1];exact hb
    generalize el o k=x at *;clear hb;go_wp2_with (go_at_call 88;refine fV hI ?_)
    go_round
    case rel=>exact⟨k+1,by omega,by go_num,HN.out⟩
    case measure=>simp[dG];omega
   ·rw[decide_eq_false hb] at hI
    have HZ:=dP (Iq hlt hb);generalize el o k=x at *;clear hb;go_wp2_with (go_at_call 88;refine fV hI ?_)
    go_ret
    exact⟨dZ (by rw[HZ.out]),rfl⟩
  ·have k1:¬ ((k:Int)<o.length):=by omega
   have HZ:aG (o.all (fun x=>decide (x∈l))=aB):=KH (fun j hj=>HA.out j (by omega))
   go_wp2;go_ret
   exact⟨dZ (by rw[HZ.out]),rfl⟩
end
def D8 (A:Ra) (r:Rw):aJ:=if r.dV then .iface 170 (iK A r) else if r.wed then .iface 171 (iK A r) else .iface 172 (iK A r)
def Aa (r:Rw):Bool:=if r.dV then r.wed else decide (r.dW=0)&&decide (r.dU=[])
def lsB (r:Rw) (n:Int):Bool:=!r.dV||(inB r.dW 0 (n-1)&&lG r.dU n)
theorem an3 (r:Rw) (n:Int):JJ r n=(Aa r&&lsB r n):=by
 unfold JJ Aa lsB
 cases r.dV<;>simp
theorem Z8 (A:Ra) (r:Rw) (w:aI) (hm:r.dU.length<=dD) :
  dF dA 96 #[iK A r] w fun e w'=>∃ s,e=aK (.tuple #[s,aF (Aa r)])/\(Aa r=aB->s=D8 A r)/\Below w.heap.size w w':=by
 have hB0:=dX w (aH (fQ A r) 44);have hx:=Bx.new w 44 (fQ A r);generalize hW:w.alloc (aH (fQ A r) 44)=W at *;obtain⟨ver,txt,got,dQ,wed,dV,dW,dU⟩:=r;obtain⟨ta,tc,ga,gc,sa,sc,ma,mc⟩:=A;have hw0:w.alloc (aH #[ah aA ver,aj ta txt.length tc,aj ga got.length gc,aj sa dQ.length sc,aF wed,aF dV,ah aA dW,aj ma dU.length mc] 44)=W:=hW;obtain⟨⟨c0,c1,c2,c3⟩,c4,c5,c6,c7⟩:=Bx.r8 hx;simp only at c0 c1 c2 c3 c4 c5 c6 c7 hm
 have HB0:aG (Below w.heap.size w W):=hB0;unfold dD at hm;unfold iK fQ;clear hx hW hB0;simp only
 cases dV with
 | true =>
  have HZ:aG (Aa ⟨ver,txt,got,dQ,wed,aB,dW,dU⟩=wed):=by rw[aG,Aa];rfl
  go_enter Tryz.func96,Tryz.ntmps96
  go_wp2_with fail
  go_quiet (fail)
  go_wp2;refine bY (v:=.tuple #[.iface 170 (aP #[ah aA ver,aj ta txt.length tc,aj ga got.length gc,aj sa dQ.length sc,aF wed,aF aB,ah aA dW,aj ma dU.length mc]),aF wed]) (by simp[results,Tryz.results96,go_sem, *]) rfl ?_
  exact⟨D8 ⟨ta,tc,ga,gc,sa,sc,ma,mc⟩ ⟨ver,txt,got,dQ,wed,aB,dW,dU⟩,by rw[HZ.out];rfl,fun _=>rfl,fO HB0.out⟩
 | false =>
  by_cases hy:dW=0
  ·have e1:(dW != 0)=aC:=by simpa using hy
   by_cases ht:dU=[]
   ·have g1:¬ ((0:Int)<dU.length):=by rw[ht];simp
    have HZ:aG (Aa ⟨ver,txt,got,dQ,wed,aC,dW,dU⟩=aB):=by rw[aG,Aa];simp[hy,ht]
    clear hy ht
    cases wed with
    | true =>
     go_enter Tryz.func96,Tryz.ntmps96
     go_wp2;refine bY (v:=.tuple #[.iface 171 (aP #[ah aA ver,aj ta txt.length tc,aj ga got.length gc,aj sa dQ.length sc,aF aB,aF aC,ah aA dW,aj ma dU.length mc]),aF aB]) (by simp[results,Tryz.results96,go_sem, *]) rfl ?_
     exact⟨D8 ⟨ta,tc,ga,gc,sa,sc,ma,mc⟩ ⟨ver,txt,got,dQ,aB,aC,dW,dU⟩,by rw[HZ.out];rfl,fun _=>rfl,HB0.out⟩
    | false =>
     go_enter Tryz.func96,Tryz.ntmps96
     go_wp2;refine bY (v:=.tuple #[.iface 172 (aP #[ah aA ver,aj ta txt.length tc,aj ga got.length gc,aj sa dQ.length sc,aF aC,aF aC,ah aA dW,aj ma dU.length mc]),aF aB]) (by simp[results,Tryz.results96,go_sem, *]) rfl ?_
     exact⟨D8 ⟨ta,tc,ga,gc,sa,sc,ma,mc⟩ ⟨ver,txt,got,dQ,aC,aC,dW,dU⟩,by rw[HZ.out];rfl,fun _=>rfl,HB0.out⟩
   ·have g1:(0:Int)<dU.length:=by
     cases dU with
     | nil=>exact absurd rfl ht
     | cons x xs=>simp only[bP];omega
    have HZ:aG (Aa ⟨ver,txt,got,dQ,wed,aC,dW,dU⟩=aC):=by rw[aG,Aa];simp[ht]
    clear hy ht;go_enter Tryz.func96,Tryz.ntmps96
    go_wp2;refine bY (v:=.tuple #[.nilIface,aF aC]) (by simp[results,Tryz.results96,go_sem, *]) rfl ?_
    exact⟨.nilIface,by rw[HZ.out],fun h=>(by rw[HZ.out] at h;cases h),HB0.out⟩
  ·have e1:(dW != 0)=aB:=by simpa using hy
   have HZ:aG (Aa ⟨ver,txt,got,dQ,wed,aC,dW,dU⟩=aC):=by rw[aG,Aa];simp[hy]
   clear hy;go_enter Tryz.func96,Tryz.ntmps96
   go_wp2;refine bY (v:=.tuple #[.nilIface,aF aC]) (by simp[results,Tryz.results96,go_sem, *]) rfl ?_
   exact⟨.nilIface,by rw[HZ.out],fun h=>(by rw[HZ.out] at h;cases h),HB0.out⟩
theorem an4 (v:aJ) (w:aI):(bK (.iface 170 v) 84 174 aB).run dA w=.ok (.tuple #[.iface 170 v,aF aB]) w:=by kernel_rfl
theorem an5 (v:aJ) (w:aI):(bK (.iface 171 v) 84 174 aB).run dA w=.ok (.tuple #[.nilIface,aF aC]) w:=run_typeAssert_lacksB Tryz.underlying174 (by kernel_rfl) (by kernel_rfl) v 84 w
theorem an6 (v:aJ) (w:aI):(bK (.iface 172 v) 84 174 aB).run dA w=.ok (.tuple #[.nilIface,aF aC]) w:=run_typeAssert_lacksB Tryz.underlying174 (by kernel_rfl) (by kernel_rfl) v 84 w
theorem an7 (v : Value) (w : World) : (Go.method 326 170 v "loop.example/g00266/impl.end").run Tryz.prog w = .ok (219, v) w := by kernel_rfl
theorem Z9 (A:Ra) (r:Rw) (w:aI) :
  dF dA 219 #[iK A r] w fun e w'=>e=aK (.tuple #[ah aA r.dW,aj A.ma r.dU.length A.mc])/\Below w.heap.size w w':=by
 have hB0:=dX w (aH (fQ A r) 170);have hx:=Bx.new w 170 (fQ A r);generalize hW:w.alloc (aH (fQ A r) 170)=W at *;obtain⟨ver,txt,got,dQ,wed,dV,dW,dU⟩:=r;obtain⟨ta,tc,ga,gc,sa,sc,ma,mc⟩:=A;have hw0:w.alloc (aH #[ah aA ver,aj ta txt.length tc,aj ga got.length gc,aj sa dQ.length sc,aF wed,aF dV,ah aA dW,aj ma dU.length mc] 170)=W:=hW;obtain⟨⟨c0,c1,c2,c3⟩,c4,c5,c6,c7⟩:=Bx.r8 hx;simp only at c0 c1 c2 c3 c4 c5 c6 c7
 have HB0:aG (Below w.heap.size w W):=hB0;unfold iK fQ;clear hx hW hB0;simp only
 go_enter Tryz.func219,Tryz.ntmps219
 go_wp2_with fail
 go_quiet (fail)
 go_wp2;refine bY (v:=.tuple #[ah aA dW,aj ma dU.length mc]) (by simp[results,Tryz.results219,go_sem, *]) rfl ?_
 exact⟨rfl,fO HB0.out⟩
theorem aa0 (A:Ra) (r:Rw) (n:Int) (w:aI) (hv:ql w A r) (hn:1<=n/\n<=5) :
  dF dA 97 #[D8 A r,ah aA n] w fun e w'=>e=aK (aF (lsB r n))/\Below w.heap.size w w':=by
 have hwn:wrap64 (n-1)=n-1:=by unfold wrap64;omega
 clear hn
 cases e1:r.dV with
 | false =>
  have HZ:aG (lsB r n=aB):=by rw[aG,lsB,e1];rfl
  unfold D8;rw[e1];clear e1 hv
  cases e2:r.wed with
  | false =>
   clear e2;generalize iK A r=v;have ha:=an6 v;simp only[Bool.false_eq_true,if_false]
   go_enter Tryz.func97,Tryz.ntmps97
   go_wp2;go_ret
   exact⟨dZ (by rw[HZ.out]),dw _ _⟩
  | true =>
   clear e2;generalize iK A r=v;have ha:=an5 v;simp only[Bool.false_eq_true,if_false,if_true]
   go_enter Tryz.func97,Tryz.ntmps97
   go_wp2;go_ret
   exact⟨dZ (by rw[HZ.out]),dw _ _⟩
 | true =>
  have hE:=fun X=>Z9 A r X
  have HC:aG (∀ X,Below w.heap.size w X->dF dA 95 #[aj A.ma r.dU.length A.mc,ah aA n] X fun e w'=>e=aK (aF (lG r.dU n))/\∃ m,w'=X.drewN m):=fun X h=>LZ A.ma A.mc r.dU n X (hv.below h).dU.vec hv.dU.le hv.dU.mx
  have HZ:aG (lsB r n=(inB r.dW 0 (n-1)&&lG r.dU n)):=by rw[aG,lsB,e1];rfl
  unfold D8;rw[e1];clear e1 hv;generalize iK A r=v at *;generalize r.dW=Y at *;generalize r.dU.length=L at *;generalize lG r.dU n=Q at *;obtain⟨ta,tc,ga,gc,sa,sc,ma,mc⟩:=A;simp only at hE HC
  have ha:=an4 v;have hm:=an7 v;simp only[if_true]
  cases e2:inB Y 0 (n-1) with
  | false =>
   rw[e2] at HZ;go_enter Tryz.func97,Tryz.ntmps97
   go_wp2_with (first|(go_at_call 219;refine (hE _).mono ?_;rintro e w1 ⟨rfl,hb1⟩)|(go_at_call 87;refine (kV _ _ _).mono ?_;rintro e w' ⟨rfl,hw'⟩;rw[hw',e2];clear hw'))
   go_ret
   exact⟨dZ (by rw[HZ.out];rfl),hb1⟩
  | true =>
   rw[e2] at HZ;go_enter Tryz.func97,Tryz.ntmps97
   go_wp2_with (first|(go_at_call 219;refine (hE _).mono ?_;rintro e w1 ⟨rfl,hb1⟩)|(go_at_call 87;refine (kV _ _ _).mono ?_;rintro e w' ⟨rfl,hw'⟩;rw[hw',e2];clear hw')|(go_at_call 95;refine (HC.out _ hb1).mono ?_;rintro e w' ⟨rfl,m1,rfl⟩))
   go_ret
   exact⟨dZ (by rw[HZ.out];rfl),fO hb1⟩
theorem an8 (h:zZ r.txt=aC):gu r n=aC:=by
 rw[zZ,Bool.and_eq_false_iff] at h;rw[gu];rcases h with h|h<;>simp[h]
theorem Xo (h1:inB n 1 5=aB) (h2:inB r.ver 0 1000000=aB) (h3:zZ r.txt=aB) (h4:lG r.got n=aB) (h5:lY r.dQ n=aB):gu r n=(Aa r&&lsB r n):=by
 rw[zZ,bI] at h3;rw[<- an3,gu,h1,h2,h3.1,h3.2,h4,h5]
 rfl
theorem aa1 (A:Ra) (r:Rw) (n:Int) (w:aI) (hv:ql w A r) :
  dF dA 50 #[iK A r,ah aA n] w fun e w'=>∃ s,e=aK (.tuple #[s,aF (gu r n)])/\(gu r n=aB->s=D8 A r)/\Below w.heap.size w w':=by
 have hB0:=dX w (aH (fQ A r) 44);have hx:=Bx.new w 44 (fQ A r);have h0:=hv.below hB0;generalize hW:w.alloc (aH (fQ A r) 44)=W at *;have hS:=h0.rws;have hTx:=Xn A.ta A.tc r.txt W h0.txt.Vu hS.mt;have Xp:=LZ A.ga A.gc r.got n W h0.got.vec h0.got.le h0.got.mx
 have FZ:∀ m,dF dA 89 #[aj A.sa r.dQ.length A.sc,ah aA (n-1)] (W.drewN m) fun e w'=>e=aK (aF (lY r.dQ n))/\w'=W.drewN m:=fun m=>by
  have:=PO A.sa r.dQ.length A.sc n r.dQ (W.drewN m) (h0.below (fO (dw _ _))).dQ.vec hS.ms;rw[SL] at this;exact this
 have uF:=fun X=>Z8 A r X hS.mm
 have ET:∀ X,Below W.heap.size W X->1<=n/\n<=5->dF dA 97 #[D8 A r,ah aA n] X fun e w'=>e=aK (aF (lsB r n))/\Below X.heap.size X w':=fun X h hn=>aa0 A r n X (h0.below h) hn
 have HZn:aG (inB n 1 5=aC->gu r n=aC):=fun h=>Vy h
 have PU:aG (inB r.ver 0 1000000=aC->gu r n=aC):=fun h=>Vz h
 have HZt:aG (zZ r.txt=aC->gu r n=aC):=fun h=>an8 h
 have HZg:aG (lG r.got n=aC->gu r n=aC):=fun h=>Ip h
 have HZs:aG (lY r.dQ n=aC->gu r n=aC):=fun h=>VA h
 have HZe:aG (inB n 1 5=aB->inB r.ver 0 1000000=aB->zZ r.txt=aB->lG r.got n=aB->lY r.dQ n=aB->gu r n=(Aa r&&lsB r n)):=fun a b c d e=>Xo a b c d e
 have HB0:aG (Below w.heap.size w W):=hB0;have HSt:aG (∀ s:aJ,s=D8 A r->s=D8 A r):=fun _ h=>h
 generalize hq:gu r n=Q at *;clear hq;generalize D8 A r=V at *;generalize Aa r=fl at *;generalize lsB r n=ls at *;generalize zZ r.txt=tb at *;generalize lG r.got n=sg at *;generalize lY r.dQ n=sb at *;obtain⟨ver,txt,got,dQ,wed,dV,dW,dU⟩:=r;obtain⟨ta,tc,ga,gc,sa,sc,ma,mc⟩:=A;have hw0:w.alloc (aH #[ah aA ver,aj ta txt.length tc,aj ga got.length gc,aj sa dQ.length sc,aF wed,aF dV,ah aA dW,aj ma dU.length mc] 44)=W:=hW;obtain⟨⟨c0,c1,c2,c3⟩,c4,c5,c6,c7⟩:=Bx.r8 hx;simp only[iK,fQ] at c0 c1 c2 c3 c4 c5 c6 c7 hTx Xp FZ uF PU HZe;unfold iK fQ;clear hv h0 hx hW hB0 hS;simp only
 cases e1:inB n 1 5 with
 | false =>
  have HZ:aG (Q=aC):=HZn.out e1;go_enter Tryz.func50,Tryz.ntmps50
  go_wp2_with (first|(go_at_call 52;refine (vO _ _).mono ?_;rintro e w' ⟨rfl,hw'⟩;rw[hw',e1];clear hw'))
  refine bY (v:=.tuple #[.nilIface,aF aC]) (by simp[results,Tryz.results50,go_sem, *]) rfl ?_
  exact⟨.nilIface,by rw[HZ.out],fun h=>(by rw[HZ.out] at h;cases h),HB0.out⟩
 | true =>
 have jq:=iZ.1 e1;have hwn:wrap64 (n-1)=n-1:=by unfold wrap64;omega
 have aK8:=fun X h=>ET X h jq
 have BQ:aG (inB n 1 5=aB):=e1
 have hRl:∀ X,dF dA 52 #[ah aA n] X fun e w'=>e=aK (aF aB)/\w'=X:=fun X=>by
  have:=vO n X;rw[e1] at this;exact this
 clear e1 ET jq
 cases e2:inB ver 0 1000000 with
 | false =>
  have HZ:aG (Q=aC):=PU.out e2;go_enter Tryz.func50,Tryz.ntmps50
  go_wp2_with (first|(go_at_call 52;refine fV (hRl _) ?_)|(go_at_call 87;refine (kV _ _ _).mono ?_;rintro e w' ⟨rfl,hw'⟩;rw[hw',e2];clear hw'))
  refine bY (v:=.tuple #[.nilIface,aF aC]) (by simp[results,Tryz.results50,go_sem, *]) rfl ?_
  exact⟨.nilIface,by rw[HZ.out],fun h=>(by rw[HZ.out] at h;cases h),HB0.out⟩
 | true =>
 have yT:aG (inB ver 0 1000000=aB):=e2
 have L6:∀ X,dF dA 87 #[ah aA ver,ah aA 1000000] X fun e w'=>e=aK (aF aB)/\w'=X:=fun X=>by
  have:=kV ver 1000000 X;rw[e2] at this;exact this
 clear e2
 cases tb with
 | false =>
  have HZ:aG (Q=aC):=HZt.out rfl;go_enter Tryz.func50,Tryz.ntmps50
  go_wp2_with (first|(go_at_call 52;refine fV (hRl _) ?_)|(go_at_call 87;refine fV (L6 _) ?_)|(go_at_call 94;refine fV hTx ?_))
  refine bY (v:=.tuple #[.nilIface,aF aC]) (by simp[results,Tryz.results50,go_sem, *]) rfl ?_
  exact⟨.nilIface,by rw[HZ.out],fun h=>(by rw[HZ.out] at h;cases h),HB0.out⟩
 | true =>
 cases sg with
 | false =>
  have HZ:aG (Q=aC):=HZg.out rfl;go_enter Tryz.func50,Tryz.ntmps50
  go_wp2_with (first|(go_at_call 52;refine fV (hRl _) ?_)|(go_at_call 87;refine fV (L6 _) ?_)|(go_at_call 94;refine fV hTx ?_)|(go_at_call 95;refine Xp.mono ?_;rintro e w' ⟨rfl,m1,rfl⟩))
  refine bY (v:=.tuple #[.nilIface,aF aC]) (by simp[results,Tryz.results50,go_sem, *]) rfl ?_
  exact⟨.nilIface,by rw[HZ.out],fun h=>(by rw[HZ.out] at h;cases h),fO HB0.out⟩
 | true =>
 cases sb with
 | false =>
  have HZ:aG (Q=aC):=HZs.out rfl;go_enter Tryz.func50,Tryz.ntmps50
  go_wp2_with (first|(go_at_call 52;refine fV (hRl _) ?_)|(go_at_call 87;refine fV (L6 _) ?_)|(go_at_call 94;refine fV hTx ?_)|(go_at_call 95;refine Xp.mono ?_;rintro e w' ⟨rfl,m1,rfl⟩)|(go_at_call 89;refine fV (FZ _) ?_))
  refine bY (v:=.tuple #[.nilIface,aF aC]) (by simp[results,Tryz.results50,go_sem, *]) rfl ?_
  exact⟨.nilIface,by rw[HZ.out],fun h=>(by rw[HZ.out] at h;cases h),fO HB0.out⟩
 | true =>
 have HE:aG (Q=(fl&&ls)):=HZe.out BQ.out yT.out rfl rfl rfl;clear HZn PU HZt HZg HZs HZe BQ yT
 cases fl with
 | false =>
  have HZ:aG (Q=aC):=by rw[aG,HE.out];rfl
  go_enter Tryz.func50,Tryz.ntmps50
  go_wp2_with (first|(go_at_call 52;refine fV (hRl _) ?_)|(go_at_call 87;refine fV (L6 _) ?_)|(go_at_call 94;refine fV hTx ?_)|(go_at_call 95;refine Xp.mono ?_;rintro e w' ⟨rfl,m1,rfl⟩)|(go_at_call 89;refine fV (FZ _) ?_)|(go_at_call 96;refine (uF _).mono ?_;rintro e w1 ⟨s1,rfl,hs1,hb1⟩;have HB1:aG (Below w.heap.size w w1):=((fO HB0.out).trans (hb1.mono (fO HB0.out).size));clear hb1 hs1))
  refine bY (v:=.tuple #[s1,aF aC]) (by simp[results,Tryz.results50,go_sem, *]) rfl ?_
  exact⟨s1,by rw[HZ.out],fun h=>(by rw[HZ.out] at h;cases h),HB1.out⟩
 | true =>
  have HZ:aG (Q=ls):=by rw[aG,HE.out];rfl
  have hF2:∀ X,dF dA 96 #[aP #[ah aA ver,aj ta txt.length tc,aj ga got.length gc,aj sa dQ.length sc,aF wed,aF dV,ah aA dW,aj ma dU.length mc]] X fun e w'=>e=aK (.tuple #[V,aF aB])/\Below X.heap.size X w':=fun X=>(uF X).mono (fun e w' ⟨s,h1,h2,h3⟩=>⟨by rw[h1,h2 rfl],h3⟩)
  clear uF;have HRf:aG (∀ m,Below W.heap.size W (W.drewN m)):=fun m=>fO (dw _ _)
  go_enter Tryz.func50,Tryz.ntmps50
  go_wp2_with (first|(go_at_call 52;refine fV (hRl _) ?_)|(go_at_call 87;refine fV (L6 _) ?_)|(go_at_call 94;refine fV hTx ?_)|(go_at_call 95;refine Xp.mono ?_;rintro e w' ⟨rfl,m1,rfl⟩)|(go_at_call 89;refine fV (FZ _) ?_)|(go_at_call 96;refine (hF2 _).mono ?_;rintro e w1 ⟨rfl,hb1⟩;have HB1:aG (Below w.heap.size w w1):=((fO HB0.out).trans (hb1.mono (fO HB0.out).size));have hE3:=aK8 w1 ((HRf.out m1).trans (hb1.mono (HRf.out m1).size));clear hb1)|(go_at_call 97;refine hE3.mono ?_;rintro e w2 ⟨rfl,hb2⟩;have HB2:aG (Below w.heap.size w w2):=(eU HB1.out hb2);clear hb2))
  refine bY (v:=.tuple #[V,aF ls]) (by simp[results,Tryz.results50,go_sem, *]) rfl ?_
  exact⟨V,by rw[HZ.out],fun _=>rfl,HB2.out⟩
theorem H8 (A:Ra) (r:Rw) (n:Int) (w:aI) (hv:ql w A r) :
  dF dA 51 #[iK A r,ah aA n] w fun e w'=>e=aK (aF (gu r n))/\Below w.heap.size w w':=by
 have hB0:=dX w (aH (fQ A r) 44);have hx:=Bx.new w 44 (fQ A r);have h0:=hv.below hB0;generalize hW:w.alloc (aH (fQ A r) 44)=W at *;have hSt:dF dA 50 #[iK A r,ah aA n] W fun e w'=>∃ s,e=aK (.tuple #[s,aF (gu r n)])/\Below W.heap.size W w':=(aa1 A r n W h0).mono (fun e w' ⟨s,h1,_,h2⟩=>⟨s,h1,h2⟩)
 have HB0:aG (Below w.heap.size w W):=hB0;generalize gu r n=Q at *;obtain⟨ver,txt,got,dQ,wed,dV,dW,dU⟩:=r;obtain⟨ta,tc,ga,gc,sa,sc,ma,mc⟩:=A;have hw0:w.alloc (aH #[ah aA ver,aj ta txt.length tc,aj ga got.length gc,aj sa dQ.length sc,aF wed,aF dV,ah aA dW,aj ma dU.length mc] 44)=W:=hW;obtain⟨⟨c0,c1,c2,c3⟩,c4,c5,c6,c7⟩:=Bx.r8 hx;simp only[iK,fQ] at c0 c1 c2 c3 c4 c5 c6 c7 hSt;unfold iK fQ;clear hv h0 hx hW hB0;simp only
 go_enter Tryz.func51,Tryz.ntmps51
 go_wp2_with (go_at_call 50;refine hSt.mono ?_;rintro e w1 ⟨s1,rfl,hb1⟩;have HB1:aG (Below w.heap.size w w1):=(eU HB0.out hb1);clear hb1)
 go_ret
 exact⟨rfl,HB1.out⟩
theorem Xq:VD:=fun A r n w hv _=>H8 A r n w hv
theorem aG5 (A B:Ra) (r s:Rw) (T:TypeId) (w:aI):∃ W,(w.alloc (aH (fQ A r) T)).alloc (aH (fQ B s) 44)=W/\Bx W w.heap.size T (fQ A r)/\Bx W (w.heap.size+1) 44 (fQ B s)/\Below w.heap.size w W:=by
 refine⟨_,rfl,(Bx.new w _ _).alloc _, ?_,(dX w _).trans ((dX _ _).mono (dX w _).size)⟩;have:=Bx.new (w.alloc (aH (fQ A r) T)) 44 (fQ B s);simpa using this
theorem aa2 (A B:Ra) (r s:Rw) (w:aI) :
  dF dA 178 #[iK A r,iK B s] w fun e w'=>e=aK (aF (decide (s.ver<r.ver)))/\Below w.heap.size w w':=by
 have hB0:Below w.heap.size w ((w.alloc (aH (fQ A r) 44)).alloc (aH (fQ B s) 44)):=(dX w _).trans ((dX _ _).mono (dX w _).size);have hx:Bx ((w.alloc (aH (fQ A r) 44)).alloc (aH (fQ B s) 44)) w.heap.size 44 (fQ A r):=(Bx.new w _ _).alloc _
 have hy:Bx ((w.alloc (aH (fQ A r) 44)).alloc (aH (fQ B s) 44)) (w.heap.size+1) 44 (fQ B s):=by
  have:=Bx.new (w.alloc (aH (fQ A r) 44)) 44 (fQ B s);simpa using this
 have c0:=hx.at 0 (v:=ah aA r.ver) rfl;have d0:=hy.at 0 (v:=ah aA s.ver) rfl;have HB:=dP hB0;unfold iK;unfold fQ at *;clear hx hy hB0;by_cases h:s.ver<r.ver
 ·have HZ:aG (decide (s.ver<r.ver)=aB):=decide_eq_true h
  go_enter Tryz.func178,Tryz.ntmps178
  go_wp2;go_ret
  exact⟨dZ (by rw[HZ.out]),HB.out⟩
 ·have HZ:aG (decide (s.ver<r.ver)=aC):=decide_eq_false h
  go_enter Tryz.func178,Tryz.ntmps178
  go_wp2;go_ret
  exact⟨dZ (by rw[HZ.out]),HB.out⟩
end Go.Proofs.YtafimeakbdmkjaaGreat