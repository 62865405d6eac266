/-
  Texts in one.
-/
import Derived.Test.YtafimeakbdmkjaaGreatXaa
import Derived.Test.YtafimeakbdmkjaaGreatXau
import Derived.Test.YtafimeakbdmkjaaGreatXaq
import Derived.Test.YtafimeakbdmkjaaGreatXao
import Derived.Test.YtafimeakbdmkjaaGreatXaf
import Derived.Test.YtafimeakbdmkjaaGreatXaj
import Derived.Test.YtafimeakbdmkjaaGreatXam
import Derived.Test.YtafimeakbdmkjaaGreatXap
namespace Go.Proofs.YtafimeakbdmkjaaGreat
open Bool renaming false->aC,true->aB
open Go renaming Addr->dH,Calls->dF,Value->aJ,World->aI,maxLen->dD,wpQuiet_nil->dh
open Go.Ending renaming returned->aK
open Go.IntKind renaming i64->aA
open Go.Obj renaming cells->aH
open Go.Proofs.Tryz renaming prog->dA
open Go.RowKit renaming Hid->aG,intOf->dG
open Go.RowKit.Below renaming refl->dw
open Go.Value renaming bool->aF,int->ah,pointer->aO,slice->aj
open Go.World renaming cell?_of_block->bf
open List renaming all_eq_true->bJ,getD_eq_getElem?_getD->aS,getElem?_eq_getElem->aV,length_append->bD,length_set->bQ,mem_cons->bW,take_succ_eq_append_getElem->aQ
open Nat renaming le_refl->cO,le_trans->bZ,lt_succ_iff_lt_or_eq->aW,zero_le->cZ
open Option renaming none->ak,some->au
open Option.some renaming inj->bT
set_option linter.unusedVariables false
set_option linter.unusedSimpArgs false
open Go.RowKit Go.Sort
set_option maxRecDepth 100000
set_option maxHeartbeats 12800000
variable {cs:List Int} {k q:Nat}
theorem xP (n last:Int) (w:aI):dF dA 87 #[ah aA n,ah aA last] w fun e w'=>e=aK (aF (inB n 0 last))/\w'=w:=by
 by_cases h0:(0:Int)<=n
 ·have H:aG (inB n 0 last=decide (n<=last)):=by rw[aG,inB];simp[h0]
  go_enter Tryz.func87,Tryz.ntmps87
  go_wp2;go_ret
  exact⟨dZ (by rw[H.out]),rfl⟩
 ·have H:aG (inB n 0 last=aC):=by rw[aG,inB];simp[h0]
  go_enter Tryz.func87,Tryz.ntmps87
  go_wp2;go_ret
  exact⟨dZ (by rw[H.out]),rfl⟩
theorem rY (n:Int) (w:aI):dF dA 162 #[ah aA n] w fun e w'=>e=aK (aF (inB n 1 8))/\w'=w:=by
 by_cases h0:(1:Int)<=n
 ·have H:aG (inB n 1 8=decide (n<=8)):=by rw[aG,inB];simp[h0]
  go_enter Tryz.func162,Tryz.ntmps162
  go_wp2;go_ret
  exact⟨dZ (by rw[H.out]),rfl⟩
 ·have H:aG (inB n 1 8=aC):=by rw[aG,inB];simp[h0]
  go_enter Tryz.func162,Tryz.ntmps162
  go_wp2;go_ret
  exact⟨dZ (by rw[H.out]),rfl⟩
theorem DL (n q:Int) (w:aI):dF dA 128 #[ah aA n,ah aA q] w fun e w'=>e=aK (aF (uZ n q))/\w'=w:=by
 cases e0:inB n 1 8 with
 | false =>
  have H:aG (uZ n q=aC):=by rw[aG,uZ,e0];rfl
  go_enter Tryz.func128,Tryz.ntmps128
  go_wp2_with (first|(go_at_call 162;refine (rY _ _).mono ?_;rintro e w' ⟨rfl,rfl⟩)|(go_at_call 87;refine (xP _ _ _).mono ?_;rintro e w' ⟨rfl,rfl⟩))
  go_ret
  exact⟨dZ (by rw[H.out]),rfl⟩
 | true =>
  have H:aG (uZ n q=inB q 0 800000):=by rw[aG,uZ,e0];rfl
  go_enter Tryz.func128,Tryz.ntmps128
  go_wp2_with (first|(go_at_call 162;refine (rY _ _).mono ?_;rintro e w' ⟨rfl,rfl⟩)|(go_at_call 87;refine (xP _ _ _).mono ?_;rintro e w' ⟨rfl,rfl⟩))
  go_ret
  exact⟨dZ (by rw[H.out]),rfl⟩
theorem ad7 (n s i:Int) (hn:I64 n) (w:aI):dF dA 136 #[ah aA n,ah aA s,ah aA i] w fun e w'=>e=aK (ah aA (zG n s i))/\w'=w:=by
 unfold I64 at hn
 cases e0:inB n 1 8 with
 | false =>
  have HZ:aG (zG n s i=-1):=by rw[aG,zG,seqB,e0];rfl
  go_enter Tryz.func136,Tryz.ntmps136
  go_wp2_with (first|(go_at_call 162;refine (rY _ _).mono ?_;rintro e w' ⟨rfl,rfl⟩)|(go_at_call 87;refine (xP _ _ _).mono ?_;rintro e w' ⟨rfl,rfl⟩))
  go_ret
  exact⟨mJ (by rw[HZ.out]),rfl⟩
 | true =>
  have hk:=iZ.1 e0
  cases e1:inB s 0 (n-1) with
  | false =>
   have HZ:aG (zG n s i=-1):=by rw[aG,zG,seqB,e0,e1];rfl
   go_enter Tryz.func136,Tryz.ntmps136
   go_wp2_with (first|(go_at_call 162;refine (rY _ _).mono ?_;rintro e w' ⟨rfl,rfl⟩)|(go_at_call 87;refine (xP _ _ _).mono ?_;rintro e w' ⟨rfl,rfl⟩))
   go_ret
   exact⟨mJ (by rw[HZ.out]),rfl⟩
  | true =>
   have hs:=iZ.1 e1
   cases e2:inB i 0 100000 with
   | false =>
    have HZ:aG (zG n s i=-1):=by rw[aG,zG,seqB,e0,e1,e2];rfl
    go_enter Tryz.func136,Tryz.ntmps136
    go_wp2_with (first|(go_at_call 162;refine (rY _ _).mono ?_;rintro e w' ⟨rfl,rfl⟩)|(go_at_call 87;refine (xP _ _ _).mono ?_;rintro e w' ⟨rfl,rfl⟩))
    go_ret
    exact⟨mJ (by rw[HZ.out]),rfl⟩
   | true =>
    have hi:=iZ.1 e2;have HZ:aG (zG n s i=n*i+s):=by rw[aG,zG,seqB,e0,e1,e2];rfl
    have m0:0<=n*i:=Int.mul_nonneg (by omega) hi.1
    have m1:n*i<=8*100000:=Int.mul_le_mul hk.2 hi.2 hi.1 (by omega)
    generalize hm:n*i=m at *;go_enter Tryz.func136,Tryz.ntmps136
    go_wp2_with (first|(go_at_call 162;refine (rY _ _).mono ?_;rintro e w' ⟨rfl,rfl⟩)|(go_at_call 87;refine (xP _ _ _).mono ?_;rintro e w' ⟨rfl,rfl⟩))
    go_ret
    exact⟨mJ (by rw[HZ.out]),rfl⟩
theorem ad8 (n q:Int) (w:aI):dF dA 91 #[ah aA n,ah aA q] w fun e w'=>e=aK (ah aA (GZ n q))/\w'=w:=by
 cases e0:uZ n q with
 | false =>
  have HZ:aG (GZ n q=-1):=by rw[aG,GZ,e0];rfl
  go_enter Tryz.func91,Tryz.ntmps91
  go_wp2_with (go_at_call 128;refine (DL _ _ _).mono ?_;rintro e w' ⟨rfl,rfl⟩)
  go_ret
  exact⟨mJ (by rw[HZ.out]),rfl⟩
 | true =>
  have hk:=Em.1 e0;have HZ:aG (GZ n q=q%n):=by rw[aG,GZ,e0];rfl
  have hne:(n==0)=aC:=by simp;omega
  have ht:q.tmod n=q%n:=Int.tmod_eq_emod_of_nonneg hk.2.1;have b0:0<=q%n:=Int.emod_nonneg _ (by omega)
  have b1:q%n<n:=Int.emod_lt_of_pos _ (by omega)
  go_enter Tryz.func91,Tryz.ntmps91
  go_wp2_with (go_at_call 128;refine (DL _ _ _).mono ?_;rintro e w' ⟨rfl,rfl⟩)
  go_ret
  exact⟨mJ (by rw[HZ.out]),rfl⟩
theorem ad9 (n q:Int) (w:aI):dF dA 92 #[ah aA n,ah aA q] w fun e w'=>e=aK (ah aA (G6 n q))/\w'=w:=by
 cases e0:uZ n q with
 | false =>
  have HZ:aG (G6 n q=-1):=by rw[aG,G6,e0];rfl
  go_enter Tryz.func92,Tryz.ntmps92
  go_wp2_with (go_at_call 128;refine (DL _ _ _).mono ?_;rintro e w' ⟨rfl,rfl⟩)
  go_ret
  exact⟨mJ (by rw[HZ.out]),rfl⟩
 | true =>
  have hk:=Em.1 e0;have HZ:aG (G6 n q=q/n):=by rw[aG,G6,e0];rfl
  have hne:(n==0)=aC:=by simp;omega
  have ht:q.tdiv n=q/n:=Int.tdiv_eq_ediv_of_nonneg hk.2.1;have b0:0<=q/n:=Int.ediv_nonneg hk.2.1 (by omega)
  have b1:q/n<=q:=Int.ediv_le_self n hk.2.1;go_enter Tryz.func92,Tryz.ntmps92
  go_wp2_with (go_at_call 128;refine (DL _ _ _).mono ?_;rintro e w' ⟨rfl,rfl⟩)
  go_ret
  exact⟨mJ (by rw[HZ.out]),rfl⟩
def gr (cs:List Int):Int:=hiL (el cs 0) cs.tail
theorem aA7 {x m: Int}:∀ {xs:List Int},hiL x xs<=m↔x<=m/\∀ y∈xs,y<=m:=by
 intro xs
 induction xs generalizing x with
 | nil=>simp[hiL]
 | cons y ys ih =>
  show hiL (max x y) ys<=m↔_
  rw[ih];simp only[bW]
  constructor
  ·rintro⟨h1,h2⟩
   exact⟨by omega,fun z hz=>by rcases hz with rfl|hz;omega;exact h2 z hz⟩
  ·rintro⟨h1,h2⟩
   exact⟨by have:=h2 y (.inl rfl);omega,fun z hz=>h2 z (.inr hz)⟩
theorem Np {m: Int} (h1:1<=cs.length):gr cs<=m↔∀ i,i<cs.length->el cs i<=m:=by
 cases cs with
 | nil=>simp at h1
 | cons c ds =>
  have e:gr (c::ds)=hiL c ds:=rfl;rw[e,aA7]
  constructor
  ·rintro⟨a,b⟩ i hi
   rw[qX hi];have:=List.getElem_mem hi;rcases bW.1 this with h|h
   ·rw[h];exact a
   ·exact b _ h
  ·intro h
   refine⟨h 0 (by simp),fun y hy=>?_⟩
   obtain⟨i,hi,rfl⟩:=List.getElem_of_mem hy;have:=h (i+1) (by simp;omega)
   rw[qX (by simp;omega)] at this
   simpa using this
theorem aj2 {i: Nat} (hi:i<cs.length):el cs i<=gr cs:=(Np (by omega)).1 (Int.le_refl _) i hi
theorem aq3 (h:okB cs=aB):rZ cs=decide (gr cs<=100000):=by
 have h1:=(mM h).1;rw[Bool.eq_iff_iff,decide_eq_true_eq,Np h1];exact⟨fun k=>fun i hi=>((xK k).2 i hi).2,fun k=>am0 h k⟩
theorem MZ (a:Option dH) (len cap:Nat) (cs:List Int) (w:aI) (hv:Vec w a len cs) (hcap:len<=cap) (hm:cap<=dD) :
  dF dA 101 #[aj a len cap] w fun e w'=>e=aK (aF (rZ cs))/\∃ n,w'=w.drewN n:=by
 have hV:=Uc a len cap cs w hv hcap hm
 cases hb:okB cs with
 | false =>
  rw[hb] at hV;have HZ:aG (rZ cs=aC):=by rw[aG,rZ,hb];rfl
  clear hb;go_enter Tryz.func101,Tryz.ntmps101
  go_wp2_with (go_at_call 132;refine hV.mono ?_;rintro e w' ⟨rfl,n1,rfl⟩)
  go_ret
  exact⟨dZ (by rw[HZ.out]),_,rfl⟩
 | true =>
  rw[hb] at hV;have HZ:=dP (aq3 hb);have h18:=mM hb;clear hb;obtain⟨hlen,hf,hcs⟩:=hv
  have hG:aG (∀ n,dF dA 131 #[aj a len cap] (w.drewN n) fun e w'=>e=aK (ah aA (gr cs))/\∃ m,w'=(w.drewN n).drewN m):=by
   intro n;rcases hcs with h0|⟨b,off,rfl,hc⟩
   ·omega
   ·exact rJ b off len cap cs _ hlen hf (fun k hk=>by rw[World.cell?_drewN];exact hc k hk) (by omega) hcap hm
  have HL:=dP hlen;clear hlen hcs hf h18;generalize gr cs=G at *;go_enter Tryz.func101,Tryz.ntmps101
  go_wp2_with (first|(go_at_call 132;refine hV.mono ?_;rintro e w' ⟨rfl,n1,rfl⟩)|(go_at_call 131;refine (hG.out _).mono ?_;rintro e w' ⟨rfl,n2,rfl⟩))
  go_ret
  exact⟨dZ (by rw[HZ.out]),_,rfl⟩
section
theorem aq4 {n: Nat} (hn:1<=n/\n<=5) (hq:q<=60):GZ (n:Int) (q:Int)=((q%n:Nat):Int)/\G6 (n:Int) (q:Int)=((q/n:Nat):Int):=by
 have ht:uZ (n:Int) (q:Int)=aB:=Em.2 (by omega)
 unfold GZ G6;rw[ht];exact⟨by simp,by simp⟩
attribute [local irreducible] sv
end
structure OkW (m:Mb) (i n:Nat):Prop where
 hid:m.id=(i:Int)
 n5:1<=n/\n<=5
 lt:i<n
 len:m.rows.length=n
 ok:∀ k,k<n->iR (dO m.rows k) n
 fit:nG m
theorem iO.XR {m: Mb} {i n: Nat} (h:iO m i n):OkW m i n:=⟨h.hid,h.n5,h.lt,h.len,h.ok,h.fit⟩
theorem aq5 (w0:aI) (B:Nat) (m:Mb) (i n q:Nat) (fp:Fp) (g off c:Nat) (X:aI) (M:Iw w0 X B m fp g off c) (ok:OkW m i n) (hq:q<=60) :
  dF dA 174 #[aO (au ⟨B,0,ak⟩),ah aA (q:Int)] X fun e w'=>e=aK (aF (oQ m.rows n q))/\Below X.heap.size X w':=by
 have jq:=ok.n5;have c1:=M.rws;rw[ok.len] at c1;have hC:=zA B (au ⟨g,off,ak⟩) n c X c1;obtain⟨e1,e2⟩:=aq4 jq hq;have hS:=ad8 (n:Int) (q:Int) X;have hI:=ad9 (n:Int) (q:Int) X;rw[e1] at hS;rw[e2] at hI;obtain⟨z,hz⟩:∃ z:Nat,aG (q%n=z):=⟨_,rfl⟩;obtain⟨y,hy⟩:∃ y:Nat,aG (q/n=y):=⟨_,rfl⟩;have hzn:z<n:=by rw[<- hz.out];exact Nat.mod_lt _ (by omega)
 rw[hz.out] at hS;rw[hy.out] at hI;have HM:=dP M;have HLn:=dP ok.len;have iE:=dP ok.ok;have Eb:=dP ok.fit;clear e1 e2 M;go_enter Tryz.func174,Tryz.ntmps174
 go_wp2_with (first|(go_at_call 166;refine fV hC ?_)|(go_at_call 91;refine fV hS ?_)|(go_at_call 92;refine fV hI ?_))
 clear hC hS hI c1
 go_loopw [22] (fun v wr=>∃ k:Nat,k<=n/\v=ah aA (k:Int)/\(∀ j,j<k->(y:Int)<el (dO m.rows j).got z)/\Below X.heap.size X wr) (fun v _=>n-(dG v).toNat)
 case atStart=>exact⟨0,cZ _,rfl,fun j hj=>by omega,dw _ _⟩
 case round =>
  obtain⟨k,hk,rfl,hall,hb⟩:=hrel;have HA:=dP hall;have HB:=dP hb;clear hall;by_cases hlt:k<n
  ·have hkl:k<m.rows.length:=by rw[HLn.out];exact hlt
   obtain⟨Ak,⟨⟨d0,d1,d2,d3⟩,d4,d5,d6,d7⟩,hrs⟩:=(HM.out.step hb).row Eb.out hkl;have hgl:=(iE.out k hlt).gl;have k0:(0:Int)<=k:=by omega
   have k1:(k:Int)<n:=by omega
   have kP:aG (¬ ((y:Int)<el (dO m.rows k).got z)->oQ m.rows n q=aC):=fun h=>OJ hkl (by rw[hy.out,hz.out];exact h)
   have HY:aG ((y:Int)<el (dO m.rows k).got z->∀ j,j<k+1->(y:Int)<el (dO m.rows j).got z):=fun h1 j hj=>by
    rcases aW.1 hj with h|h
    ·exact HA.out j h
    ·rw[h];exact h1
   generalize dO m.rows k=r at *;have hba:=dX wr (aH #[ah aA r.ver,aj Ak.ta r.txt.length Ak.tc,aj Ak.ga r.got.length Ak.gc,aj Ak.sa r.dQ.length Ak.sc,aF r.wed,aF r.dV,ah aA r.dW,aj Ak.ma r.dU.length Ak.mc] 44);have hxr:=Bx.new wr 44 #[ah aA r.ver,aj Ak.ta r.txt.length Ak.tc,aj Ak.ga r.got.length Ak.gc,aj Ak.sa r.dQ.length Ak.sc,aF r.wed,aF r.dV,ah aA r.dW,aj Ak.ma r.dU.length Ak.mc];have mZ:=dP (eU HB.out hba);rcases (hrs.got.below hba (cO _)).2.2 with h0|⟨gb,go,hga,hgc⟩
   ·omega
   have hge:=hgc z (by omega)
   have z0:(0:Int)<=z:=by omega
   have z1:(z:Int)<r.got.length:=by omega
   have qK:=dP hxr;have Qc:=dP hga;clear hrs hb hgc hba hxr hga hgl;generalize hxe:el r.got z=x at *;go_upto_region 5 with fail
   generalize wr.alloc (aH #[ah aA r.ver,aj Ak.ta r.txt.length Ak.tc,aj Ak.ga r.got.length Ak.gc,aj Ak.sa r.dQ.length Ak.sc,aF r.wed,aF r.dV,ah aA r.dW,aj Ak.ma r.dU.length Ak.mc] 44)=W5 at *;clear d0 d1 d2 d3 d4 d5 d6 d7;have x2:=qK.out.at 2 (v:=aj Ak.ga r.got.length Ak.gc) rfl;rw[Qc.out] at x2;by_cases hxy:(y:Int)<x
   ·have e2:¬ (x<=(y:Int)):=by omega
    have e3:=decide_eq_false e2;have HN:=dP (HY.out hxy);clear HY kP hxy;go_wp2;go_roundw
    case rel=>exact⟨k+1,by omega,by go_num,HN.out,mZ.out⟩
    case measure=>simp[dG];omega
   ·have e2:x<=(y:Int):=by omega
    have e3:=decide_eq_true e2;have HN:=dP (kP.out hxy);clear HY kP hxy;go_wp2;go_ret
    exact⟨dZ (by rw[HN.out]),mZ.out⟩
  ·have k1:¬ ((k:Int)<n):=by omega
   obtain rfl:k=n:=by omega
   have HN:aG (oQ m.rows k q=aB):=Lu (fun j hj=>by rw[hy.out,hz.out];exact HA.out j (by rw[<- HLn.out];exact hj))
   clear hb;go_wp2;go_ret
   exact⟨dZ (by rw[HN.out]),HB.out⟩
theorem ae0 {m: Mb} {i n: Nat} (ok:OkW m i n) (h:oQ m.rows n q=aB):q<60:=by
 have h5:=ok.n5;have h0:=ok.ok 0 (by omega)
 have hl:=ok.len;rw[oQ,bJ] at h;have:=h _ (List.mem_of_getElem? (iV (R:=m.rows) (k:=0) (by omega)))
 simp only[decide_eq_true_eq] at this;have hm:q%n<n:=Nat.mod_lt _ (by omega)
 have hg:=(jF h0.n5 h0.gl).1 ⟨h0.got,h0.g12⟩ (q%n) hm;have hq:q/n<12:=by omega
 have hd:=Nat.div_add_mod q n;have h1:n*(q/n)<=n*11:=Nat.mul_le_mul_left n (by omega)
 omega
theorem aq6 (w0:aI) (B:Nat) (m:Mb) (i n:Nat) (fp:Fp) (g off c:Nat) (X:aI) (M:Iw w0 X B m fp g off c) (ok:OkW m i n) (hsl:m.dR.length<=60) :
  dF dA 146 #[aO (au ⟨B,0,ak⟩)] X fun e w'=>e=aK (.tuple #[])/\Iw w0 w' B { m with dR:=lF m.rows n (60-m.dR.length) m.dR } fp g off c:=by
 have gq:=iD;have kQ:=dP M;have iE:=dP ok;clear M;go_enter Tryz.func146,Tryz.ntmps146
 go_wp2_with fail
 go_loopg [] 61 (fun gk wr=>∃ s:List Int,s.length<=60/\60-s.length<gk/\Fits s/\aG (lF m.rows n (60-m.dR.length) m.dR=lF m.rows n (60-s.length) s)/\Iw w0 wr B { m with dR:=s } fp g off c)
 case atStart=>exact⟨m.dR,hsl,by omega,iE.out.fit.2,rfl,kQ.out⟩
 case round =>
  obtain⟨s,N7,hgk,hfs,hS,M⟩:=hrel;have BJ:OkW { m with dR:=s } i n:=⟨iE.out.hid,iE.out.n5,iE.out.lt,iE.out.len,iE.out.ok,iE.out.fit.1,hfs⟩
  obtain⟨sa,sc,⟨c0,c1,c2,c3⟩,hms⟩:=M.box BJ.fit;simp only at c0 c1 c2 c3
  have HM:=dP M;have FD:∀ q:Bk wr,dF dA 174 #[aO (au ⟨B,0,ak⟩),ah aA (s.length:Int)] q.w fun e w'=>e=aK (aF (oQ m.rows n s.length))/\Below q.w.heap.size q.w w':=fun q=>aq5 w0 B { m with dR:=s } i n s.length fp g off c q.w (HM.out.step q.h) BJ N7
  have y2:∀ q:Bk wr,q.w.cell? ⟨B,2,ak⟩=au (aj sa s.length sc):=fun q=>gy q.h c2
  have HLt:aG (oQ m.rows n s.length=aB->s.length<60):=fun h=>ae0 iE.out h
  clear M hms c0 c1 c2 c3
  cases hsg:oQ m.rows n s.length with
  | false =>
   have HE:aG (lF m.rows n (60-m.dR.length) m.dR=s):=by
    rw[aG,hS.out]
    cases 60-s.length with
    | zero=>rfl
    | succ f=>rw[lF,if_neg (by rw[hsg];decide)]
   rw[hsg] at FD;clear hsg;go_wp2_with fail
   refine jg ?_;repeat (go_big_quiet_step ((first|(go_at_call 174;exact eY _ (FD _))|rfl)))
   refine dh (iL fun wE eG=>?_)
   have OL:=dP (HM.out.step eG);clear FD y2 eG;go_wp2
   first|go_end0|go_ret
   exact⟨rfl,by rw[HE.out];exact OL.out⟩
  | true =>
   have aO4:=HLt.out hsg
   have HE:aG (lF m.rows n (60-m.dR.length) m.dR=lF m.rows n (60-(s++[(s.length:Int)]).length) (s++[(s.length:Int)])):=by
    rw[aG,hS.out,bD,show 60-s.length=(60-(s.length+1))+1 by omega,lF,if_pos hsg]
    rfl
   rw[hsg] at FD;clear hsg HLt;go_upto_region 0 with fail
   refine jg ?_;repeat (go_big_quiet_step ((first|(go_at_call 174;exact eY _ (FD _))|rfl)))
   refine dh (iL fun wE eG=>?_)
   have M1:=HM.out.step eG;obtain⟨u,f,hu,hz,how,hlt,hset⟩:=M1.KX (j:=2) rfl (by decide)
   have hu2:=y2 ⟨wE,eG⟩;simp only at hu2
   obtain rfl:=bT (hu.symm.trans hu2);obtain⟨sa',sc',es,hA⟩:=nP (s.length:Int) how (bZ N7 (by decide))
   cases es
   have hbd:=(Same.drewN wE 1).below;have KS:∀ Z,Below wE.heap.size wE Z->Z.cell? ⟨B,2,ak⟩=au (aj sa s.length sc):=fun Z hZ=>gy hZ hu2
   have hba:=dX wE (aH #[ah aA (s.length:Int)] 2);have Ku:=dP hset;clear FD y2 hset hu hz hlt M1 how eG;go_upto_region 1 with fail
   refine lU (S:=fun Z:aI=>Z.cell? ⟨B,2,ak⟩=au (aj sa s.length sc)) 14 gq ((KS _ hbd)) fun hHeld=>?_
   refine fC (i:=0) rfl hHeld ?_;refine fC (i:=1) rfl hHeld ?_;refine fC (i:=2) rfl hHeld ?_;refine fC (i:=3) rfl hHeld ?_;refine fC (i:=4) rfl hHeld ?_;refine fC (i:=5) rfl hHeld ?_;refine fC (i:=6) rfl hHeld ?_;refine fC (i:=7) rfl hHeld ?_;refine fC (i:=8) rfl hHeld ?_;refine fC (i:=9) rfl hHeld ?_;refine iJ (i:=10) rfl fun K hK=>?_
   go_simp;refine hK.out _ _ (KS _ (hbd.trans ((dX wE.drew (aH #[ah aA (s.length:Int)] 2)).mono hbd.size))) (fun eP=>?_)
   clear hK hHeld;have hHeld:=eP;try simp only[iC]
   refine iJ (i:=11) rfl fun K hK=>?_
   refine jH (by rfl) _ _ _ _ (by rfl) (aj sa s.length sc) _ (by rfl) (by rfl) hA ⟨rfl,rfl,rfl,rfl⟩ ?_
   rintro v9 w1 ⟨a1,e1,f1,rfl,k1,k2,k3⟩;obtain⟨q1,q2,M2⟩:=Ku.out w1 (gJ (s++[(s.length:Int)])) (aj a1 (s.length+1) e1) f1 { m with dR:=s++[(s.length:Int)] } rfl rfl k3 k1 k2
   have jk:=dP M2;refine hK.out _ _ q1 (fun eP=>?_)
   clear hK hHeld;have hHeld:=eP;try simp only[iC]
   refine iJ (i:=12) rfl fun K hK=>?_
   go_simp;refine hK.out _ _ q1 (fun eP=>?_)
   clear hK hHeld;have hHeld:=eP;try simp only[iC]
   refine iJ (i:=13) rfl fun K hK=>?_
   go_simp;refine hK.out _ _ q1 (fun eP=>?_)
   clear hK hHeld;have hHeld:=eP;try simp only[iC]
   refine oV rfl fun K hK=>?_
   go_simp;refine hK.out _ _ ?_;clear hHeld hK M2 k1 k2 k3 hA Ku q1 q2 KS hbd hba hu2;generalize w1.setCell ⟨B,2,ak⟩ (aj a1 (s.length+1) e1)=W9 at *;go_wp2
   go_roundg (60-s.length)
   case measure=>omega
   case rel => exact ⟨s ++ [(s.length : Int)],by simp;omega,by simp;omega,fun x hx => by
    rcases List.mem_append.1 hx with h|h
    ·exact hfs x h
    ·rw[List.mem_singleton.1 h];omega,HE.out,jk.out⟩
theorem Iw.aL5 {w X: aI} {B: Nat} {m: Mb} {fp: Fp} {g off c: Nat} (h:Iw w X B m fp g off c) {i J: Nat} (hi:i<m.rows.length) (hJ:J<m.rows.length) (hne:J≠i) (hfit:qo (dO m.rows J)):∃ (f:Fp) (A:Ra),iP X g (off+i*8) (jo (dO m.rows i)) f/\B≠g/\¬ f B/\RV X g (off+J*8) A (dO m.rows J)/\(∀ b o,A.sa=au ⟨b,o,ak⟩->(dO m.rows J).dQ≠[]->¬ f b/\b≠g)/\∀ (X1 Y:aI) (r:Rw),Below X.heap.size X X1->fH X1 Y g (off+i*8) (jo r) f->Iw w Y B { m with rows:=m.rows.set i r } fp g off c:=by
 obtain⟨gU,hp,hf1,hgo⟩:=h.iw.next;obtain⟨g',off',c',f,f2,vs2,h1,hgB,hfs,hpl,hpv,hdis,hvl,hput⟩:=hp.elO (F:=jo) jU (by omega) (j:=1) (L:=m.rows) rfl (iV hi) (iV hJ) hne
 have e:=bT (h1.symm.trans h.rws)
 cases e
 have hfB:¬ f B:=fun hb=>hp.nB (hfs B hb)
 obtain⟨A,rfl,hl⟩:=wP hpv.own;refine⟨f,A,hpl,fun e=>hgB e.symm,hfB,hpv.rv rfl hfit,fun b o e hn=>?_,fun X1 Y r hb hB=>?_⟩
 ·obtain⟨u1,vW,q1,g1,e1,o1,l2,d1,i1⟩:=hl
  cases e1
  obtain⟨u2,wY,q2,g2,e2,o2,l3,d2,i2⟩:=l2
  cases e2
  obtain⟨u3,Es,q3,g3,e3,o3,l4,d3,i3⟩:=l3
  cases e3
  have hf2:∀ b,q3 b->f2 b:=fun b hb=>(i1 b).2 (.inr ((i2 b).2 (.inr ((i3 b).2 (.inl hb)))))
  have hlen:0<(dO m.rows J).dQ.length:=by
   rcases Nat.eq_zero_or_pos (dO m.rows J).dQ.length with h|h
   ·exact absurd (List.eq_nil_of_length_eq_zero h) hn
   ·exact h
  obtain⟨g1',Ry,c1',ee,hq,_⟩:=nR o3 hlen;rw[e] at ee
  cases ee
  exact⟨hdis _ (hf2 _ hq),fun e=>hpv.nB (e ▸ hf2 _ hq)⟩
 ·have hB1:=hB.first hb hpl.lt hpl.flt
  refine⟨hgo Y _ rfl (hput Y r hB1), ?_⟩;rw[bf (hB1.wrt.block B hp.lt (fun kk=>by rcases kk with kk|kk;exact hfB kk;exact hgB kk.symm)),h.rws]
  simp
theorem aq7 (w0:aI) (B:Nat) (m:Mb) (i n:Nat) (fp:Fp) (g off c:Nat) (X:aI) (M:Iw w0 X B m fp g off c) (ok:iO m i n) :
  dF dA 142 #[aO (au ⟨B,0,ak⟩)] X fun e w'=>e=aK (.tuple #[])/\Iw w0 w' B { m with rows:=m.rows.set i (learn m.rows i (dO m.rows i) (fA n (dO m.rows i).dQ)) } fp g off c:=by
 have hil:i<m.rows.length:=by rw[ok.len];exact ok.lt
 have hr:=ok.ok i ok.lt;have jq:=ok.n5;have hL:=Ko w0 B m i n fp g off c X M ok;have HM:=dP M;have HLn:aG (∀ k∈fA n (dO m.rows i).dQ,k<n):=fun k hk=>(jh.1 hk).1
 have Jd:=tK n (dO m.rows i).dQ;generalize Gf:fA n (dO m.rows i).dQ=L at *;clear Gf M;go_enter Tryz.func142,Tryz.ntmps142
 go_wp2_with fail
 refine hL.mono ?_;rintro e wl ⟨la,lc,rfl,fl,hl1,hl2,hl3⟩;obtain⟨jw,f1,f2,_,M5,f4⟩:=HM.out.sub hl3;have yJ:=dP f4;have iM:=dP M5;have yX:=dP hl1;have DV:aG (∀ b,fl b->¬ jw b/\b≠B):=fun b hb=>⟨fun k=>by have:=f1 b k;have:=hl2 b hb;omega,fun k=>by have:=hl2 b hb;omega⟩
 rw[jl] at yX ⊢;clear hl1 hl2 hl3 f1 f2 f4 M5 hL HM;go_wp2_with fail
 go_loopw [8] (fun v wr=>∃ (k:Nat) (ow:Rw),k<=L.length/\v=ah aA (k:Int)/\aG (ow=learn m.rows i (dO m.rows i) (L.take k))/\Iw wl wr B { m with rows:=m.rows.set i ow } jw g off c) (fun v _=>L.length-(dG v).toNat)
 case atStart =>
  refine⟨0,dO m.rows i,cZ _,rfl,rfl, ?_⟩
  have e:({ m with rows:=m.rows.set i (dO m.rows i) }:Mb)=m:=by
   have:=oP (iV hil);rw[this]
  rw[e];exact iM.out
 case round =>
  obtain⟨k,ow,hk,rfl,qR,M⟩:=hrel;have HM:=dP M;clear iM;by_cases hlt:k<L.length
  ·have BJ:iR ow n:=by rw[qR.out];exact ER ok.ok hr (fun x hx=>HLn.out x (List.mem_of_mem_take hx))
   have hfm:nG { m with rows:=m.rows.set i ow }:=OD ok BJ
   have qI:L.getD k 0<n:=HLn.out _ (lX hlt);have uG:L.getD k 0<({ m with rows:=m.rows.set i ow }:Mb).rows.length:=by rw[mO,ok.len];exact qI
   have tH:i<({ m with rows:=m.rows.set i ow }:Mb).rows.length:=by rw[mO];exact hil
   have RX:=M.RU yX.out DV.out;have rQ:=lW (by rw[jl];exact RX) (wo HLn.out (by omega))
   rcases rQ.2.2 with hz|⟨lb,lo,hla,hlc⟩
   ·rw[jl] at hz;omega
   have hlk:=hlc k (by rw[jl];exact hlt)
   rw[wQ hlt] at hlk;have Lr:aG (learn m.rows i (dO m.rows i) (L.take (k+1))=lM i ow (L.getD k 0) (dO m.rows (L.getD k 0))):=by rw[aG,Jb hlt,<- qR.out]
   have HRk:aG (L.getD k 0≠i->dO (m.rows.set i ow) (L.getD k 0)=dO m.rows (L.getD k 0)):=fun hne=>by rw[gY hil,if_neg hne]
   generalize L.getD k 0=J at *;have k1:(k:Int)<L.length:=by omega
   have k0:(0:Int)<=k:=by omega
   have J0:(0:Int)<=J:=by omega
   have J1:(J:Int)<m.rows.length:=by rw[ok.len];omega
   have hml:m.rows.length<=5:=by rw[ok.len];exact jq.2
   have nK:=M.rws;rw[mO] at nK;obtain⟨c0,_⟩:=M.id';simp only at c0
   rw[ok.hid] at c0
   have hokr:iR (dO (m.rows.set i ow) J) n:=by
    rw[gY hil]
    split
    ·exact BJ
    ·exact ok.ok J qI
   have hs2:dO (m.rows.set i ow) i=ow:=iY hil;by_cases AZ:J=i
   ·-- itself: nothing
    subst AZ;obtain⟨AJ,⟨⟨d0,d1,d2,d3⟩,d4,d5,d6,d7⟩,_⟩:=M.row hfm uG;simp only at d0 d1 d2 d3 d4 d5 d6 d7
    have HT:aG (ow=learn m.rows J (dO m.rows J) (L.take (k+1))):=by rw[aG,Lr.out,lM,if_pos (.inl rfl)]
    have e1:((J:Int) != (J:Int))=aC:=by simp
    generalize dO (m.rows.set J ow) J=r at *;have hba:=dX wr (aH #[ah aA r.ver,aj AJ.ta r.txt.length AJ.tc,aj AJ.ga r.got.length AJ.gc,aj AJ.sa r.dQ.length AJ.sc,aF r.wed,aF r.dV,ah aA r.dW,aj AJ.ma r.dU.length AJ.mc] 44);have OL:=dP (HM.out.step hba);have b0:=gy hba c0;rw[hla];have HLA:=dP hla;clear M RX rQ hlc hba hla hs2 hokr;go_upto_region 4 with fail
    generalize wr.alloc (aH #[ah aA r.ver,aj AJ.ta r.txt.length AJ.tc,aj AJ.ga r.got.length AJ.gc,aj AJ.sa r.dQ.length AJ.sc,aF r.wed,aF r.dV,ah aA r.dW,aj AJ.ma r.dU.length AJ.mc] 44)=W5 at *;clear d0 d1 d2 d3 d4 d5 d6 d7 nK c0 hlk;go_wp2;go_roundw
    case rel=>exact⟨k+1,ow,by omega,by go_num,HT,OL.out⟩
    case measure=>simp[dG];omega
   obtain⟨f,AJ,hpl,hBg,hfB,zS,hvb,hput⟩:=M.aL5 tH uG AZ hokr.fit;simp only at hpl zS hvb hput
   rw[hs2] at hpl;obtain⟨⟨⟨d0,d1,d2,d3⟩,d4,d5,d6,d7⟩,hrs⟩:=zS;have Je:=HRk.out AZ;have Wq:=dP Je;rw[<- Je] at Lr;generalize dO (m.rows.set i ow) J=r at *;have e1:((J:Int) != (i:Int))=aB:=by simp;omega
   have hba:=dX wr (aH #[ah aA r.ver,aj AJ.ta r.txt.length AJ.tc,aj AJ.ga r.got.length AJ.gc,aj AJ.sa r.dQ.length AJ.sc,aF r.wed,aF r.dV,ah aA r.dW,aj AJ.ma r.dU.length AJ.mc] 44);have hxr:=Bx.new wr 44 #[ah aA r.ver,aj AJ.ta r.txt.length AJ.tc,aj AJ.ga r.got.length AJ.gc,aj AJ.sa r.dQ.length AJ.sc,aF r.wed,aF r.dV,ah aA r.dW,aj AJ.ma r.dU.length AJ.mc];have mZ:=dP hba;have qK:=dP hxr;have b0:=gy hba c0;have b1:=gy hba nK;have hWd:=Tt B i m.rows.length g off c n ow f r.dQ AJ.sa AJ.sc _ (hpl.below hba) hBg hfB b0 b1 hil (hrs.dQ.below hba (cO _)) hvb BJ hokr.dQ (by have:=hokr.sl;have:=hokr.n5;omega)
   have Qg : dF dA 169 #[aO (au ⟨B,0,ak⟩),aj AJ.sa r.dQ.length AJ.sc] (wr.alloc (aH #[ah aA r.ver,aj AJ.ta r.txt.length AJ.tc,aj AJ.ga r.got.length AJ.gc,aj AJ.sa r.dQ.length AJ.sc,aF r.wed,aF r.dV,ah aA r.dW,aj AJ.ma r.dU.length AJ.mc] 44)) fun e w' => e = aK (.tuple #[]) /\ Iw wl w' B { m with rows := m.rows.set i { ow with wed := aB,dQ := kF i ow.dQ r.dQ } } jw g off c := hWd.mono (fun e w' h => ⟨h.1,by
    have:=hput _ w' _ hba h.2;simp only[List.set_set,lD,List.take_length] at this;exact this⟩)
   have OL:=dP (HM.out.step hba);rw[hla];have HLA:=dP hla;have RY:=dP AZ;clear M RX rQ hlc hba hxr hla hpl hput hvb hWd hrs hBg hfB hs2 Je;go_upto_region 4 with fail
   generalize wr.alloc (aH #[ah aA r.ver,aj AJ.ta r.txt.length AJ.tc,aj AJ.ga r.got.length AJ.gc,aj AJ.sa r.dQ.length AJ.sc,aF r.wed,aF r.dV,ah aA r.dW,aj AJ.ma r.dU.length AJ.mc] 44)=W5 at *;clear d0 d1 d2 d3 d4 d5 d6 d7 nK c0 hlk AZ;obtain⟨⟨x0,x1,x2,x3⟩,x4,x5,x6,x7⟩:=Bx.r8 qK.out;by_cases hws:r.wed=aC/\r.dQ=[]
   ·have HT:aG (ow=learn m.rows i (dO m.rows i) (L.take (k+1))):=by rw[aG,Lr.out,lM,if_pos (.inr hws)]
    rw[hws.1] at x4;have e3:¬ ((0:Int)<r.dQ.length):=by rw[hws.2];simp
    clear hws;go_wp2;go_roundw
    case rel=>exact⟨k+1,ow,by omega,by go_num,HT,OL.out⟩
    case measure=>simp[dG];omega
   have HT:aG ({ ow with wed:=aB,dQ:=kF i ow.dQ r.dQ }=learn m.rows i (dO m.rows i) (L.take (k+1))):=by rw[aG,Lr.out,lM,if_neg (by rintro (h|h);exact RY.out h;exact hws h)]
   cases hwd:r.wed with
   | true =>
    rw[hwd] at x4;clear hwd hws;go_wp2_with (go_at_call 169;refine Qg.mono ?_;rintro e w9 ⟨rfl,vY⟩;have jL:aG (Iw wl w9 B { m with rows:=m.rows.set i { ow with wed:=aB,dQ:=kF i ow.dQ r.dQ } } jw g off c):=vY;clear vY)
    go_roundw
    case rel=>exact⟨k+1,_,by omega,by go_num,HT,jL.out⟩
    case measure=>simp[dG];omega
   | false =>
    rw[hwd] at x4
    have e3:(0:Int)<r.dQ.length:=by
     have:r.dQ≠[]:=fun h=>hws ⟨hwd,h⟩
     have:r.dQ.length≠0:=fun h=>this (List.eq_nil_of_length_eq_zero h)
     omega
    clear hwd hws;go_wp2_with (go_at_call 169;refine Qg.mono ?_;rintro e w9 ⟨rfl,vY⟩;have jL:aG (Iw wl w9 B { m with rows:=m.rows.set i { ow with wed:=aB,dQ:=kF i ow.dQ r.dQ } } jw g off c):=vY;clear vY)
    go_roundw
    case rel=>exact⟨k+1,_,by omega,by go_num,HT,jL.out⟩
    case measure=>simp[dG];omega
  ·have k1:¬ ((k:Int)<L.length):=by omega
   have eo:ow=learn m.rows i (dO m.rows i) L:=by rw[qR.out,show k=L.length by omega,List.take_length]
   have HF:aG (Iw w0 wr B { m with rows:=m.rows.set i (learn m.rows i (dO m.rows i) L) } fp g off c):=by rw[aG,<- eo];exact yJ.out _ _ M
   clear M;go_wp2
   first|go_end0|go_ret
   exact⟨rfl,HF.out⟩
theorem aq8 (w0:aI) (B:Nat) (m:Mb) (i n:Nat) (fp:Fp) (g off c:Nat) (X:aI) (M:Iw w0 X B m fp g off c) (ok:OkW m i n) :
  dF dA 145 #[aO (au ⟨B,0,ak⟩)] X fun e w'=>e=aK (.tuple #[])/\Iw w0 w' B { m with rows:=m.rows.set i { dO m.rows i with got:=oI m.rows (dO m.rows i) n } } fp g off c:=by
 have gq:=iD;have hil:i<m.rows.length:=by rw[ok.len];exact ok.lt
 have jq:=ok.n5;have hr:=ok.ok i ok.lt;obtain⟨c0,_⟩:=M.id';have c1:=M.rws;rw[ok.hid] at c0;have qR:=nY B i m.rows.length g off c X c0 c1 hil;have kQ:=dP M;have HLn:=dP ok.len;have DX:=dP hr.gl;have aO5:=dP ok.ok;have Eb:=dP ok.fit;have hml:m.rows.length<=5:=by rw[ok.len];exact jq.2
 have Zt:aG (∀ k,nG ({ m with rows:=m.rows.set i { dO m.rows i with got:=jZ m.rows (dO m.rows i) n k } }:Mb)):=fun k=>by
  refine⟨fun x hx=>?_,ok.fit.2⟩
  rcases List.mem_or_eq_of_mem_set hx with h|h
  ·exact ok.fit.1 x h
  ·rw[h]
   refine⟨fun y hy=>?_,hr.fit.2⟩
   have hy':=hy;unfold jZ at hy';obtain⟨j,hj,rfl⟩:=List.mem_map.1 hy';have hjn:=List.mem_range.1 hj;have hg:=(jF hr.n5 hr.gl).1 ⟨hr.got,hr.g12⟩ j hjn;have ht:=(ok.ok j hjn).tl
   split
   ·omega
   ·omega
 clear M c0 c1;go_enter Tryz.func145,Tryz.ntmps145
 go_wp2_with fail
 refine qR.mono ?_;rintro e XA ⟨rfl,uh⟩;have M1:=kQ.out.step uh;obtain⟨u,f,hu,hz,how,_,_⟩:=M1.at hil (j:=2) rfl;have how':=how;have hgi:0<(dO m.rows i).got.length:=by rw[DX.out];omega
 obtain⟨gb,go,gc,rfl,_⟩:=nR how' hgi;have c1:=M1.rws
 have fU:aG (Iw w0 XA B ({ m with rows:=m.rows.set i { dO m.rows i with got:=jZ m.rows (dO m.rows i) n 0 } }:Mb) fp g off c):=by
  rw[aG,LP DX.out];have:=oP (iV hil)
  have e:({ m with rows:=m.rows.set i { dO m.rows i with got:=(dO m.rows i).got } }:Mb)=m:=by
   show ({ m with rows:=m.rows.set i (dO m.rows i) }:Mb)=m
   rw[this]
  rw[e];exact M1
 have wV:=dP hu;clear qR uh M1 hz how how' kQ;go_wp2_with fail
 clear hu c1;have HSL:aG (∀ k,dO (m.rows.set i { dO m.rows i with got:=jZ m.rows (dO m.rows i) n k }) i={ dO m.rows i with got:=jZ m.rows (dO m.rows i) n k }):=fun k=>iY hil
 go_loopw [15] (fun v wr=>∃ k:Nat,k<=m.rows.length/\v=ah aA (k:Int)/\Iw w0 wr B ({ m with rows:=m.rows.set i { dO m.rows i with got:=jZ m.rows (dO m.rows i) n k } }:Mb) fp g off c/\wr.cell? ⟨g,off+i*8+2,ak⟩=au (aj (au ⟨gb,go,ak⟩) (dO m.rows i).got.length gc)) (fun v _=>m.rows.length-(dG v).toNat)
 case atStart=>exact⟨0,cZ _,rfl,fU.out,wV.out⟩
 case round =>
  obtain⟨k,hk,rfl,M,hcg⟩:=hrel;have HM:=dP M;clear fU wV;by_cases hlt:k<m.rows.length
  ·have hkn:k<n:=by rw[<- HLn.out];exact hlt
   have hkl2:k<(({ m with rows:=m.rows.set i { dO m.rows i with got:=jZ m.rows (dO m.rows i) n k } }:Mb)).rows.length:=by rw[mO];exact hlt
   have tH:i<(({ m with rows:=m.rows.set i { dO m.rows i with got:=jZ m.rows (dO m.rows i) n k } }:Mb)).rows.length:=by rw[mO];exact hil
   obtain⟨Ak,⟨⟨d0,d1,d2,d3⟩,d4,d5,d6,d7⟩,hrs⟩:=M.row (Zt.out k) hkl2;simp only at d0 d1 d2 d3 d4 d5 d6 d7
   have Xa:aG ((dO (m.rows.set i { dO m.rows i with got:=jZ m.rows (dO m.rows i) n k }) k).txt.length=(dO m.rows k).txt.length):=by
    rw[aG,gY hil]
    split
    ·rename_i e;rw[e]
    ·rfl
   generalize hrk:dO (m.rows.set i { dO m.rows i with got:=jZ m.rows (dO m.rows i) n k }) k=r at *
   have k0:(0:Int)<=k:=by omega
   have k1:(k:Int)<m.rows.length:=by omega
   have hba:=dX wr (aH #[ah aA r.ver,aj Ak.ta r.txt.length Ak.tc,aj Ak.ga r.got.length Ak.gc,aj Ak.sa r.dQ.length Ak.sc,aF r.wed,aF r.dV,ah aA r.dW,aj Ak.ma r.dU.length Ak.mc] 44);have hxr:=Bx.new wr 44 #[ah aA r.ver,aj Ak.ta r.txt.length Ak.tc,aj Ak.ga r.got.length Ak.gc,aj Ak.sa r.dQ.length Ak.sc,aF r.wed,aF r.dV,ah aA r.dW,aj Ak.ma r.dU.length Ak.mc];have M5:=HM.out.step hba;have iM:=dP M5;have qK:=dP hxr;have HCg:aG ((wr.alloc (aH #[ah aA r.ver,aj Ak.ta r.txt.length Ak.tc,aj Ak.ga r.got.length Ak.gc,aj Ak.sa r.dQ.length Ak.sc,aF r.wed,aF r.dV,ah aA r.dW,aj Ak.ma r.dU.length Ak.mc] 44)).cell? ⟨g,off+i*8+2,ak⟩=au (aj (au ⟨gb,go,ak⟩) (dO m.rows i).got.length gc)):=gy hba hcg;have nK:=M.rws;clear M hrs hba hxr M5 hrk hcg;go_upto_region 4 with fail
   generalize wr.alloc (aH #[ah aA r.ver,aj Ak.ta r.txt.length Ak.tc,aj Ak.ga r.got.length Ak.gc,aj Ak.sa r.dQ.length Ak.sc,aF r.wed,aF r.dV,ah aA r.dW,aj Ak.ma r.dU.length Ak.mc] 44)=W5 at *;clear d0 d1 d2 d3 d4 d5 d6 d7 nK;have Gn:k<(jZ m.rows (dO m.rows i) n k).length:=by rw[rF];exact hkn
   obtain⟨u,f,hu,hz,how,_,_⟩:=iM.out.at tH (j:=2) (cl:=gJ (jZ m.rows (dO m.rows i) n k)) (by simp only[HSL.out];rfl)
   obtain rfl:=bT (hu.symm.trans HCg.out);obtain⟨gb',go',gc',e4,_,hge,_⟩:=nR how Gn;rw[rF,DX.out] at e4
   cases e4
   rw[SA hkn,if_neg (Nat.lt_irrefl _)] at hge;have x1:=qK.out.at 1 (v:=aj Ak.ta r.txt.length Ak.tc) rfl;have T:∀ {x v},W5.cell? x=au v->∀ q:Bk W5,q.w.cell? x=au v:=fun h q=>gy q.h h
   have y1:=T x1;have y2:=T hge;have l1:(k:Int)<((dO m.rows i).got.length:Int):=by rw[DX.out];omega
   have yV:aG ((jZ m.rows (dO m.rows i) n k).set k (max (el (dO m.rows i).got k) (r.txt.length:Int))=jZ m.rows (dO m.rows i) n (k+1)):=by
    rw[aG,Xa.out];exact LQ hkn
   clear T x1 hge hu hz how;generalize el (dO m.rows i).got k=x at *;refine gK (C:=fun w'=>∃ p:Bk W5,w'=p.w) 11 gq (by kernel_rfl) ⟨⟨W5.drewN 1,fO (dw _ _)⟩,rfl⟩ ?_
   simp only[List.take_succ_cons,List.take_zero]
   repeat (go_big_quiet_step ((first|rfl)))
   refine dh (iL fun wE eG=>?_)
   simp only[List.drop_succ_cons,List.drop_zero]
   have aA8:=gy eG HCg.out;obtain⟨u,f3,hu,hfz,how,hlt3,hset⟩:=(iM.out.step eG).at tH (j:=2) (cl:=gJ (jZ m.rows (dO m.rows i) n k)) (by simp only[HSL.out];rfl)
   obtain rfl:=bT (hu.symm.trans aA8);obtain⟨gb',go',gc',e4,Zp,hge,hgz,hgs⟩:=nR how Gn;rw[rF,DX.out] at e4
   cases e4
   have HFin:aG (∀ y,y=max x (r.txt.length:Int)->Iw w0 (wE.setCell ⟨gb,go+k,ak⟩ (ah aA y)) B ({ m with rows:=m.rows.set i { dO m.rows i with got:=jZ m.rows (dO m.rows i) n (k+1) } }:Mb) fp g off c/\(wE.setCell ⟨gb,go+k,ak⟩ (ah aA y)).cell? ⟨g,off+i*8+2,ak⟩=au (aj (au ⟨gb,go,ak⟩) (dO m.rows i).got.length gc)):=fun y hy=>by
    subst hy;obtain⟨q1,q2⟩:=hgs (max x (r.txt.length:Int));obtain⟨p1,_,_,p4⟩:=hset _ (gJ ((jZ m.rows (dO m.rows i) n k).set k (max x (r.txt.length:Int)))) _ f3 { dO m.rows i with got:=(jZ m.rows (dO m.rows i) n k).set k (max x (r.txt.length:Int)) } (by simp only[HSL.out];rfl) q2 q1 (fun b hb=>.inl hb)
    refine⟨?_,p1⟩;have:=p4 rfl;simp only[List.set_set] at this;rw[yV.out] at this;exact this
   clear hset hgs how Zp hlt3 y1 y2 hu hfz aA8;go_wp2;generalize hmx:max x (r.txt.length:Int)=mx at *;obtain⟨q1,q2⟩:=HFin.out mx rfl;have tN:aG _:=q1;have zO:aG _:=q2;go_roundw
   case rel=>exact⟨k+1,by omega,by go_num,tN.out,zO.out⟩
   case measure=>simp[dG];omega
  ·have k1:¬ ((k:Int)<m.rows.length):=by omega
   have HF:aG (Iw w0 wr B { m with rows:=m.rows.set i { dO m.rows i with got:=oI m.rows (dO m.rows i) n } } fp g off c):=by
    rw[aG,<- Pm,show n=k by rw[<- HLn.out];omega]
    have e:k=n:=by rw[<- HLn.out];omega
    subst e;exact M
   clear M hcg;go_wp2
   first|go_end0|go_ret
   exact⟨rfl,HF.out⟩
theorem JA (w:aI) (g o1 o2:Nat) (u v:aJ) (h:o1≠o2):(w.setCell ⟨g,o1,ak⟩ u).setCell ⟨g,o2,ak⟩ v=(w.setCell ⟨g,o2,ak⟩ v).setCell ⟨g,o1,ak⟩ u:=by
 unfold World.setCell;simp only[World.mk.injEq,and_true,true_and]
 refine Array.ext (by simp) (fun i h1 h2=>?_)
 simp only[Array.getElem_modify,Option.isSome_none,Bool.false_eq_true,if_false]
 by_cases e:g=i
 ·subst e
  simp only[if_true]
  cases w.heap[g]'(by simpa using h1) with
  | cells c t fz =>
   simp only
   rw[Array.setIfInBounds_comm _ _ h]
  | _=>rfl
 ·simp[e]
theorem Tv (w0:aI) (B:Nat) (m:Mb) (i n:Nat) (dW:Int) (fp:Fp) (g off c:Nat) (X:aI) (M:Iw w0 X B m fp g off c) (ok:OkW m i n) :
  dF dA 184 #[aO (au ⟨B,0,ak⟩),ah aA dW] X fun e w'=>e=aK (aF (!(dO m.rows i).dV||decide ((dO m.rows i).dW<dW)))/\Below X.heap.size X w':=by
 have hil:i<m.rows.length:=by rw[ok.len];exact ok.lt
 have rP:aG (∀ Y,Below X.heap.size X Y->dF dA 140 #[aO (au ⟨B,0,ak⟩)] Y fun e w'=>e=aK (aO (au ⟨g,off+i*8,ak⟩))/\Below Y.heap.size Y w'):=fun Y hY=>by
  have M1:=M.step hY;obtain⟨c0,_⟩:=M1.id';rw[ok.hid] at c0;exact nY B i m.rows.length g off c Y c0 M1.rws hil
 have HC:aG (∀ Y,Below X.heap.size X Y->Y.cell? ⟨g,off+i*8+5,ak⟩=au (aF (dO m.rows i).dV)/\Y.cell? ⟨g,off+i*8+6,ak⟩=au (ah aA (dO m.rows i).dW)):=fun Y hY=>by
  obtain⟨Ak,⟨⟨d0,d1,d2,d3⟩,d4,d5,d6,d7⟩,_⟩:=(M.step hY).row ok.fit hil;exact⟨d5,d6⟩
 have I7:=rP.out X (dw _ _);clear M;generalize dO m.rows i=r at *
 cases hrd:r.dV with
 | false =>
  go_enter Tryz.func184,Tryz.ntmps184
  go_wp2_with (go_at_call 140;refine I7.mono ?_;rintro e w1 ⟨rfl,hb1⟩;obtain⟨g5,g6⟩:=HC.out w1 hb1;rw[hrd] at g5;have HB1:aG (Below X.heap.size X w1):=hb1;clear hb1)
  go_ret
  exact⟨by simp,HB1.out⟩
 | true =>
  go_enter Tryz.func184,Tryz.ntmps184
  go_wp2_with fail
  refine I7.mono ?_;rintro e w1 ⟨rfl,hb1⟩;obtain⟨g5,g6⟩:=HC.out w1 hb1;rw[hrd] at g5;have HB1:=dP hb1;have hO2:=rP.out w1 hb1;clear hb1 I7;go_wp2_with fail
  refine hO2.mono ?_;rintro e w2 ⟨rfl,hb2⟩;have HB2:=dP (eU HB1.out hb2);clear g5 g6 hb2 hO2;obtain⟨g5,g6⟩:=HC.out w2 HB2.out;go_wp2;go_ret
  exact⟨by simp,HB2.out⟩
theorem Tz (w0:aI) (B:Nat) (m:Mb) (i n:Nat) (dW:Int) (T:List Int) (ta:Option dH) (tc:Nat) (fp:Fp) (g off c:Nat) (X:aI) (M:Iw w0 X B m fp g off c) (ok:OkW m i n) (hv:Vec X ta T.length T) (hT:T.length<=100) :
  dF dA 185 #[aO (au ⟨B,0,ak⟩),ah aA dW,aj ta T.length tc] X fun e w'=>e=aK (.tuple #[])/\Iw w0 w' B { m with rows:=m.rows.set i { dO m.rows i with dV:=aB,dW:=dW,dU:=T } } fp g off c:=by
 have hil:i<m.rows.length:=by rw[ok.len];exact ok.lt
 obtain⟨c0,_⟩:=M.id';rw[ok.hid] at c0;have qR:=nY B i m.rows.length g off c X c0 M.rws hil;have HM:=dP M;have HV:=dP hv;have sN:aG (T.length<=1000000):=bZ hT (by decide)
 clear M hv c0;go_enter Tryz.func185,Tryz.ntmps185
 go_wp2_with fail
 refine qR.mono ?_;rintro e XA ⟨rfl,uh⟩;have XT:=CV ta tc T XA (HV.out.below uh (cO _)) sN.out;have Ec:=dP (HM.out.step uh);clear qR uh;go_wp2_with fail
 refine XT.mono ?_;rintro e XB ⟨a1,e1,rfl,f1,o1,p1,b1⟩;have hlt1:=dY.kW o1;obtain⟨fx,hpl,hBg,hfB,UA,hgl,_⟩:=Ec.out.own hil
 -- Trim first,then Ready and By: one block's cells
 obtain⟨u,f,hu,hz,how,hlt,hset⟩:=Ec.out.at hil (j:=7) rfl;obtain⟨_,_,M7,_⟩:=hset XB (gJ T) (aj a1 T.length e1) f1 { dO m.rows i with dU:=T } rfl (eX.of_below b1) o1 (fun b hb=>.inr (p1 b hb))
 have hs7:dO (m.rows.set i { dO m.rows i with dU:=T }) i={ dO m.rows i with dU:=T }:=iY hil
 have UC:i<(m.rows.set i { dO m.rows i with dU:=T }).length:=by rw[bQ];exact hil
 obtain⟨_,_,M5⟩:=M7.put UC (j:=5) (x:=aF (dO m.rows i).dV) (y:=aF aB) (r':={ dO m.rows i with dU:=T,dV:=aB }) (by simp only[hs7];rfl) (by simp only[hs7];rfl)
 simp only[List.set_set] at M5;have hs5:dO (m.rows.set i { dO m.rows i with dU:=T,dV:=aB }) i={ dO m.rows i with dU:=T,dV:=aB }:=iY hil
 have aA9:i<(m.rows.set i { dO m.rows i with dU:=T,dV:=aB }).length:=by rw[bQ];exact hil
 obtain⟨_,_,M6⟩:=M5.put aA9 (j:=6) (x:=ah aA (dO m.rows i).dW) (y:=ah aA dW) (r':={ dO m.rows i with dV:=aB,dW:=dW,dU:=T }) (by simp only[hs5];rfl) (by simp only[hs5];rfl)
 simp only[List.set_set] at M6;rw[JA XB g (off+i*8+7) (off+i*8+5) _ _ (by omega),JA _ g (off+i*8+7) (off+i*8+6) _ _ (by omega)] at M6
 have jW:aG _:=M6;obtain⟨Ak,⟨⟨d0,d1,d2,d3⟩,d4,d5,d6,d7⟩,_⟩:=(Ec.out.step b1).row ok.fit hil;obtain⟨⟨j0,j1,j2,j3⟩,j4,j5,j6,j7⟩:=(Ec.out.step b1).free hil;clear M7 M5 M6 hset how hu hz hlt XT o1 p1 b1 hpl UA hlt1 hs7 hs5 UC aA9;go_wp2
 first|go_end0|go_ret
 exact⟨rfl,jW.out⟩
theorem MC {α: Type} {p: α->Bool} {L: List α} {d: α} (hk:k<L.length) (h:(L.take k).all p=aB) (h2:p (L.getD k d)=aB):(L.take (k+1)).all p=aB:=by
 rw[aS,aV hk,Option.getD_some] at h2;rw[aQ hk,List.all_append,h,Bool.true_and];simp[h2]
theorem TA {α: Type} {p: α->Bool} {L: List α} {d: α} (hk:k<L.length) (h2:p (L.getD k d)=aC):L.all p=aC:=by
 rw[aS,aV hk,Option.getD_some] at h2;exact List.all_eq_false.2 ⟨_,List.getElem_mem hk,by simp[h2]⟩
theorem aq9 (w0:aI) (B:Nat) (m:Mb) (i n:Nat) (fp:Fp) (g off c:Nat) (X:aI) (M:Iw w0 X B m fp g off c) (ok:OkW m i n) (L:List Nat) (la:Option dH) (lc:Nat) (hv:Vec X la (lN L).length (lN L)) (hLn:∀ k∈L,k<n) (Jd:L.length<=5) :
  dF dA 186 #[aO (au ⟨B,0,ak⟩),aj la L.length lc] X fun e w'=>e=aK (aF (kR m.rows (dO m.rows i) L))/\Below X.heap.size X w':=by
 have jq:=ok.n5;have HM:=dP M;have HLn:=dP ok.len;have hml:m.rows.length<=5:=by rw[ok.len];exact jq.2
 have iE:=dP ok.ok;have Eb:=dP ok.fit;have Qh:aG (i<m.rows.length):=by rw[aG,ok.len];exact ok.lt
 have HL:=dP hLn;have HV:=dP hv
 have rP:aG (∀ Y,Below X.heap.size X Y->dF dA 140 #[aO (au ⟨B,0,ak⟩)] Y fun e w'=>e=aK (aO (au ⟨g,off+i*8,ak⟩))/\Below Y.heap.size Y w'):=fun Y hY=>by
  have M1:=M.step hY;obtain⟨c0,_⟩:=M1.id';rw[ok.hid] at c0;exact nY B i m.rows.length g off c Y c0 M1.rws Qh.out
 clear M hv hLn;go_enter Tryz.func186,Tryz.ntmps186
 go_wp2_with fail
 go_loopw [10] (fun v wr=>∃ k:Nat,k<=L.length/\v=ah aA (k:Int)/\aG ((L.take k).all (fun k=>(dO m.rows k).wed&&(dO m.rows i).dQ.all (fun x=>decide (x∈(dO m.rows k).dQ)))=aB)/\Below X.heap.size X wr) (fun v _=>L.length-(dG v).toNat)
 case atStart=>exact⟨0,cZ _,rfl,rfl,dw _ _⟩
 case round =>
  obtain⟨k,hk,rfl,HA,hb⟩:=hrel;have HB:=dP hb;by_cases hlt:k<L.length
  ·have qI:L.getD k 0<n:=HL.out _ (lX hlt)
   have uG:L.getD k 0<m.rows.length:=by rw[HLn.out];exact qI
   rcases (HV.out.below hb (cO _)).2.2 with hz|⟨lb,lo,hla,hlc⟩
   ·rw[jl] at hz;omega
   have hlk:=hlc k (by rw[jl];exact hlt)
   rw[wQ hlt] at hlk;obtain⟨AJ,⟨⟨d0,d1,d2,d3⟩,d4,d5,d6,d7⟩,hrs⟩:=(HM.out.step hb).row Eb.out uG;have nK:=(HM.out.step hb).rws;have HT:aG (((dO m.rows (L.getD k 0)).wed&&(dO m.rows i).dQ.all (fun x=>decide (x∈(dO m.rows (L.getD k 0)).dQ)))=aB->(L.take (k+1)).all (fun k=>(dO m.rows k).wed&&(dO m.rows i).dQ.all (fun x=>decide (x∈(dO m.rows k).dQ)))=aB):=fun h=>MC (d:=0) hlt HA.out h
   have HF:aG (((dO m.rows (L.getD k 0)).wed&&(dO m.rows i).dQ.all (fun x=>decide (x∈(dO m.rows (L.getD k 0)).dQ)))=aC->kR m.rows (dO m.rows i) L=aC):=fun h=>TA (d:=0) hlt h
   have Ce:aG ((dO m.rows (L.getD k 0)).dQ.length<=dD):=by have h:=iE.out _ qI;have:=h.sl;have:=h.n5;unfold dD;rw[aG];omega
   have HSo:aG ((dO m.rows i).dQ.length<=dD):=by have h:=iE.out i (by rw[<- HLn.out];exact Qh.out);have:=h.sl;have:=h.n5;unfold dD;rw[aG];omega
   generalize L.getD k 0=J at *;have k1:(k:Int)<L.length:=by omega
   have k0:(0:Int)<=k:=by omega
   have J0:(0:Int)<=J:=by omega
   have J1:(J:Int)<m.rows.length:=by omega
   generalize dO m.rows J=r at *;have hba:=dX wr (aH #[ah aA r.ver,aj AJ.ta r.txt.length AJ.tc,aj AJ.ga r.got.length AJ.gc,aj AJ.sa r.dQ.length AJ.sc,aF r.wed,aF r.dV,ah aA r.dW,aj AJ.ma r.dU.length AJ.mc] 44);have hxr:=Bx.new wr 44 #[ah aA r.ver,aj AJ.ta r.txt.length AJ.tc,aj AJ.ga r.got.length AJ.gc,aj AJ.sa r.dQ.length AJ.sc,aF r.wed,aF r.dV,ah aA r.dW,aj AJ.ma r.dU.length AJ.mc];have mZ:=dP (eU HB.out hba);have qK:=dP hxr;have XU:=dP (hrs.dQ.below hba (cO _));rw[hla];have HLA:=dP hla;clear hrs hb hlc hba hxr hla;go_upto_region 5 with fail
   generalize wr.alloc (aH #[ah aA r.ver,aj AJ.ta r.txt.length AJ.tc,aj AJ.ga r.got.length AJ.gc,aj AJ.sa r.dQ.length AJ.sc,aF r.wed,aF r.dV,ah aA r.dW,aj AJ.ma r.dU.length AJ.mc] 44)=W5 at *;clear d0 d1 d2 d3 d4 d5 d6 d7 nK hlk;have T:∀ {x v},W5.cell? x=au v->∀ q:Bk W5,q.w.cell? x=au v:=fun h q=>gy q.h h
   have x4:=qK.out.at 4 (v:=aF r.wed) rfl;have p3:=T (qK.out.at 3 (v:=aj AJ.sa r.dQ.length AJ.sc) rfl);obtain⟨Ai,⟨⟨_,_,_,d3⟩,_⟩,yS⟩:=(HM.out.step mZ.out).row Eb.out Qh.out;have q3:=T d3;have CO:=fun q:Bk W5=>rP.out q.w (eU mZ.out q.h)
   have CA:=fun q:Bk W5=>(Z7 AJ.sa Ai.sa AJ.sc Ai.sc r.dQ (dO m.rows i).dQ q.w (XU.out.below q.h (cO _)) (yS.dQ.below q.h (cO _)) Ce.out HSo.out).mono (fun e w' h=>(⟨h.1,h.2 ▸ dw _ _⟩:e=aK (aF ((dO m.rows i).dQ.all (fun x=>decide (x∈r.dQ))))/\Below q.w.heap.size q.w w'))
   clear yS d3
   cases hwd:r.wed with
   | false =>
    rw[hwd] at x4;have p4:=T x4;have HN:aG (kR m.rows (dO m.rows i) L=aC):=HF.out (by rw[hwd];rfl)
    clear HT HF T x4 p3 q3 CO CA;go_wp2_with fail
    refine jg ?_;repeat (go_big_quiet_step ((first|rfl)))
    refine dh (iL fun wE eG=>?_)
    have HB1:=dP (eU mZ.out eG);clear eG p4;go_wp2;go_ret
    exact⟨by first|(rw[HN.out];done)|(have h:=HN.out;simp only[h];done)|simp[HN.out],HB1.out⟩
   | true =>
    rw[hwd] at x4;have p4:=T x4;rw[hwd] at HT HF
    cases hin:(dO m.rows i).dQ.all (fun x=>decide (x∈r.dQ)) with
    | true =>
     rw[hin] at CA;have HN:aG _:=HT.out (by rw[hin];rfl)
     clear HT HF T x4 hin hwd;go_wp2_with fail
     refine jg ?_;repeat (go_big_quiet_step ((first|(go_at_call 140;exact eY _ (CO _))|(go_at_call 192;exact eY _ (CA _))|rfl)))
     refine dh (iL fun wE eG=>?_)
     have HB1:=dP (eU mZ.out eG);clear eG p4 p3 q3 CO CA;go_wp2;go_roundw
     case rel=>exact⟨k+1,by omega,by go_num,HN,HB1.out⟩
     case measure=>simp[dG];omega
    | false =>
     rw[hin] at CA;have HN:aG (kR m.rows (dO m.rows i) L=aC):=HF.out (by rw[hin];rfl)
     clear HT HF T x4 hin hwd;go_wp2_with fail
     refine jg ?_;repeat (go_big_quiet_step ((first|(go_at_call 140;exact eY _ (CO _))|(go_at_call 192;exact eY _ (CA _))|rfl)))
     refine dh (iL fun wE eG=>?_)
     have HB1:=dP (eU mZ.out eG);clear eG p4 p3 q3 CO CA;go_wp2;go_ret
     exact⟨by first|(rw[HN.out];done)|(have h:=HN.out;simp only[h];done)|simp[HN.out],HB1.out⟩
  ·have k1:¬ ((k:Int)<L.length):=by omega
   have HN:aG (kR m.rows (dO m.rows i) L=aB):=by
    have:=HA.out;rw[show k=L.length by omega,List.take_length] at this
    exact this
   clear HA hb;go_wp2;go_ret
   exact⟨by first|(rw[HN.out];done)|(have h:=HN.out;simp only[h];done)|simp[HN.out],HB.out⟩
theorem ar0 (w0:aI) (B:Nat) (m:Mb) (i n:Nat) (fp:Fp) (g off c:Nat) (X:aI) (M:Iw w0 X B m fp g off c) (ok:OkW m i n) (L:List Nat) (la:Option dH) (lc:Nat) (hv:Vec X la (lN L).length (lN L)) (hLn:∀ k∈L,k<n) (Jd:L.length<=5) :
  dF dA 173 #[aO (au ⟨B,0,ak⟩),aj la L.length lc] X fun e w'=>e=aK (aF (ends m.rows i (dO m.rows i) L))/\Below X.heap.size X w':=by
 have jq:=ok.n5;have HM:=dP M;have HLn:=dP ok.len;have hml:m.rows.length<=5:=by rw[ok.len];exact jq.2
 have iE:=dP ok.ok;have Eb:=dP ok.fit;have HId:=dP ok.hid;have Qh:aG (i<m.rows.length):=by rw[aG,ok.len];exact ok.lt
 have HL:=dP hLn;have HV:=dP hv
 have rP:aG (∀ Y,Below X.heap.size X Y->dF dA 140 #[aO (au ⟨B,0,ak⟩)] Y fun e w'=>e=aK (aO (au ⟨g,off+i*8,ak⟩))/\Below Y.heap.size Y w'):=fun Y hY=>by
  have M1:=M.step hY;obtain⟨c0,_⟩:=M1.id';rw[ok.hid] at c0;exact nY B i m.rows.length g off c Y c0 M1.rws Qh.out
 have hO:=rP.out X (dw _ _);clear M hv hLn;go_enter Tryz.func173,Tryz.ntmps173
 go_wp2_with fail
 refine hO.mono ?_;rintro e XA ⟨rfl,uh⟩;have HXA:=dP uh;clear hO uh;go_wp2_with fail
 go_loopw [13] (fun v wr=>∃ k:Nat,k<=L.length/\v=ah aA (k:Int)/\aG ((L.take k).all (fun k=>(dO m.rows k).dV&&(decide ((dO m.rows k).dW=(dO m.rows i).dW)&&(decide ((dO m.rows k).dU=(dO m.rows i).dU)&&decide ((i:Int)∉(dO m.rows k).dQ))))=aB)/\Below X.heap.size X wr) (fun v _=>L.length-(dG v).toNat)
 case atStart=>exact⟨0,cZ _,rfl,rfl,HXA.out⟩
 case round =>
  obtain⟨k,hk,rfl,HA,hb⟩:=hrel;have HB:=dP hb;by_cases hlt:k<L.length
  ·have qI:L.getD k 0<n:=HL.out _ (lX hlt)
   have uG:L.getD k 0<m.rows.length:=by rw[HLn.out];exact qI
   rcases (HV.out.below hb (cO _)).2.2 with hz|⟨lb,lo,hla,hlc⟩
   ·rw[jl] at hz;omega
   have hlk:=hlc k (by rw[jl];exact hlt)
   rw[wQ hlt] at hlk;obtain⟨AJ,⟨⟨d0,d1,d2,d3⟩,d4,d5,d6,d7⟩,hrs⟩:=(HM.out.step hb).row Eb.out uG;have nK:=(HM.out.step hb).rws;have HT:aG (((dO m.rows (L.getD k 0)).dV&&(decide ((dO m.rows (L.getD k 0)).dW=(dO m.rows i).dW)&&(decide ((dO m.rows (L.getD k 0)).dU=(dO m.rows i).dU)&&decide ((i:Int)∉(dO m.rows (L.getD k 0)).dQ))))=aB->(L.take (k+1)).all (fun k=>(dO m.rows k).dV&&(decide ((dO m.rows k).dW=(dO m.rows i).dW)&&(decide ((dO m.rows k).dU=(dO m.rows i).dU)&&decide ((i:Int)∉(dO m.rows k).dQ))))=aB):=fun h=>MC (d:=0) hlt HA.out h
   have HF:aG (((dO m.rows (L.getD k 0)).dV&&(decide ((dO m.rows (L.getD k 0)).dW=(dO m.rows i).dW)&&(decide ((dO m.rows (L.getD k 0)).dU=(dO m.rows i).dU)&&decide ((i:Int)∉(dO m.rows (L.getD k 0)).dQ))))=aC->ends m.rows i (dO m.rows i) L=aC):=fun h=>TA (d:=0) hlt h
   have Ce:aG ((dO m.rows (L.getD k 0)).dQ.length<=dD):=by have h:=iE.out _ qI;have:=h.sl;have:=h.n5;unfold dD;rw[aG];omega
   have sN:aG ((dO m.rows (L.getD k 0)).dU.length<=dD):=by have h:=iE.out _ qI;have:=h.ml;have:=h.n5;unfold dD;rw[aG];omega
   have HSo:aG ((dO m.rows i).dQ.length<=dD):=by have h:=iE.out i (by rw[<- HLn.out];exact Qh.out);have:=h.sl;have:=h.n5;unfold dD;rw[aG];omega
   generalize L.getD k 0=J at *;have k1:(k:Int)<L.length:=by omega
   have k0:(0:Int)<=k:=by omega
   have J0:(0:Int)<=J:=by omega
   have J1:(J:Int)<m.rows.length:=by omega
   generalize dO m.rows J=r at *;have hba:=dX wr (aH #[ah aA r.ver,aj AJ.ta r.txt.length AJ.tc,aj AJ.ga r.got.length AJ.gc,aj AJ.sa r.dQ.length AJ.sc,aF r.wed,aF r.dV,ah aA r.dW,aj AJ.ma r.dU.length AJ.mc] 44);have hxr:=Bx.new wr 44 #[ah aA r.ver,aj AJ.ta r.txt.length AJ.tc,aj AJ.ga r.got.length AJ.gc,aj AJ.sa r.dQ.length AJ.sc,aF r.wed,aF r.dV,ah aA r.dW,aj AJ.ma r.dU.length AJ.mc];have mZ:=dP (eU HB.out hba);have qK:=dP hxr;have XU:=dP (hrs.dQ.below hba (cO _));have HTv:=dP (hrs.dU.below hba (cO _));rw[hla];have HLA:=dP hla;clear hrs hb hlc hba hxr hla;go_upto_region 6 with fail
   generalize wr.alloc (aH #[ah aA r.ver,aj AJ.ta r.txt.length AJ.tc,aj AJ.ga r.got.length AJ.gc,aj AJ.sa r.dQ.length AJ.sc,aF r.wed,aF r.dV,ah aA r.dW,aj AJ.ma r.dU.length AJ.mc] 44)=W5 at *;clear d0 d1 d2 d3 d4 d5 d6 d7 nK hlk;have T:∀ {x v},W5.cell? x=au v->∀ q:Bk W5,q.w.cell? x=au v:=fun h q=>gy q.h h
   have p5:=T (qK.out.at 5 (v:=aF r.dV) rfl);have p6:=T (qK.out.at 6 (v:=ah aA r.dW) rfl);have p7:=T (qK.out.at 7 (v:=aj AJ.ma r.dU.length AJ.mc) rfl);have p3:=T (qK.out.at 3 (v:=aj AJ.sa r.dQ.length AJ.sc) rfl);obtain⟨Ai,⟨⟨_,_,_,_⟩,_,_,d6,d7⟩,yS⟩:=(HM.out.step mZ.out).row Eb.out Qh.out;have q6:=T d6;have q7:=T d7;obtain⟨c0,_⟩:=(HM.out.step mZ.out).id';rw[HId.out] at c0;have p0:=T c0;have CE:=fun q:Bk W5=>(xX AJ.ma Ai.ma r.dU.length AJ.mc (dO m.rows i).dU.length Ai.mc r.dU (dO m.rows i).dU q.w (HTv.out.below q.h (cO _)) (yS.dU.below q.h (cO _)) sN.out).mono (fun e w' h=>(⟨h.1,by obtain⟨_,n1,rfl⟩:=h;exact fO (dw _ _)⟩:e=aK (aF (decide (r.dU=(dO m.rows i).dU)))/\Below q.w.heap.size q.w w'))
   have CC:=fun q:Bk W5=>(tZ AJ.sa AJ.sc r.dQ (i:Int) q.w (XU.out.below q.h (cO _)) Ce.out).mono (fun e w' h=>(⟨h.1,h.2 ▸ dw _ _⟩:e=aK (aF (decide ((i:Int)∈r.dQ)))/\Below q.w.heap.size q.w w'))
   clear yS d6 d7 c0 T
   cases hrd:r.dV with
   | false =>
    rw[hrd] at p5;have HN:aG (ends m.rows i (dO m.rows i) L=aC):=HF.out (by rw[hrd];rfl)
    clear HT HF hrd;go_wp2_with fail
    refine jg ?_;repeat (go_big_quiet_step ((first|rfl)))
    refine dh (iL fun wE eG=>?_)
    have HB1:=dP (eU mZ.out eG);clear eG p5 p6 p7 p3 q6 q7 p0 CE CC;go_wp2;go_ret
    exact⟨by first|(rw[HN.out];done)|(have h:=HN.out;simp only[h];done)|simp[HN.out],HB1.out⟩
   | true =>
    rw[hrd] at p5 HT HF;clear hrd;by_cases hby:r.dW=(dO m.rows i).dW;rotate_left
    ·have e1:(r.dW != (dO m.rows i).dW)=aB:=by simp[hby]
     have HN:aG (ends m.rows i (dO m.rows i) L=aC):=HF.out (by rw[decide_eq_false hby];rfl)
     clear HT HF hby;go_wp2_with fail
     refine jg ?_;repeat (go_big_quiet_step ((first|rfl)))
     refine dh (iL fun wE eG=>?_)
     have HB1:=dP (eU mZ.out eG);clear eG p5 p6 p7 p3 q6 q7 p0 CE CC;go_wp2;go_ret
     exact⟨by first|(rw[HN.out];done)|(have h:=HN.out;simp only[h];done)|simp[HN.out],HB1.out⟩
    have e1:(r.dW != (dO m.rows i).dW)=aC:=by simp[hby]
    rw[decide_eq_true hby] at HT HF;clear hby;by_cases OB:r.dU=(dO m.rows i).dU;rotate_left
    ·rw[decide_eq_false OB] at CE
     have HN:aG (ends m.rows i (dO m.rows i) L=aC):=HF.out (by rw[decide_eq_false OB];rfl)
     clear HT HF OB;go_wp2_with fail
     refine jg ?_;repeat (go_big_quiet_step ((first|(go_at_call 176;exact eY _ (CE _))|rfl)))
     refine dh (iL fun wE eG=>?_)
     have HB1:=dP (eU mZ.out eG);clear eG p5 p6 p7 p3 q6 q7 p0 CE CC;go_wp2;go_ret
     exact⟨by first|(rw[HN.out];done)|(have h:=HN.out;simp only[h];done)|simp[HN.out],HB1.out⟩
    rw[decide_eq_true OB] at CE HT HF;clear OB;by_cases hin:(i:Int)∈r.dQ
    ·rw[decide_eq_true hin] at CC
     have HN:aG (ends m.rows i (dO m.rows i) L=aC):=HF.out (by rw[decide_eq_false (fun h=>h hin)];rfl)
     clear HT HF hin;go_wp2_with fail
     refine jg ?_;repeat (go_big_quiet_step ((first|(go_at_call 176;exact eY _ (CE _))|(go_at_call 88;exact eY _ (CC _))|rfl)))
     refine dh (iL fun wE eG=>?_)
     have HB1:=dP (eU mZ.out eG);clear eG p5 p6 p7 p3 q6 q7 p0 CE CC;go_wp2;go_ret
     exact⟨by first|(rw[HN.out];done)|(have h:=HN.out;simp only[h];done)|simp[HN.out],HB1.out⟩
    rw[decide_eq_false hin] at CC;have HN:aG _:=HT.out (by rw[decide_eq_true hin];rfl)
    clear HT HF hin;go_wp2_with fail
    refine jg ?_;repeat (go_big_quiet_step ((first|(go_at_call 176;exact eY _ (CE _))|(go_at_call 88;exact eY _ (CC _))|rfl)))
    refine dh (iL fun wE eG=>?_)
    have HB1:=dP (eU mZ.out eG);clear eG p5 p6 p7 p3 q6 q7 p0 CE CC;go_wp2;go_roundw
    case rel=>exact⟨k+1,by omega,by go_num,HN,HB1.out⟩
    case measure=>simp[dG];omega
  ·have k1:¬ ((k:Int)<L.length):=by omega
   have HN:aG (ends m.rows i (dO m.rows i) L=aB):=by
    have:=HA.out;rw[show k=L.length by omega,List.take_length] at this
    exact this
   clear HA hb;go_wp2;go_ret
   exact⟨by first|(rw[HN.out];done)|(have h:=HN.out;simp only[h];done)|simp[HN.out],HB.out⟩
end Go.Proofs.YtafimeakbdmkjaaGreat