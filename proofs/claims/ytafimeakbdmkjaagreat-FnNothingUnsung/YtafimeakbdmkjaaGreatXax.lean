/-
  Texts in one.
-/
import Derived.Test.YtafimeakbdmkjaaGreatXaa
import Derived.Test.YtafimeakbdmkjaaGreatXaw
import Derived.Test.YtafimeakbdmkjaaGreatXap
import Derived.Test.YtafimeakbdmkjaaGreatXao
import Derived.Test.YtafimeakbdmkjaaGreatXau
import Derived.Test.YtafimeakbdmkjaaGreatXat
namespace Go.Proofs.YtafimeakbdmkjaaGreat
open Bool renaming false->aC,true->aB
open Go renaming Addr->dH,Calls->dF,Value->aJ,World->aI,bodyPost_ret->bY
open Go.Ending renaming returned->aK
open Go.IntKind renaming i64->aA
open Go.Obj renaming cells->aH
open Go.Proofs.Tryz renaming prog->dA
open Go.RowKit renaming Hid->aG
open Go.RowKit.Below renaming refl->dw
open Go.Value renaming agg->aP,bool->aF,int->ah,pointer->aO,slice->aj
open Go.World renaming size_alloc->bH
open List renaming length_set->bQ
open Nat renaming le_refl->cO,zero_le->cZ
open Option renaming none->ak,some->au
open Option.some renaming inj->bT
set_option linter.unusedVariables false
set_option linter.unusedSimpArgs false
open Go.RowKit Go.Sort
set_option maxRecDepth 100000
set_option maxHeartbeats 12800000
variable {m:Mb} {i n:Nat}
theorem ar8 (w0:aI) (B:Nat) (m:Mb) (i n:Nat) (fp:Fp) (g off c:Nat) (X:aI) (M:Iw w0 X B m fp g off c) (ok:OkW m i n) (L:List Nat) (la:Option dH) (lc:Nat) (hv:Vec X la (lN L).length (lN L)) (hLn:∀ k∈L,k<n) (Jd:L.length<=5) (hL0:0<L.length) :
  dF dA 172 #[aO (au ⟨B,0,ak⟩),aj la L.length lc] X fun e w'=>e=aK (.tuple #[])/\Iw w0 w' B { m with rows:=m.rows.set i (lead m.rows i (dO m.rows i) L) } fp g off c:=by
 have gq:=iD;have hil:i<m.rows.length:=by rw[ok.len];exact ok.lt
 have HM:=dP M;have iE:=dP ok;have HV:=dP hv;have HL:=dP hLn;have CX:aG (({ m with rows:=m.rows.set i (dO m.rows i) }:Mb)=m):=by rw[aG,oP (iV hil)]
 obtain⟨c0,_⟩:=M.id';rw[ok.hid] at c0;have p0:∀ q:Bk X,q.w.cell? ⟨B,0,ak⟩=au (ah aA (i:Int)):=fun q=>gy q.h c0
 have hH:=Tv w0 B m i n (i:Int) fp g off c X M ok;have hA:∀ q:Bk X,dF dA 186 #[aO (au ⟨B,0,ak⟩),aj la L.length lc] q.w fun e w'=>e=aK (aF (kR m.rows (dO m.rows i) L))/\Below q.w.heap.size q.w w':=fun q=>aq9 w0 B m i n fp g off c q.w (HM.out.step q.h) iE.out L la lc (HV.out.below q.h (cO _)) HL.out Jd
 have hTm:aG ((endOf m.rows L).length<=100/\True):=by
  refine⟨?_,trivial⟩;unfold endOf;have h5:=ok.n5
  split
  ·obtain ⟨h1,_⟩ := zk (R := m.rows) h5 (L := L) (by intro e;rw [e] at hL0;cases hL0) (fun k hk => by
    have h:=ok.ok k (hLn k hk);exact⟨h.gl,(jF h.n5 h.gl).1 ⟨h.got,h.g12⟩⟩)
   omega
  ·rcases (AO m.rows L (-1,[])).1 with h|⟨k,hk,hr,h⟩
   ·rw[h];simp
   ·rw[h]
    have h2:=((ok.ok k (hLn k hk)).dV hr).2.2.2.1;simp only
    omega
 have HN:aG (¬ ((!(dO m.rows i).dV||decide ((dO m.rows i).dW<(i:Int)))=true/\kR m.rows (dO m.rows i) L=true)->lead m.rows i (dO m.rows i) L=dO m.rows i):=fun h=>by
  unfold lead
  split
  ·rfl
  ·rename_i h1
   rw[if_neg];intro h2;refine h ⟨?_,h2⟩
   cases hr:(dO m.rows i).dV with
   | false=>rfl
   | true =>
    simp only[Bool.not_true,Bool.false_or,decide_eq_true_eq]
    rcases Int.lt_or_le (dO m.rows i).dW (i:Int) with h3|h3
    ·exact h3
    ·exact absurd ⟨hr,h3⟩ h1
 have HY:aG ((!(dO m.rows i).dV||decide ((dO m.rows i).dW<(i:Int)))=true->kR m.rows (dO m.rows i) L=true->lead m.rows i (dO m.rows i) L={ dO m.rows i with dV:=true,dW:=(i:Int),dU:=endOf m.rows L }):=fun h1 h2=>by
  unfold lead;rw[if_neg,if_pos h2];rintro⟨h3,h4⟩;rw[h3] at h1;simp only[Bool.not_true,Bool.false_or,decide_eq_true_eq] at h1;omega
 generalize MF:(!(dO m.rows i).dV||decide ((dO m.rows i).dW<(i:Int)))=he at *
 generalize hlo:kR m.rows (dO m.rows i) L=lo at *;clear M c0 hv MF hlo
 cases he with
 | false =>
  have HE:aG (lead m.rows i (dO m.rows i) L=dO m.rows i):=HN.out (fun h=>by cases h.1)
  clear HN HY;go_enter Tryz.func172,Tryz.ntmps172
  have p1:=p0 ⟨X,dw _ _⟩;simp only at p1
  clear p0 hA;go_wp2_with (go_at_call 184;refine hH.mono ?_;rintro e w1 ⟨rfl,hb1⟩;have HB1:aG (Below X.heap.size X w1):=hb1;clear hb1 p1)
  first|go_end0|go_ret
  exact⟨rfl,by rw[HE.out,CX.out];exact HM.out.step HB1.out⟩
 | true =>
 cases lo with
 | false =>
  have HE:aG (lead m.rows i (dO m.rows i) L=dO m.rows i):=HN.out (fun h=>by cases h.2)
  clear HN HY;go_enter Tryz.func172,Tryz.ntmps172
  have p1:=p0 ⟨X,dw _ _⟩;simp only at p1
  go_wp2_with fail
  refine hH.mono ?_;rintro e w1 ⟨rfl,hb1⟩;have HB1:=dP hb1;have hA1:=hA ⟨w1,hb1⟩;simp only at hA1
  clear hb1 p1 hA;go_wp2_with fail
  refine hA1.mono ?_;rintro e w2 ⟨rfl,hb2⟩;have HB2:=dP hb2;clear hb2 hA1;go_wp2_with fail
  first|go_end0|go_ret
  exact⟨rfl,by rw[HE.out,CX.out];exact (HM.out.step HB1.out).step HB2.out⟩
 | true =>
  have HE:=dP (HY.out rfl rfl);clear HN HY;go_enter Tryz.func172,Tryz.ntmps172
  have p1:=p0 ⟨X,dw _ _⟩;simp only at p1
  go_wp2_with fail
  refine hH.mono ?_;rintro e w1 ⟨rfl,hb1⟩;have HB1:=dP hb1;have hA1:=hA ⟨w1,hb1⟩;simp only at hA1
  clear hb1 p1 hA;go_wp2_with fail
  refine hA1.mono ?_;rintro e w2 ⟨rfl,hb2⟩;have HB2:=dP hb2;clear hb2 hA1;go_upto_region 1 with fail
  have HBX:=dP (eU HB1.out HB2.out);have hbd:=(Same.drewN w2 1).below;have KS:∀ Z,Below w2.heap.size w2 Z->Z.cell? ⟨B,0,ak⟩=au (ah aA (i:Int)):=fun Z hZ=>p0 ⟨Z,eU HBX.out hZ⟩
  have HT:=ar7 w0 B m i n fp g off c w2.drew ((HM.out.step HBX.out).step hbd) iE.out L la lc ((HV.out.below HBX.out (cO _)).below hbd (cO _)) HL.out Jd hL0;clear hH p0 HB1 HB2;refine lU (S:=fun Z:aI=>Z.cell? ⟨B,0,ak⟩=au (ah aA (i:Int))) 9 gq ((KS _ hbd)) fun hHeld=>?_
  refine fE (i:=0) rfl ?_;refine fE (i:=1) rfl ?_;refine fE (i:=2) rfl ?_;refine fE (i:=3) rfl ?_;refine ni (i:=4) rfl hHeld ?_;refine fE (i:=5) rfl ?_;refine fE (i:=6) rfl ?_;refine iJ (i:=7) rfl fun K hK=>?_
  go_simp
  go_at_call 187
  refine HT.mono ?_;rintro e w3 ⟨ta,tc,rfl,hvt,hb3⟩;have ae6:=eU hbd hb3;have M3:=((HM.out.step HBX.out).step ae6);have hEb:=Tz w0 B m i n (i:Int) (endOf m.rows L) ta tc fp g off c w3 M3 iE.out hvt hTm.out.1;refine hK.out _ _ (KS _ ae6) (fun eP=>?_)
  clear hK hHeld;have hHeld:=eP;try simp only[iC]
  refine iJ (i:=8) rfl fun K hK=>?_
  go_simp
  go_at_call 185
  refine hEb.mono ?_;rintro e w4 ⟨rfl,zL⟩;have mG:=dP zL
  have h40:w4.cell? ⟨B,0,ak⟩=au (ah aA (i:Int)):=by
   have:=zL.id'.1;simp only at this
   rw[iE.out.hid] at this;exact this
  refine hK.out _ _ h40 (fun eP=>?_)
  clear hK hHeld;have hHeld:=eP;try simp only[iC]
  refine uO (by kernel_rfl) ?_
  clear hHeld hEb M3 zL h40 hvt hb3 ae6 HT KS hbd;try go_wp2
  first|go_end0|go_ret
  exact⟨rfl,by rw[HE.out];exact mG.out⟩
def CZ (m:Mb) (i n:Nat):Rw:=if (fA n (dO m.rows i).dQ).getD 0 0≠i then adopt m.rows i (dO m.rows i) ((fA n (dO m.rows i).dQ).getD 0 0) else if n<2*(fA n (dO m.rows i).dQ).length then lead m.rows i (dO m.rows i) (fA n (dO m.rows i).dQ) else dO m.rows i
theorem ar9 (w0:aI) (B:Nat) (m:Mb) (i n:Nat) (fp:Fp) (g off c:Nat) (X:aI) (M:Iw w0 X B m fp g off c) (ok:iO m i n) :
  dF dA 143 #[aO (au ⟨B,0,ak⟩)] X fun e w'=>e=aK (.tuple #[])/\Iw w0 w' B { m with rows:=m.rows.set i (CZ m i n) } fp g off c:=by
 have hil:i<m.rows.length:=by rw[ok.len];exact ok.lt
 have jq:=ok.n5;have hL:=Ko w0 B m i n fp g off c X M ok;have kQ:=dP M;have HLn:aG (∀ k∈fA n (dO m.rows i).dQ,k<n):=fun k hk=>(jh.1 hk).1
 have HLi:aG (0<(fA n (dO m.rows i).dQ).length):=List.length_pos_of_mem (jh.2 ⟨ok.lt,ok.self⟩);have Jd:=tK n (dO m.rows i).dQ;have HE:aG (CZ m i n=if (fA n (dO m.rows i).dQ).getD 0 0≠i then adopt m.rows i (dO m.rows i) ((fA n (dO m.rows i).dQ).getD 0 0) else if n<2*(fA n (dO m.rows i).dQ).length then lead m.rows i (dO m.rows i) (fA n (dO m.rows i).dQ) else dO m.rows i):=rfl
 have CX:aG (({ m with rows:=m.rows.set i (dO m.rows i) }:Mb)=m):=by rw[aG,oP (iV hil)]
 generalize CZ m i n=rE at *;generalize Gf:fA n (dO m.rows i).dQ=L at *;have hL5:L.length<=5:=by omega
 clear Gf M;go_enter Tryz.func143,Tryz.ntmps143
 go_wp2_with fail
 refine hL.mono ?_;rintro e wl ⟨la,lc,rfl,fl,hl1,hl2,hl3⟩;rw[jl] at hl1 ⊢;have rQ:Vec wl la (lN L).length (lN L):=lW (by rw[jl];exact hl1) (wo HLn.out (by omega))
 have Gh:=dP rQ;have fU:=dP (kQ.out.step hl3);obtain⟨c0,_⟩:=fU.out.id';rw[ok.hid] at c0;have hMs:=SQ B m.rows.length c L.length lc (au ⟨g,off,ak⟩) la wl fU.out.rws (by omega) (by rw[ok.len];exact jq.2)
 rw[ok.len] at hMs;have hl0:=HLi.out;rcases rQ.2.2 with hz|⟨lb,lo,hla,hlc⟩
 ·rw[jl] at hz;omega
 have hlk:=hlc 0 (by rw[jl];exact hl0)
 rw[wQ hl0,Nat.add_zero] at hlk;have HF:=dP (HLn.out _ (lX hl0));have hEs:=ar1 w0 B m i n (L.getD 0 0) fp g off c wl fU.out ok.XR HF.out;have hEf:=ar8 w0 B m i n fp g off c wl fU.out ok.XR L la lc Gh.out HLn.out hL5 hl0;generalize L.getD 0 0=f at *;have l1:(0:Int)<L.length:=by omega
 rw[hla] at hMs hEf ⊢;clear hl1 hl2 hl3 hL kQ rQ hlc hla;by_cases hfi:f=i
 ·have e1:((f:Int) != (i:Int))=aC:=by simp[hfi]
  by_cases hmj:n<2*L.length
  ·have HN:aG (rE=lead m.rows i (dO m.rows i) L):=by rw[aG,HE.out,if_neg (by simp[hfi]),if_pos hmj]
   rw[decide_eq_true hmj] at hMs;clear HE hfi hmj hEs;go_wp2_with (first|(go_at_call 171;refine fV hMs ?_)|(go_at_call 172;refine hEf.mono ?_;rintro e w2 ⟨rfl,hM2⟩;have jk:aG (Iw w0 w2 B { m with rows:=m.rows.set i (lead m.rows i (dO m.rows i) L) } fp g off c):=hM2;clear hM2))
   first|go_end0|go_ret
   exact⟨rfl,by rw[HN.out];exact jk.out⟩
  ·have HN:aG (rE=dO m.rows i):=by rw[aG,HE.out,if_neg (by simp[hfi]),if_neg hmj]
   rw[decide_eq_false hmj] at hMs;clear HE hfi hmj hEs hEf;go_wp2_with (go_at_call 171;refine fV hMs ?_)
   first|go_end0|go_ret
   exact⟨rfl,by rw[HN.out,CX.out];exact fU.out⟩
 ·have e1:((f:Int) != (i:Int))=aB:=by simp;omega
  have HN:aG (rE=adopt m.rows i (dO m.rows i) f):=by rw[aG,HE.out,if_pos hfi]
  clear HE hfi hMs hEf;go_wp2_with (go_at_call 170;refine hEs.mono ?_;rintro e w2 ⟨rfl,hM2⟩;have jk:aG (Iw w0 w2 B { m with rows:=m.rows.set i (adopt m.rows i (dO m.rows i) f) } fp g off c):=hM2;clear hM2)
  first|go_end0|go_ret
  exact⟨rfl,by rw[HN.out];exact jk.out⟩
theorem aL8 (pA pB pC pD qA qB qC qD:Option dH) (pt pg ps pm pa pb pc pe qt qg qs qm qa qb qc qe:Nat) (v py qy:Int) (pw pd qw qd b3:Bool) (w W:aI) (hW:(w.alloc (aH #[ah aA v,aj pA pt pa,aj pB pg pb,aj pC ps pc,aF pw,aF pd,ah aA py,aj pD pm pe] 44)).alloc (aH #[ah aA v,aj qA qt qa,aj qB qg qb,aj qC qs qc,aF qw,aF qd,ah aA qy,aj qD qm qe] 44)=W) (hx:Bx W w.heap.size 44 #[ah aA v,aj pA pt pa,aj pB pg pb,aj pC ps pc,aF pw,aF pd,ah aA py,aj pD pm pe]) (hy:Bx W (w.heap.size+1) 44 #[ah aA v,aj qA qt qa,aj qB qg qb,aj qC qs qc,aF qw,aF qd,ah aA qy,aj qD qm qe]) (hB:Below w.heap.size w W) (e1:(pw==qw)=aC) :
  dF dA 147 #[aP #[ah aA v,aj pA pt pa,aj pB pg pb,aj pC ps pc,aF pw,aF pd,ah aA py,aj pD pm pe],aP #[ah aA v,aj qA qt qa,aj qB qg qb,aj qC qs qc,aF qw,aF qd,ah aA qy,aj qD qm qe]] w fun e w'=>e=aK (aF aC)/\Below w.heap.size w w':=by
 obtain⟨⟨c0,c1,c2,c3⟩,c4,c5,c6,c7⟩:=Bx.r8 hx;obtain⟨⟨d0,d1,d2,d3⟩,d4,d5,d6,d7⟩:=Bx.r8 hy;have HB:=dP hB;have e0:(v==v)=aB:=by simp
 clear hx hy hB;go_enter Tryz.func147,Tryz.ntmps147
 go_upto_region 1 with fail
 try rw[hW]
 clear hW;go_wp2_with fail
 go_ret
 exact⟨rfl,by first|exact HB.out|exact fO HB.out⟩
theorem aL9 (pA pB pC pD qA qB qC qD:Option dH) (pt pg ps pm pa pb pc pe qt qg qs qm qa qb qc qe:Nat) (v py qy:Int) (pw pd qw qd b3:Bool) (w W:aI) (hW:(w.alloc (aH #[ah aA v,aj pA pt pa,aj pB pg pb,aj pC ps pc,aF pw,aF pd,ah aA py,aj pD pm pe] 44)).alloc (aH #[ah aA v,aj qA qt qa,aj qB qg qb,aj qC qs qc,aF pw,aF qd,ah aA qy,aj qD qm qe] 44)=W) (hx:Bx W w.heap.size 44 #[ah aA v,aj pA pt pa,aj pB pg pb,aj pC ps pc,aF pw,aF pd,ah aA py,aj pD pm pe]) (hy:Bx W (w.heap.size+1) 44 #[ah aA v,aj qA qt qa,aj qB qg qb,aj qC qs qc,aF pw,aF qd,ah aA qy,aj qD qm qe]) (hB:Below w.heap.size w W) (e2:(pd==qd)=aC) :
  dF dA 147 #[aP #[ah aA v,aj pA pt pa,aj pB pg pb,aj pC ps pc,aF pw,aF pd,ah aA py,aj pD pm pe],aP #[ah aA v,aj qA qt qa,aj qB qg qb,aj qC qs qc,aF pw,aF qd,ah aA qy,aj qD qm qe]] w fun e w'=>e=aK (aF aC)/\Below w.heap.size w w':=by
 obtain⟨⟨c0,c1,c2,c3⟩,c4,c5,c6,c7⟩:=Bx.r8 hx;obtain⟨⟨d0,d1,d2,d3⟩,d4,d5,d6,d7⟩:=Bx.r8 hy;have HB:=dP hB;have e0:(v==v)=aB:=by simp
 clear hx hy hB;go_enter Tryz.func147,Tryz.ntmps147
 go_upto_region 1 with fail
 try rw[hW]
 clear hW;go_wp2_with fail
 go_ret
 exact⟨rfl,by first|exact HB.out|exact fO HB.out⟩
theorem aM0 (pA pB pC pD qA qB qC qD:Option dH) (pt pg ps pm pa pb pc pe qt qg qs qm qa qb qc qe:Nat) (v py qy:Int) (pw pd qw qd b3:Bool) (w W:aI) (hW:(w.alloc (aH #[ah aA v,aj pA pt pa,aj pB pg pb,aj pC ps pc,aF pw,aF pd,ah aA py,aj pD pm pe] 44)).alloc (aH #[ah aA v,aj qA qt qa,aj qB qg qb,aj qC qs qc,aF pw,aF pd,ah aA qy,aj qD qm qe] 44)=W) (hx:Bx W w.heap.size 44 #[ah aA v,aj pA pt pa,aj pB pg pb,aj pC ps pc,aF pw,aF pd,ah aA py,aj pD pm pe]) (hy:Bx W (w.heap.size+1) 44 #[ah aA v,aj qA qt qa,aj qB qg qb,aj qC qs qc,aF pw,aF pd,ah aA qy,aj qD qm qe]) (hB:Below w.heap.size w W) (e3:(py==qy)=aC) :
  dF dA 147 #[aP #[ah aA v,aj pA pt pa,aj pB pg pb,aj pC ps pc,aF pw,aF pd,ah aA py,aj pD pm pe],aP #[ah aA v,aj qA qt qa,aj qB qg qb,aj qC qs qc,aF pw,aF pd,ah aA qy,aj qD qm qe]] w fun e w'=>e=aK (aF aC)/\Below w.heap.size w w':=by
 obtain⟨⟨c0,c1,c2,c3⟩,c4,c5,c6,c7⟩:=Bx.r8 hx;obtain⟨⟨d0,d1,d2,d3⟩,d4,d5,d6,d7⟩:=Bx.r8 hy;have HB:=dP hB;have e0:(v==v)=aB:=by simp
 clear hx hy hB;go_enter Tryz.func147,Tryz.ntmps147
 go_upto_region 1 with fail
 try rw[hW]
 clear hW;go_wp2_with fail
 go_ret
 exact⟨rfl,by first|exact HB.out|exact fO HB.out⟩
theorem aM1 (pA pB pC pD qA qB qC qD:Option dH) (pt pg ps pm pa pb pc pe qt qg qs qm qa qb qc qe:Nat) (v py qy:Int) (pw pd qw qd b3:Bool) (w W:aI) (hW:(w.alloc (aH #[ah aA v,aj pA pt pa,aj pB pg pb,aj pC ps pc,aF pw,aF pd,ah aA py,aj pD pm pe] 44)).alloc (aH #[ah aA v,aj qA qt qa,aj qB qg qb,aj qC qs qc,aF pw,aF pd,ah aA py,aj qD qm qe] 44)=W) (hx:Bx W w.heap.size 44 #[ah aA v,aj pA pt pa,aj pB pg pb,aj pC ps pc,aF pw,aF pd,ah aA py,aj pD pm pe]) (hy:Bx W (w.heap.size+1) 44 #[ah aA v,aj qA qt qa,aj qB qg qb,aj qC qs qc,aF pw,aF pd,ah aA py,aj qD qm qe]) (hB:Below w.heap.size w W) (hT:dF dA 175 #[aj pA pt pa,aj qA qt qa] W fun e w'=>e=aK (aF aB)/\∃ n,w'=W.drewN n) (hG:∀ k,dF dA 176 #[aj pB pg pb,aj qB qg qb] (W.drewN k) fun e w'=>e=aK (aF aC)/\∃ n,w'=(W.drewN k).drewN n) :
  dF dA 147 #[aP #[ah aA v,aj pA pt pa,aj pB pg pb,aj pC ps pc,aF pw,aF pd,ah aA py,aj pD pm pe],aP #[ah aA v,aj qA qt qa,aj qB qg qb,aj qC qs qc,aF pw,aF pd,ah aA py,aj qD qm qe]] w fun e w'=>e=aK (aF aC)/\Below w.heap.size w w':=by
 obtain⟨⟨c0,c1,c2,c3⟩,c4,c5,c6,c7⟩:=Bx.r8 hx;obtain⟨⟨d0,d1,d2,d3⟩,d4,d5,d6,d7⟩:=Bx.r8 hy;have HB:=dP hB;have e0:(v==v)=aB:=by simp
 clear hx hy hB;go_enter Tryz.func147,Tryz.ntmps147
 go_upto_region 1 with fail
 try rw[hW]
 clear hW;go_wp2_with (first|(go_at_call 175;refine hT.mono ?_;rintro e w' ⟨rfl,m1,hw'⟩;rw[hw'];clear hw')|(go_at_call 176;with_reducible refine (hG _).mono ?_;rintro e w' ⟨rfl,m2,hw'⟩;rw[hw',World.drewN_drewN];clear hw'))
 go_ret
 exact⟨rfl,by first|exact HB.out|exact fO HB.out⟩
theorem aM2 (pA pB pC pD qA qB qC qD:Option dH) (pt pg ps pm pa pb pc pe qt qg qs qm qa qb qc qe:Nat) (v py qy:Int) (pw pd qw qd b3:Bool) (w W:aI) (hW:(w.alloc (aH #[ah aA v,aj pA pt pa,aj pB pg pb,aj pC ps pc,aF pw,aF pd,ah aA py,aj pD pm pe] 44)).alloc (aH #[ah aA v,aj qA qt qa,aj qB qg qb,aj qC qs qc,aF pw,aF pd,ah aA py,aj qD qm qe] 44)=W) (hx:Bx W w.heap.size 44 #[ah aA v,aj pA pt pa,aj pB pg pb,aj pC ps pc,aF pw,aF pd,ah aA py,aj pD pm pe]) (hy:Bx W (w.heap.size+1) 44 #[ah aA v,aj qA qt qa,aj qB qg qb,aj qC qs qc,aF pw,aF pd,ah aA py,aj qD qm qe]) (hB:Below w.heap.size w W) (hT:dF dA 175 #[aj pA pt pa,aj qA qt qa] W fun e w'=>e=aK (aF aB)/\∃ n,w'=W.drewN n) (hG:∀ k,dF dA 176 #[aj pB pg pb,aj qB qg qb] (W.drewN k) fun e w'=>e=aK (aF aB)/\∃ n,w'=(W.drewN k).drewN n) (hS:∀ k,dF dA 176 #[aj pC ps pc,aj qC qs qc] (W.drewN k) fun e w'=>e=aK (aF aC)/\∃ n,w'=(W.drewN k).drewN n) :
  dF dA 147 #[aP #[ah aA v,aj pA pt pa,aj pB pg pb,aj pC ps pc,aF pw,aF pd,ah aA py,aj pD pm pe],aP #[ah aA v,aj qA qt qa,aj qB qg qb,aj qC qs qc,aF pw,aF pd,ah aA py,aj qD qm qe]] w fun e w'=>e=aK (aF aC)/\Below w.heap.size w w':=by
 obtain⟨⟨c0,c1,c2,c3⟩,c4,c5,c6,c7⟩:=Bx.r8 hx;obtain⟨⟨d0,d1,d2,d3⟩,d4,d5,d6,d7⟩:=Bx.r8 hy;have HB:=dP hB;have e0:(v==v)=aB:=by simp
 clear hx hy hB;go_enter Tryz.func147,Tryz.ntmps147
 go_upto_region 1 with fail
 try rw[hW]
 clear hW;go_wp2_with (first|(go_at_call 175;refine hT.mono ?_;rintro e w' ⟨rfl,m1,hw'⟩;rw[hw'];clear hw')|(go_at_call 176;with_reducible refine (hG _).mono ?_;rintro e w' ⟨rfl,m2,hw'⟩;rw[hw',World.drewN_drewN];clear hw')|(go_at_call 176;with_reducible refine (hS _).mono ?_;rintro e w' ⟨rfl,m2,hw'⟩;rw[hw',World.drewN_drewN];clear hw'))
 go_ret
 exact⟨rfl,by first|exact HB.out|exact fO HB.out⟩
theorem aM3 (pA pB pC pD qA qB qC qD:Option dH) (pt pg ps pm pa pb pc pe qt qg qs qm qa qb qc qe:Nat) (v py qy:Int) (pw pd qw qd b3:Bool) (w W:aI) (hW:(w.alloc (aH #[ah aA v,aj pA pt pa,aj pB pg pb,aj pC ps pc,aF pw,aF pd,ah aA py,aj pD pm pe] 44)).alloc (aH #[ah aA v,aj qA qt qa,aj qB qg qb,aj qC qs qc,aF pw,aF pd,ah aA py,aj qD qm qe] 44)=W) (hx:Bx W w.heap.size 44 #[ah aA v,aj pA pt pa,aj pB pg pb,aj pC ps pc,aF pw,aF pd,ah aA py,aj pD pm pe]) (hy:Bx W (w.heap.size+1) 44 #[ah aA v,aj qA qt qa,aj qB qg qb,aj qC qs qc,aF pw,aF pd,ah aA py,aj qD qm qe]) (hB:Below w.heap.size w W) (hT:dF dA 175 #[aj pA pt pa,aj qA qt qa] W fun e w'=>e=aK (aF aB)/\∃ n,w'=W.drewN n) (hG:∀ k,dF dA 176 #[aj pB pg pb,aj qB qg qb] (W.drewN k) fun e w'=>e=aK (aF aB)/\∃ n,w'=(W.drewN k).drewN n) (hS:∀ k,dF dA 176 #[aj pC ps pc,aj qC qs qc] (W.drewN k) fun e w'=>e=aK (aF aB)/\∃ n,w'=(W.drewN k).drewN n) (hM:∀ k,dF dA 176 #[aj pD pm pe,aj qD qm qe] (W.drewN k) fun e w'=>e=aK (aF b3)/\∃ n,w'=(W.drewN k).drewN n) :
  dF dA 147 #[aP #[ah aA v,aj pA pt pa,aj pB pg pb,aj pC ps pc,aF pw,aF pd,ah aA py,aj pD pm pe],aP #[ah aA v,aj qA qt qa,aj qB qg qb,aj qC qs qc,aF pw,aF pd,ah aA py,aj qD qm qe]] w fun e w'=>e=aK (aF b3)/\Below w.heap.size w w':=by
 obtain⟨⟨c0,c1,c2,c3⟩,c4,c5,c6,c7⟩:=Bx.r8 hx;obtain⟨⟨d0,d1,d2,d3⟩,d4,d5,d6,d7⟩:=Bx.r8 hy;have HB:=dP hB;have e0:(v==v)=aB:=by simp
 clear hx hy hB;go_enter Tryz.func147,Tryz.ntmps147
 go_upto_region 1 with fail
 try rw[hW]
 clear hW;go_wp2_with (first|(go_at_call 175;refine hT.mono ?_;rintro e w' ⟨rfl,m1,hw'⟩;rw[hw'];clear hw')|(go_at_call 176;with_reducible refine (hG _).mono ?_;rintro e w' ⟨rfl,m2,hw'⟩;rw[hw',World.drewN_drewN];clear hw')|(go_at_call 176;with_reducible refine (hS _).mono ?_;rintro e w' ⟨rfl,m2,hw'⟩;rw[hw',World.drewN_drewN];clear hw')|(go_at_call 176;with_reducible refine (hM _).mono ?_;rintro e w' ⟨rfl,m2,hw'⟩;rw[hw',World.drewN_drewN];clear hw'))
 go_ret
 exact⟨rfl,by first|exact HB.out|exact fO HB.out⟩
theorem TJ (A B:Ra) (r s:Rw) (w:aI) (hv:ql w A r) (hu:ql w B s) (kC:r.ver=s.ver) (htx:r.txt=s.txt) :
  dF dA 147 #[iK A r,iK B s] w fun e w'=>e=aK (aF (lQ r s))/\Below w.heap.size w w':=by
 obtain⟨W,hW,hx,hy,hB0⟩:=aG5 A B r s 44 w;have h0:=hv.below hB0;have g0:=hu.below hB0;have hS0:=h0.rws;have gS0:=g0.rws
 have hTx:dF dA 175 #[aj A.ta r.txt.length A.tc,aj B.ta s.txt.length B.tc] W fun e w'=>e=aK (aF aB)/\∃ n,w'=W.drewN n:=by
  have:=Z5 A.ta B.ta A.tc B.tc r.txt s.txt W hS0.txt gS0.txt hS0.mt (by rw[htx])
  rw[decide_eq_true htx] at this;exact this
 have hG:=fun k=>xX A.ga B.ga r.got.length A.gc s.got.length B.gc r.got s.got (W.drewN k) (h0.below (fO (n:=k) (dw _ _))).rws.got (g0.below (fO (n:=k) (dw _ _))).rws.got hS0.mg
 have hS:=fun k=>xX A.sa B.sa r.dQ.length A.sc s.dQ.length B.sc r.dQ s.dQ (W.drewN k) (h0.below (fO (n:=k) (dw _ _))).rws.dQ (g0.below (fO (n:=k) (dw _ _))).rws.dQ hS0.ms
 have hM:=fun k=>xX A.ma B.ma r.dU.length A.mc s.dU.length B.mc r.dU s.dU (W.drewN k) (h0.below (fO (n:=k) (dw _ _))).rws.dU (g0.below (fO (n:=k) (dw _ _))).rws.dU hS0.mm
 have HG:lQ r s=(decide (r.wed=s.wed)&&(decide (r.dV=s.dV)&&(decide (r.dW=s.dW)&&(decide (r.got=s.got)&&(decide (r.dQ=s.dQ)&&decide (r.dU=s.dU)))))):=by
  rw[lQ];simp only[Bool.decide_and]
 rw[HG];clear HG h0 g0 hS0 gS0 hv hu;generalize decide (r.got=s.got)=b1 at *;generalize decide (r.dQ=s.dQ)=b2 at *;generalize decide (r.dU=s.dU)=b3 at *;obtain⟨v,pt,pg,ps,pw,pd,py,pm⟩:=r;obtain⟨qv,qt,qg,qs,qw,qd,qy,qm⟩:=s;obtain⟨pA,pa,pB,pb,pC,pc,pD,pe⟩:=A;obtain⟨qA,qa,qB,qb,qC,qc,qD,qe⟩:=B;simp only at kC htx
 subst kC;clear htx;by_cases h0:pw=qw;rotate_left
 ·rw[decide_eq_false h0,Bool.false_and]
  exact aL8 pA pB pC pD qA qB qC qD _ _ _ _ pa pb pc pe _ _ _ _ qa qb qc qe v py qy pw pd qw qd b3 w W hW hx hy hB0 (by simp[h0])
 subst h0;rw[decide_eq_true rfl,Bool.true_and];by_cases h0:pd=qd;rotate_left
 ·rw[decide_eq_false h0,Bool.false_and]
  exact aL9 pA pB pC pD qA qB qC qD _ _ _ _ pa pb pc pe _ _ _ _ qa qb qc qe v py qy pw pd pw qd b3 w W hW hx hy hB0 (by simp[h0])
 subst h0;rw[decide_eq_true rfl,Bool.true_and];by_cases h0:py=qy;rotate_left
 ·rw[decide_eq_false h0,Bool.false_and]
  exact aM0 pA pB pC pD qA qB qC qD _ _ _ _ pa pb pc pe _ _ _ _ qa qb qc qe v py qy pw pd pw pd b3 w W hW hx hy hB0 (by simp[h0])
 subst h0;rw[decide_eq_true rfl,Bool.true_and]
 cases b1 with
 | false=>exact aM1 pA pB pC pD qA qB qC qD _ _ _ _ pa pb pc pe _ _ _ _ qa qb qc qe v py py pw pd pw pd b3 w W hW hx hy hB0 hTx hG
 | true =>
  rw[Bool.true_and]
  cases b2 with
  | false=>exact aM2 pA pB pC pD qA qB qC qD _ _ _ _ pa pb pc pe _ _ _ _ qa qb qc qe v py py pw pd pw pd b3 w W hW hx hy hB0 hTx hG hS
  | true=>exact aM3 pA pB pC pD qA qB qC qD _ _ _ _ pa pb pc pe _ _ _ _ qa qb qc qe v py py pw pd pw pd b3 w W hW hx hy hB0 hTx hG hS hM
theorem Iw.rowP {w X: aI} {B: Nat} {fp: Fp} {g off c: Nat} (h:Iw w X B m fp g off c) {k: Nat} (hk:k<m.rows.length) (hf:qo (dO m.rows k)) (h6:sQ (dO m.rows k)) (hs:kH (dO m.rows k)<=1048576):∃ Ak:Ra,C8 X g (off+k*8) (ah aA (dO m.rows k).ver) (aj Ak.ta (dO m.rows k).txt.length Ak.tc) (aj Ak.ga (dO m.rows k).got.length Ak.gc) (aj Ak.sa (dO m.rows k).dQ.length Ak.sc) (aF (dO m.rows k).wed) (aF (dO m.rows k).dV) (ah aA (dO m.rows k).dW) (aj Ak.ma (dO m.rows k).dU.length Ak.mc)/\ql X Ak (dO m.rows k):=by
 obtain⟨gU,hp,hf1,hgo⟩:=h.iw.next;obtain⟨g',off',c',f,h1,hgB,hfg,hfs,⟨vs,hpc,hov,_⟩,hput⟩:=hp.el (F:=jo) jU (by omega) (j:=1) (L:=m.rows) rfl (iV hk)
 have e:=bT (h1.symm.trans h.rws)
 cases e
 obtain⟨A,rfl,hl⟩:=wP hov;have lV:(fQ A (dO m.rows k)).toList.length=8:=rfl;have q:=hpc.cell;refine⟨A,⟨⟨q 0 (by rw[lV];omega),q 1 (by rw[lV];omega),q 2 (by rw[lV];omega),q 3 (by rw[lV];omega)⟩,q 4 (by rw[lV];omega),q 5 (by rw[lV];omega),q 6 (by rw[lV];omega),q 7 (by rw[lV];omega)⟩, ?_⟩
 exact BR (lo:=0) (hi:=X.heap.size) ⟨f,hl,fun b hb=>⟨cZ _,jd hl b hb⟩⟩ hf h6 hs
theorem Qq {r: Rw} (h:iR r n):sQ r/\kH r<=1000:=by
 have h5:=h.n5;have hv:=h.ver;have hc:=h.c8;refine⟨?_,by omega⟩
 unfold sQ ji
 cases hr:r.dV with
 | false=>have:=(h.not hr).1;exact⟨by omega,by omega⟩
 | true=>have:=(h.dV hr).2.1;exact⟨by omega,by omega⟩
theorem as1 (m:Mb):(fB m).txt=m.own.txt:=by
 have h1:(fD m).txt=m.own.txt:=(qN _ _ _ _).txt
 have h2:(gW m).txt=m.own.txt:=by
  unfold gW
  split<;>exact h1
 have h3:(iF m).txt=m.own.txt:=by
  unfold iF
  split
  ·rw[(yE _ _ _ _).2.2.2.1];exact h2
  ·exact h2
 unfold fB
 split
 ·rw[(wM _ _ _ _).2.2.2.1];exact h3
 ·exact h3
theorem as2 (m:Mb):(fB m).dQ=(gW m).dQ:=by
 have h3:(iF m).dQ=(gW m).dQ:=by
  unfold iF
  split
  ·rw[(yE _ _ _ _).1]
  ·rfl
 unfold fB
 split
 ·rw[(wM _ _ _ _).1];exact h3
 ·exact h3
theorem GN (a b:Rw):lQ a b=lQ b a:=by
 unfold lQ
 congr 1
 exact propext ⟨fun ⟨h1,h2,h3,h4,h5,h6⟩=>⟨h1.symm,h2.symm,h3.symm,h4.symm,h5.symm,h6.symm⟩,fun ⟨h1,h2,h3,h4,h5,h6⟩=>⟨h1.symm,h2.symm,h3.symm,h4.symm,h5.symm,h6.symm⟩⟩
theorem ae7 (M:iO m i n) (hd:m.done=aC) (S:Stg m i n) (hw:(fD m).wed=aB) :
  CZ { m with rows:=m.rows.set i (fD m) } i n=fB m/\Ql { m with rows:=m.rows.set i (fB m) } i n={ m with rows:=m.rows.set i (fB m),dR:=if jK m=aB then jJ (iT m) (fB m).dU else iT m,done:=jK m }:=by
 have hil:i<m.rows.length:=by rw[M.len];exact M.lt
 obtain⟨e2,eS⟩:=S.wd hw;obtain⟨hp,hh,hD,hm⟩:=LU S.mem;have eL:jR m=fA n (fD m).dQ:=by rw[S.eL,e2]
 have hw2:(gW m).wed=aB:=by rw[e2];exact hw
 have hw3:(iF m).wed=aB:=by rw[S.ay1];exact hw2
 constructor
 ·have h1:CZ { m with rows:=m.rows.set i (fD m) } i n=if (jR m).getD 0 0≠i then adopt (m.rows.set i (fD m)) i (fD m) ((jR m).getD 0 0) else if n<2*(jR m).length then lead (m.rows.set i (fD m)) i (fD m) (jR m) else fD m:=by
   unfold CZ;simp only[iY hil]
   rw[<- eL]
  rw[h1];by_cases c:(jR m).getD 0 0=i
  ·have e4:fB m=iF m:=by rw[S.e4,if_neg (fun h=>h.2 (hh.2 c))]
   rw[if_neg (fun h=>h c),e4]
   by_cases c2:n<2*(jR m).length
   ·rw[if_pos c2,S.e3,if_pos ⟨hw2,c2,hh.2 c⟩,e2]
   ·rw[if_neg c2,S.e3,if_neg (fun h=>c2 h.2.1),e2]
  ·have e3:iF m=fD m:=by rw[S.e3,if_neg (fun h=>c (hh.1 h.2.2)),e2]
   rw[if_pos c,S.e4,if_pos ⟨hw3,fun h=>c (hh.1 h)⟩,hD,e3]
 ·unfold Ql
  simp only[iY hil]
  have eL4:fA n (fB m).dQ=jR m:=by rw[as2,S.eL]
  rw[eL4];have hE:=S.eE;by_cases c:n<2*(jR m).length/\ends (m.rows.set i (fB m)) i (fB m) (jR m)=aB
  ·have hr:=TB c.2 S.mem
   rw[iY hil] at hr;have h1:jK m=aB:=by rw[hE,hr,decide_eq_true c.1,c.2];rfl
   rw[if_pos c,h1,if_pos rfl,eS]
  ·have h1:jK m=aC:=by
    rw[hE]
    cases h2:decide (n<2*(jR m).length) with
    | false=>simp
    | true =>
     cases h3:ends (m.rows.set i (fB m)) i (fB m) (jR m) with
     | false=>simp
     | true=>exact absurd ⟨of_decide_eq_true h2,h3⟩ c
   rw[if_neg c,h1,if_neg (by decide),eS,<- hd]
theorem ae8 (M:iO m i n) (hd:m.done=aC) (S:Stg m i n) (hw:(fD m).wed=aC) :
  ({ fD m with got:=oI (m.rows.set i (fD m)) (fD m) n }:Rw)=gW m/\({ m with rows:=m.rows.set i (gW m),dR:=lF (m.rows.set i (gW m)) n (60-m.dR.length) m.dR }:Mb)={ m with rows:=m.rows.set i (fB m),dR:=if jK m=aB then jJ (iT m) (fB m).dU else iT m,done:=jK m }:=by
 have hil:i<m.rows.length:=by rw[M.len];exact M.lt
 obtain⟨e2,ok2,eS⟩:=S.uw hw;have hw2:(gW m).wed=aC:=by rw[e2];exact hw
 have hw3:(iF m).wed=aC:=by rw[S.ay1];exact hw2
 have e3:iF m=gW m:=by rw[S.e3,if_neg (by rw[hw2];simp)]
 have e4:fB m=gW m:=by rw[S.e4,if_neg (by rw[hw3];simp),e3]
 constructor
 ·rw[e2]
  have:oI (m.rows.set i (fD m)) (fD m) n=oI m.rows (fD m) n:=by
   unfold oI;refine List.map_congr_left (fun j _=>?_)
   rw[gY hil]
   split
   ·rename_i h
    subst h;rw[S.e1,(qN _ _ _ _).txt]
   ·rfl
  rw[this]
 ·have h2:=S.ok2
  have hr2:iR (gW m) n:=by
   have:=h2.ok i M.lt;simp only[iY hil] at this;exact this
  have hr:(fB m).dV=aC:=by
   rw[e4]
   cases h:(gW m).dV with
   | false=>rfl
   | true=>have:=(hr2.dV h).1;rw[hw2] at this;cases this
  have h1:jK m=aC:=by rw[S.eE,hr];rfl
  rw[e4,h1,if_neg (by decide),eS,<- hd]
theorem step_fin (M:iO m i n) (hd:m.done=aC) (hv:(dO m.rows i).ver<1000000) (S:Stg m i n) :
  (lQ (fB m) (dO m.rows i)=aB->({ m with rows:=m.rows.set i (fB m),dR:=if jK m=aB then jJ (iT m) (fB m).dU else iT m,done:=jK m }:Mb)=fM m)/\(lQ (fB m) (dO m.rows i)=aC->({ ({ m with rows:=m.rows.set i (fB m),dR:=if jK m=aB then jJ (iT m) (fB m).dU else iT m,done:=jK m }:Mb) with rows:=(m.rows.set i (fB m)).set i { fB m with ver:=(fB m).ver+1 } }:Mb)=fM m):=by
 have hs:fM m={ m with rows:=m.rows.set i (kN m),dR:=if jK m=aB then jJ (iT m) (fB m).dU else iT m,done:=jK m }:=by
  have hn:¬ (m.done=aB\/m.own.ver=1000000):=by
   rintro (h|h)
   ·rw[hd] at h;cases h
   ·rw[M.own] at h;omega
  rw[fM,if_neg hn,M.i]
 constructor
 ·intro h
  have e5:kN m=fB m:=by rw[S.e5,if_pos (by rw[GN];exact h)]
  rw[hs,e5]
 ·intro h
  have e5:kN m={ fB m with ver:=(fB m).ver+1 }:=by rw[S.e5,if_neg (by rw[GN,h];decide)]
  rw[hs,e5,List.set_set]
theorem as3 (B:Nat) (m:Mb) (i n:Nat) (fp:Fp) (w:aI) (h:iP w B 0 (lH m) fp) (ok:iO m i n) (hd:m.done=aC) (kC:(dO m.rows i).ver<1000000) :
  dF dA 109 #[aO (au ⟨B,0,ak⟩)] w fun e w'=>e=aK (.tuple #[])/\fH w w' B 0 (lH (fM m)) fp:=by
 have gq:=iD;have hil:i<m.rows.length:=by rw[ok.len];exact ok.lt
 have jq:=ok.n5;have S:=DF ok hd;obtain⟨aB5,aB6⟩:=step_fin ok hd kC S;have hokr:=ok.ok i ok.lt;have ae9:=Qq hokr;obtain⟨g,off,c,M0⟩:=Iw.start h (by omega)
 obtain⟨c0,_⟩:=M0.id';have c1:=M0.rws;rw[ok.hid] at c0;have aB7:=nY B i m.rows.length g off c w c0 c1 hil;have kQ:aG (Iw w w B m fp g off c):=M0;clear c0 c1 M0 h;go_enter Tryz.func109,Tryz.ntmps109
 go_wp2_with fail
 refine aB7.mono ?_;rintro e wA ⟨rfl,uh⟩;obtain⟨Ai,⟨⟨d0,d1,d2,d3⟩,d4,d5,d6,d7⟩,yS⟩:=(kQ.out.step uh).rowP hil (ok.fit.1 _ (pG hil)) ae9.1 (by omega)
 have hAn:=CW Ai (dO m.rows i) wA yS (by rw[hokr.gl];omega) ae9.2
 unfold iK fQ at hAn;have HbA:aG (Below w.heap.size w wA):=uh;clear yS aB7 uh;go_wp2_with fail
 refine hAn.mono ?_;rintro e wB ⟨Ar,rfl,fr,hr1,hr2,hr3⟩;have hba:=dX wB (aH #[ah aA (dO m.rows i).ver,aj Ar.ta (dO m.rows i).txt.length Ar.tc,aj Ar.ga (dO m.rows i).got.length Ar.gc,aj Ar.sa (dO m.rows i).dQ.length Ar.sc,aF (dO m.rows i).wed,aF (dO m.rows i).dV,ah aA (dO m.rows i).dW,aj Ar.ma (dO m.rows i).dU.length Ar.mc] 44);have hxw:=Bx.new wB 44 #[ah aA (dO m.rows i).ver,aj Ar.ta (dO m.rows i).txt.length Ar.tc,aj Ar.ga (dO m.rows i).got.length Ar.gc,aj Ar.sa (dO m.rows i).dQ.length Ar.sc,aF (dO m.rows i).wed,aF (dO m.rows i).dV,ah aA (dO m.rows i).dW,aj Ar.ma (dO m.rows i).dU.length Ar.mc]
 have aB8:Below w.heap.size w (wB.alloc (aH #[ah aA (dO m.rows i).ver,aj Ar.ta (dO m.rows i).txt.length Ar.tc,aj Ar.ga (dO m.rows i).got.length Ar.gc,aj Ar.sa (dO m.rows i).dQ.length Ar.sc,aF (dO m.rows i).wed,aF (dO m.rows i).dV,ah aA (dO m.rows i).dW,aj Ar.ma (dO m.rows i).dU.length Ar.mc] 44)):=by
  have h1:=eU HbA.out hr3;exact eU h1 hba
 have hr1':=gG hr1 hba;unfold iK fQ;clear hAn d0 d1 d2 d3 d4 d5 d6 d7;go_upto_region 1 with fail
 have hsz:=hr3.size;have hszA:=HbA.out.size;generalize hb0:wB.heap.size=b0 at *;generalize wB.alloc (aH #[ah aA (dO m.rows i).ver,aj Ar.ta (dO m.rows i).txt.length Ar.tc,aj Ar.ga (dO m.rows i).got.length Ar.gc,aj Ar.sa (dO m.rows i).dQ.length Ar.sc,aF (dO m.rows i).wed,aF (dO m.rows i).dV,ah aA (dO m.rows i).dW,aj Ar.ma (dO m.rows i).dU.length Ar.mc] 44)=W1 at *;obtain⟨jw,f1,f2,_,M5,f4⟩:=kQ.out.sub aB8;have yJ:aG (∀ (Y:aI) (m':Mb),Iw W1 Y B m' jw g off c->fH w Y B 0 (lH m') fp):=fun Y m' hY=>(f4 Y m' hY).iw
 have HB0:aG (¬ jw b0/\b0≠B):=⟨fun k=>by have:=f1 _ k;omega,by omega⟩
 have rW:aG (Bx W1 b0 44 #[ah aA (dO m.rows i).ver,aj Ar.ta (dO m.rows i).txt.length Ar.tc,aj Ar.ga (dO m.rows i).got.length Ar.gc,aj Ar.sa (dO m.rows i).dQ.length Ar.sc,aF (dO m.rows i).wed,aF (dO m.rows i).dV,ah aA (dO m.rows i).dW,aj Ar.ma (dO m.rows i).dU.length Ar.mc]):=hxw;have fU:aG (Iw W1 W1 B m jw g off c):=M5
 have HRP:aG (∀ (Y:aI) (m':Mb),Iw W1 Y B m' jw g off c->ql Y Ar (dO m.rows i)):=fun Y m' hY=>by
  have hl := iy hr1' hY.iw.wrt (fun b hb k => by
   have h1:=hr2 b hb;rcases k with k|k
   ·have:=f1 b k;omega
   ·omega)
  exact BR (lo:=0) (hi:=Y.heap.size) ⟨fr,hl,fun b hb=>⟨cZ _,jd hl b hb⟩⟩ (ok.fit.1 _ (pG hil)) ae9.1 (by omega)
 have hTd:=aq7 W1 B m i n jw g off c W1 fU.out ok;rw[<- S.e1] at hTd;clear hxw M5 f4 hr1 hr1' hr2 hr3 hba aB8 f1 f2 hsz hszA kQ HbA;go_wp2_with fail
 refine hTd.mono ?_;rintro e W2 ⟨rfl,hM2⟩;have jk:aG (Iw W1 W2 B { m with rows:=m.rows.set i (fD m) } jw g off c):=hM2
 clear hTd fU;obtain⟨c0,_⟩:=hM2.id';have c1:=hM2.rws;simp only[bQ] at c0 c1;rw[ok.hid] at c0;have aB9:=nY B i m.rows.length g off c W2 c0 c1 hil;clear c0 c1 hM2;go_wp2_with fail
 refine aB9.mono ?_;rintro e W3 ⟨rfl,hb3⟩;have lC:aG (Iw W1 W3 B { m with rows:=m.rows.set i (fD m) } jw g off c):=jk.out.step hb3
 have yQ:i<(m.rows.set i (fD m)).length:=by rw[bQ];exact hil
 obtain⟨A1,⟨⟨_,_,_,_⟩,d4,_,_,_⟩,_⟩:=lC.out.row (k:=i) S.ok1.fit yQ;simp only[iY hil] at d4;have HId:aG (m.id=(i:Int)):=ok.hid;have MB:aG (i<n):=ok.lt;have aC0:aG ((fB m).ver=(dO m.rows i).ver):=S.ver;have aC1:aG ((fB m).txt=(dO m.rows i).txt):=by rw[aG,as1,ok.own]
 have TK:aG (0<=(fB m).ver/\(fB m).ver<1000000):=by rw[aG,S.ver];exact⟨hokr.ver.1,kC⟩
 have af0:iR (fB m) n:=by
  have:=S.qp.ok i ok.lt;simp only[iY hil] at this;exact this
 have HFo:aG (qo (fB m)):=by
  have := S.qp.fit.1 (fB m) (by
   have:=pG (R:=m.rows.set i (fB m)) (j:=i) (by rw[bQ];exact hil)
   rw[iY hil] at this;exact this)
  exact this
 have Bh:aG (sQ (fB m)/\kH (fB m)<=1048576):=⟨(Qq af0).1,by have:=(Qq af0).2;omega⟩
 have HLn:aG (({ m with rows:=m.rows.set i (fB m),dR:=if jK m=aB then jJ (iT m) (fB m).dU else iT m,done:=jK m }:Mb).rows.length=n):=by rw[aG];simp only[bQ];exact ok.len
 have yR:aG (dO ({ m with rows:=m.rows.set i (fB m),dR:=if jK m=aB then jJ (iT m) (fB m).dU else iT m,done:=jK m }:Mb).rows i=fB m):=by rw[aG];exact iY hil
 have aC2:aG (({ m with rows:=m.rows.set i (fB m),dR:=if jK m=aB then jJ (iT m) (fB m).dU else iT m,done:=jK m }:Mb).id=(i:Int)):=ok.hid
 have TL:aG (lQ (fB m) (dO m.rows i)=aB->({ m with rows:=m.rows.set i (fB m),dR:=if jK m=aB then jJ (iT m) (fB m).dU else iT m,done:=jK m }:Mb)=fM m):=aB5
 have MI:aG (lQ (fB m) (dO m.rows i)=aC->({ ({ m with rows:=m.rows.set i (fB m),dR:=if jK m=aB then jJ (iT m) (fB m).dU else iT m,done:=jK m }:Mb) with rows:=(m.rows.set i (fB m)).set i { fB m with ver:=(fB m).ver+1 } }:Mb)=fM m):=aB6
 clear aB9 hb3 jk aB5 aB6 af0 hb0
 cases hwd:(fD m).wed with
 | true =>
  rw[hwd] at d4;obtain⟨eA,eE⟩:=ae7 ok hd S hwd;have FD:=ar9 W1 B { m with rows:=m.rows.set i (fD m) } i n jw g off c W3 lC.out S.ok1
  rw[eA] at FD;simp only[List.set_set] at FD
  have ET:∀ Y,Iw W1 Y B { m with rows:=m.rows.set i (fB m) } jw g off c->dF dA 144 #[aO (au ⟨B,0,ak⟩)] Y fun e w'=>e=aK (.tuple #[])/\Iw W1 w' B { m with rows:=m.rows.set i (fB m),dR:=if jK m=aB then jJ (iT m) (fB m).dU else iT m,done:=jK m } jw g off c:=fun Y hY=>by
   have h4:iO { m with rows:=m.rows.set i (fB m) } i n:=by
    have:=S.qp;rw[(S.wd hwd).2] at this;exact this
   have:=ar4 W1 B { m with rows:=m.rows.set i (fB m) } i n jw g off c Y hY h4 hd
   rw[eE] at this;exact this
  have Gl:aG (∀ Y,Iw W1 Y B { m with rows:=m.rows.set i (fB m) } jw g off c->dF dA 144 #[aO (au ⟨B,0,ak⟩)] Y fun e w'=>e=aK (.tuple #[])/\Iw W1 w' B { m with rows:=m.rows.set i (fB m),dR:=if jK m=aB then jJ (iT m) (fB m).dU else iT m,done:=jK m } jw g off c):=ET
  clear eA eE hwd S ET;generalize Yf:({ m with rows:=m.rows.set i (fB m),dR:=if jK m=aB then jJ (iT m) (fB m).dU else iT m,done:=jK m }:Mb)=mF at *
  have HmR:aG (mF.rows=m.rows.set i (fB m)):=by rw[aG,<- Yf]
  rw[<- HmR.out] at MI;clear Yf;generalize hmo:fB m=ow at *;generalize dO m.rows i=o at *;go_wp2_with fail
  refine FD.mono ?_;rintro e W4 ⟨rfl,zL⟩;have Yg:=Gl.out W4 zL;clear FD d4 zL Gl;go_wp2_with fail
  refine Yg.mono ?_;rintro e Y ⟨rfl,Fh⟩;have Aq:aG (Iw W1 Y B mF jw g off c):=Fh;clear Yg Fh lC hmo;go_upto_region 7 with fail
  have O4:aG (Bx Y b0 44 #[ah aA o.ver,aj Ar.ta o.txt.length Ar.tc,aj Ar.ga o.got.length Ar.gc,aj Ar.sa o.dQ.length Ar.sc,aF o.wed,aF o.dV,ah aA o.dW,aj Ar.ma o.dU.length Ar.mc]):=Aq.out.bx rW.out HB0.out.1 HB0.out.2;have GR:aG (ql Y Ar o):=HRP.out Y mF Aq.out;obtain⟨c0,_⟩:=Aq.out.id';have c1:=Aq.out.rws;rw[aC2.out] at c0;rw[HLn.out] at c1
  have Yh:aG (∃ Ak:Ra,C8 Y g (off+i*8) (ah aA ow.ver) (aj Ak.ta ow.txt.length Ak.tc) (aj Ak.ga ow.got.length Ak.gc) (aj Ak.sa ow.dQ.length Ak.sc) (aF ow.wed) (aF ow.dV) (ah aA ow.dW) (aj Ak.ma ow.dU.length Ak.mc)/\ql Y Ak ow):=by
   have:=Aq.out.rowP (k:=i) (by rw[HLn.out];exact MB.out) (by rw[yR.out];exact HFo.out) (by rw[yR.out];exact Bh.out.1) (by rw[yR.out];exact Bh.out.2)
   rw[yR.out] at this;exact this
  have rP:aG (∀ Z,Below Y.heap.size Y Z->dF dA 140 #[aO (au ⟨B,0,ak⟩)] Z fun e w'=>e=aK (aO (au ⟨g,off+i*8,ak⟩))/\Below Z.heap.size Z w'):=fun Z hZ=>nY B i n g off c Z (gy hZ c0) (gy hZ c1) MB.out
  have hbd:Below Y.heap.size Y Y.drew:=(Same.drewN Y 1).below
  have KS:∀ Z,Below Y.heap.size Y Z->Z.cell? ⟨b0,0,ak⟩=au (ah aA o.ver)/\Z.cell? ⟨b0,1,ak⟩=au (aj Ar.ta o.txt.length Ar.tc)/\Z.cell? ⟨b0,2,ak⟩=au (aj Ar.ga o.got.length Ar.gc)/\Z.cell? ⟨b0,3,ak⟩=au (aj Ar.sa o.dQ.length Ar.sc)/\Z.cell? ⟨b0,4,ak⟩=au (aF o.wed)/\Z.cell? ⟨b0,5,ak⟩=au (aF o.dV)/\Z.cell? ⟨b0,6,ak⟩=au (ah aA o.dW)/\Z.cell? ⟨b0,7,ak⟩=au (aj Ar.ma o.dU.length Ar.mc):=fun Z hZ=>by
   obtain⟨⟨x0,x1,x2,x3⟩,x4,x5,x6,x7⟩:=Bx.r8 (O4.out.below hZ);exact⟨x0,x1,x2,x3,x4,x5,x6,x7⟩
  clear c0 c1;refine lU (S:=fun Z:aI=>Z.cell? ⟨b0,0,ak⟩=au (ah aA o.ver)/\Z.cell? ⟨b0,1,ak⟩=au (aj Ar.ta o.txt.length Ar.tc)/\Z.cell? ⟨b0,2,ak⟩=au (aj Ar.ga o.got.length Ar.gc)/\Z.cell? ⟨b0,3,ak⟩=au (aj Ar.sa o.dQ.length Ar.sc)/\Z.cell? ⟨b0,4,ak⟩=au (aF o.wed)/\Z.cell? ⟨b0,5,ak⟩=au (aF o.dV)/\Z.cell? ⟨b0,6,ak⟩=au (ah aA o.dW)/\Z.cell? ⟨b0,7,ak⟩=au (aj Ar.ma o.dU.length Ar.mc)) 9 gq ((KS _ hbd)) fun hHeld=>?_
  refine fE (i:=0) rfl ?_;refine fE (i:=1) rfl ?_;refine fE (i:=2) rfl ?_;refine ni (i:=6) rfl hHeld ?_;refine iJ (i:=3) rfl fun K hK=>?_
  go_simp
  go_at_call 140
  refine (rP.out _ hbd).mono ?_;rintro e Y1 ⟨rfl,hb1⟩;have vP:Below Y.heap.size Y Y1:=eU hbd hb1;refine hK.out _ _ (KS _ vP) (fun eP=>?_)
  clear hK hHeld;have hHeld:=eP;try simp only[iC]
  refine fE (i:=4) rfl ?_;obtain⟨Af,⟨⟨d0,d1,d2,d3⟩,d4,d5,d6,d7⟩,hrf⟩:=Yh.out;have tt:∀ {x v},Y.cell? x=au v->Y1.cell? x=au v:=fun h=>gy vP h
  replace d0:=tt d0;replace d1:=tt d1;replace d2:=tt d2;replace d3:=tt d3;replace d4:=tt d4;replace d5:=tt d5;replace d6:=tt d6;replace d7:=tt d7;have hAl:=TJ Af Ar ow o Y1 (hrf.below vP) (GR.out.below vP) aC0.out aC1.out;unfold iK fQ at hAl;clear tt hrf;refine iJ (i:=5) rfl fun K hK=>?_
  go_simp;refine hK.out _ _ (KS _ vP) (fun eP=>?_)
  clear hK hHeld;have hHeld:=eP;try simp only[iC]
  refine iJ (i:=7) rfl fun K hK=>?_
  go_simp
  go_at_call 147
  refine hAl.mono ?_;rintro e Y2 ⟨rfl,hb2⟩;have Au:Below Y.heap.size Y Y2:=eU vP hb2;refine hK.out _ _ (KS _ Au) (fun eP=>?_)
  clear hK hHeld;have hHeld:=eP;try simp only[iC]
  refine iJ (i:=8) rfl fun K hK=>?_
  go_simp;refine hK.out _ _ (KS _ Au) (fun eP=>?_)
  clear hK hHeld;have hHeld:=eP;try simp only[iC]
  refine uO (by kernel_rfl) ?_
  have jk:aG (Iw W1 Y2 B mF jw g off c):=Aq.out.step Au;have BL:aG (∀ Z,Below Y2.heap.size Y2 Z->dF dA 140 #[aO (au ⟨B,0,ak⟩)] Z fun e w'=>e=aK (aO (au ⟨g,off+i*8,ak⟩))/\Below Z.heap.size Z w'):=fun Z hZ=>rP.out Z (eU Au hZ)
  clear hHeld d0 d1 d2 d3 d4 d5 d6 d7 hAl hb1 hb2 vP Au hbd KS rP O4 GR Yh Aq
  cases hsm:lQ ow o with
  | true =>
   have HF:aG (mF=fM m):=TL.out hsm;clear hsm TL MI BL;go_wp2
   first|go_end0|go_ret
   exact⟨rfl,by rw[<- HF.out];exact yJ.out _ _ jk.out⟩
  | false =>
   have HF:aG (({ mF with rows:=mF.rows.set i { ow with ver:=ow.ver+1 } }:Mb)=fM m):=MI.out hsm
   have hO2:=BL.out Y2 (dw _ _);clear hsm TL MI BL;go_wp2_with fail
   refine hO2.mono ?_;rintro e Y3 ⟨rfl,hb3⟩;obtain⟨v1,v2,qQ⟩:=(jk.out.step hb3).put (k:=i) (by rw[HLn.out];exact MB.out) (j:=0) (x:=ah aA ow.ver) (y:=ah aA (ow.ver+1)) (r':={ ow with ver:=ow.ver+1 }) (by rw[yR.out];rfl) (by rw[yR.out];rfl)
   simp only[Nat.add_zero] at v1 v2 qQ;rw[HF.out] at qQ;have iM:aG (Iw W1 (Y3.setCell ⟨g,off+i*8,ak⟩ (ah aA (ow.ver+1))) B (fM m) jw g off c):=qQ;have Jz:=Kr g (off+i*8) ow.ver Y3 v1 v2 TK.out.1 TK.out.2;clear qQ hO2 hb3 v1 v2;go_wp2_with fail
   refine Jz.mono ?_;rintro e w' ⟨rfl,hw'⟩;rw[hw'];clear hw' Jz;go_wp2
   first|go_end0|go_ret
   exact⟨rfl,yJ.out _ _ iM.out⟩
 | false =>
  rw[hwd] at d4;obtain⟨eA,eE⟩:=ae8 ok hd S hwd;have hTc:=aq8 W1 B { m with rows:=m.rows.set i (fD m) } i n jw g off c W3 lC.out S.ok1.XR
  simp only[iY hil,List.set_set] at hTc;rw[eA] at hTc
  have HSn:aG (∀ Y,Iw W1 Y B { m with rows:=m.rows.set i (gW m) } jw g off c->dF dA 146 #[aO (au ⟨B,0,ak⟩)] Y fun e w'=>e=aK (.tuple #[])/\Iw W1 w' B { m with rows:=m.rows.set i (fB m),dR:=if jK m=aB then jJ (iT m) (fB m).dU else iT m,done:=jK m } jw g off c):=fun Y hY=>by
   have:=aq6 W1 B { m with rows:=m.rows.set i (gW m) } i n jw g off c Y hY (S.uw hwd).2.1.XR ok.sl
   simp only at this
   rw[eE] at this;exact this
  clear eA eE hwd S;generalize Yf:({ m with rows:=m.rows.set i (fB m),dR:=if jK m=aB then jJ (iT m) (fB m).dU else iT m,done:=jK m }:Mb)=mF at *
  have HmR:aG (mF.rows=m.rows.set i (fB m)):=by rw[aG,<- Yf]
  rw[<- HmR.out] at MI;clear Yf;generalize hmo:fB m=ow at *;generalize dO m.rows i=o at *;go_wp2_with fail
  refine hTc.mono ?_;rintro e W4 ⟨rfl,zL⟩;have Yg:=HSn.out W4 zL;clear hTc d4 zL HSn;go_wp2_with fail
  refine Yg.mono ?_;rintro e Y ⟨rfl,Fh⟩;have Aq:aG (Iw W1 Y B mF jw g off c):=Fh;clear Yg Fh lC hmo;go_upto_region 7 with fail
  have O4:aG (Bx Y b0 44 #[ah aA o.ver,aj Ar.ta o.txt.length Ar.tc,aj Ar.ga o.got.length Ar.gc,aj Ar.sa o.dQ.length Ar.sc,aF o.wed,aF o.dV,ah aA o.dW,aj Ar.ma o.dU.length Ar.mc]):=Aq.out.bx rW.out HB0.out.1 HB0.out.2;have GR:aG (ql Y Ar o):=HRP.out Y mF Aq.out;obtain⟨c0,_⟩:=Aq.out.id';have c1:=Aq.out.rws;rw[aC2.out] at c0;rw[HLn.out] at c1
  have Yh:aG (∃ Ak:Ra,C8 Y g (off+i*8) (ah aA ow.ver) (aj Ak.ta ow.txt.length Ak.tc) (aj Ak.ga ow.got.length Ak.gc) (aj Ak.sa ow.dQ.length Ak.sc) (aF ow.wed) (aF ow.dV) (ah aA ow.dW) (aj Ak.ma ow.dU.length Ak.mc)/\ql Y Ak ow):=by
   have:=Aq.out.rowP (k:=i) (by rw[HLn.out];exact MB.out) (by rw[yR.out];exact HFo.out) (by rw[yR.out];exact Bh.out.1) (by rw[yR.out];exact Bh.out.2)
   rw[yR.out] at this;exact this
  have rP:aG (∀ Z,Below Y.heap.size Y Z->dF dA 140 #[aO (au ⟨B,0,ak⟩)] Z fun e w'=>e=aK (aO (au ⟨g,off+i*8,ak⟩))/\Below Z.heap.size Z w'):=fun Z hZ=>nY B i n g off c Z (gy hZ c0) (gy hZ c1) MB.out
  have hbd:Below Y.heap.size Y Y.drew:=(Same.drewN Y 1).below
  have KS:∀ Z,Below Y.heap.size Y Z->Z.cell? ⟨b0,0,ak⟩=au (ah aA o.ver)/\Z.cell? ⟨b0,1,ak⟩=au (aj Ar.ta o.txt.length Ar.tc)/\Z.cell? ⟨b0,2,ak⟩=au (aj Ar.ga o.got.length Ar.gc)/\Z.cell? ⟨b0,3,ak⟩=au (aj Ar.sa o.dQ.length Ar.sc)/\Z.cell? ⟨b0,4,ak⟩=au (aF o.wed)/\Z.cell? ⟨b0,5,ak⟩=au (aF o.dV)/\Z.cell? ⟨b0,6,ak⟩=au (ah aA o.dW)/\Z.cell? ⟨b0,7,ak⟩=au (aj Ar.ma o.dU.length Ar.mc):=fun Z hZ=>by
   obtain⟨⟨x0,x1,x2,x3⟩,x4,x5,x6,x7⟩:=Bx.r8 (O4.out.below hZ);exact⟨x0,x1,x2,x3,x4,x5,x6,x7⟩
  clear c0 c1;refine lU (S:=fun Z:aI=>Z.cell? ⟨b0,0,ak⟩=au (ah aA o.ver)/\Z.cell? ⟨b0,1,ak⟩=au (aj Ar.ta o.txt.length Ar.tc)/\Z.cell? ⟨b0,2,ak⟩=au (aj Ar.ga o.got.length Ar.gc)/\Z.cell? ⟨b0,3,ak⟩=au (aj Ar.sa o.dQ.length Ar.sc)/\Z.cell? ⟨b0,4,ak⟩=au (aF o.wed)/\Z.cell? ⟨b0,5,ak⟩=au (aF o.dV)/\Z.cell? ⟨b0,6,ak⟩=au (ah aA o.dW)/\Z.cell? ⟨b0,7,ak⟩=au (aj Ar.ma o.dU.length Ar.mc)) 9 gq ((KS _ hbd)) fun hHeld=>?_
  refine fE (i:=0) rfl ?_;refine fE (i:=1) rfl ?_;refine fE (i:=2) rfl ?_;refine ni (i:=6) rfl hHeld ?_;refine iJ (i:=3) rfl fun K hK=>?_
  go_simp
  go_at_call 140
  refine (rP.out _ hbd).mono ?_;rintro e Y1 ⟨rfl,hb1⟩;have vP:Below Y.heap.size Y Y1:=eU hbd hb1;refine hK.out _ _ (KS _ vP) (fun eP=>?_)
  clear hK hHeld;have hHeld:=eP;try simp only[iC]
  refine fE (i:=4) rfl ?_;obtain⟨Af,⟨⟨d0,d1,d2,d3⟩,d4,d5,d6,d7⟩,hrf⟩:=Yh.out;have tt:∀ {x v},Y.cell? x=au v->Y1.cell? x=au v:=fun h=>gy vP h
  replace d0:=tt d0;replace d1:=tt d1;replace d2:=tt d2;replace d3:=tt d3;replace d4:=tt d4;replace d5:=tt d5;replace d6:=tt d6;replace d7:=tt d7;have hAl:=TJ Af Ar ow o Y1 (hrf.below vP) (GR.out.below vP) aC0.out aC1.out;unfold iK fQ at hAl;clear tt hrf;refine iJ (i:=5) rfl fun K hK=>?_
  go_simp;refine hK.out _ _ (KS _ vP) (fun eP=>?_)
  clear hK hHeld;have hHeld:=eP;try simp only[iC]
  refine iJ (i:=7) rfl fun K hK=>?_
  go_simp
  go_at_call 147
  refine hAl.mono ?_;rintro e Y2 ⟨rfl,hb2⟩;have Au:Below Y.heap.size Y Y2:=eU vP hb2;refine hK.out _ _ (KS _ Au) (fun eP=>?_)
  clear hK hHeld;have hHeld:=eP;try simp only[iC]
  refine iJ (i:=8) rfl fun K hK=>?_
  go_simp;refine hK.out _ _ (KS _ Au) (fun eP=>?_)
  clear hK hHeld;have hHeld:=eP;try simp only[iC]
  refine uO (by kernel_rfl) ?_
  have jk:aG (Iw W1 Y2 B mF jw g off c):=Aq.out.step Au;have BL:aG (∀ Z,Below Y2.heap.size Y2 Z->dF dA 140 #[aO (au ⟨B,0,ak⟩)] Z fun e w'=>e=aK (aO (au ⟨g,off+i*8,ak⟩))/\Below Z.heap.size Z w'):=fun Z hZ=>rP.out Z (eU Au hZ)
  clear hHeld d0 d1 d2 d3 d4 d5 d6 d7 hAl hb1 hb2 vP Au hbd KS rP O4 GR Yh Aq
  cases hsm:lQ ow o with
  | true =>
   have HF:aG (mF=fM m):=TL.out hsm;clear hsm TL MI BL;go_wp2
   first|go_end0|go_ret
   exact⟨rfl,by rw[<- HF.out];exact yJ.out _ _ jk.out⟩
  | false =>
   have HF:aG (({ mF with rows:=mF.rows.set i { ow with ver:=ow.ver+1 } }:Mb)=fM m):=MI.out hsm
   have hO2:=BL.out Y2 (dw _ _);clear hsm TL MI BL;go_wp2_with fail
   refine hO2.mono ?_;rintro e Y3 ⟨rfl,hb3⟩;obtain⟨v1,v2,qQ⟩:=(jk.out.step hb3).put (k:=i) (by rw[HLn.out];exact MB.out) (j:=0) (x:=ah aA ow.ver) (y:=ah aA (ow.ver+1)) (r':={ ow with ver:=ow.ver+1 }) (by rw[yR.out];rfl) (by rw[yR.out];rfl)
   simp only[Nat.add_zero] at v1 v2 qQ;rw[HF.out] at qQ;have iM:aG (Iw W1 (Y3.setCell ⟨g,off+i*8,ak⟩ (ah aA (ow.ver+1))) B (fM m) jw g off c):=qQ;have Jz:=Kr g (off+i*8) ow.ver Y3 v1 v2 TK.out.1 TK.out.2;clear qQ hO2 hb3 v1 v2;go_wp2_with fail
   refine Jz.mono ?_;rintro e w' ⟨rfl,hw'⟩;rw[hw'];clear hw' Jz;go_wp2
   first|go_end0|go_ret
   exact⟨rfl,yJ.out _ _ iM.out⟩
theorem af2 (m:Mb):PL m=(uf m (fM m) aB).1:=by
 unfold PL uf;by_cases h:iG m=aB
 ·rw[if_pos h,if_pos h]
  by_cases hd:m.done=aB
  ·rw[if_pos hd,fM,if_pos (.inl hd)]
  ·rw[if_neg hd,if_pos rfl]
 ·rw[if_neg h,if_neg h]
theorem af4 (ok:iO m i n):(fM m).n=((fM m).rows.length:Int):=by
 unfold fM
 split
 ·rw[ok.hn,ok.len]
 ·simp only[bQ]
  rw[ok.hn,ok.len]
theorem Yi:Xk:=by
 intro A m w hv kC;have a0:=dX w (aH #[ah aA m.id,ah aA m.n,aj A.ra m.rows.length A.rc,aj A.sa m.dR.length A.sc,aF m.done] 47);have a1:=dX (w.alloc (aH #[ah aA m.id,ah aA m.n,aj A.ra m.rows.length A.rc,aj A.sa m.dR.length A.sc,aF m.done] 47)) (aH #[ah aA 0,ah aA 0,aj ak 0 0,aj ak 0 0,aF aC] 47);have hb1:Below w.heap.size w ((w.alloc (aH #[ah aA m.id,ah aA m.n,aj A.ra m.rows.length A.rc,aj A.sa m.dR.length A.sc,aF m.done] 47)).alloc (aH #[ah aA 0,ah aA 0,aj ak 0 0,aj ak 0 0,aF aC] 47)):=eU a0 a1;have hx0:Bx ((w.alloc (aH #[ah aA m.id,ah aA m.n,aj A.ra m.rows.length A.rc,aj A.sa m.dR.length A.sc,aF m.done] 47)).alloc (aH #[ah aA 0,ah aA 0,aj ak 0 0,aj ak 0 0,aF aC] 47)) w.heap.size 47 #[ah aA m.id,ah aA m.n,aj A.ra m.rows.length A.rc,aj A.sa m.dR.length A.sc,aF m.done]:=(Bx.new w _ _).alloc _
 have hx1:Bx ((w.alloc (aH #[ah aA m.id,ah aA m.n,aj A.ra m.rows.length A.rc,aj A.sa m.dR.length A.sc,aF m.done] 47)).alloc (aH #[ah aA 0,ah aA 0,aj ak 0 0,aj ak 0 0,aF aC] 47)) (w.heap.size+1) 47 #[ah aA 0,ah aA 0,aj ak 0 0,aj ak 0 0,aF aC]:=by
  have:=Bx.new (w.alloc (aH #[ah aA m.id,ah aA m.n,aj A.ra m.rows.length A.rc,aj A.sa m.dR.length A.sc,aF m.done] 47)) 47 #[ah aA 0,ah aA 0,aj ak 0 0,aj ak 0 0,aF aC];simp only[bH] at this;exact this
 have uJ:=Kq 109 #[] A m (fM m) aB ((w.alloc (aH #[ah aA m.id,ah aA m.n,aj A.ra m.rows.length A.rc,aj A.sa m.dR.length A.sc,aF m.done] 47)).alloc (aH #[ah aA 0,ah aA 0,aj ak 0 0,aj ak 0 0,aF aC] 47)) (hv.below hb1) (fun _ _=>enters_of Tryz.func109 (by kernel_rfl) rfl _ _)
  (fun hok _ => by
   obtain⟨i,n,ok⟩:=nD.1 hok;exact af4 ok)
  (fun X B fp i n hX hpl ok hd=>(as3 B m i n fp X hpl ok hd (by have:=kC (nD.2 ⟨i,n,ok⟩);rw[ok.own] at this;exact this)).mono (fun e w' h=>.inl ⟨rfl,h.1,h.2⟩))
 have HZ:=dP (af2 m);unfold iU iq at uJ;have HR0:=dP hx1;have HB0:=dP hb1;obtain⟨c0,c1,c2,c3,c4⟩:=Bx.r5 hx0;clear a0 a1 hb1 hx0 hx1 hv kC;unfold iU iq;generalize uf m (fM m) aB=pp at *;obtain⟨pm,pf⟩:=pp;simp only at uJ HZ
 go_enter Tryz.func70,Tryz.ntmps70
 go_wp2_with fail
 generalize (w.alloc (aH #[ah aA m.id,ah aA m.n,aj A.ra m.rows.length A.rc,aj A.sa m.dR.length A.sc,aF m.done] 47)).alloc (aH #[ah aA 0,ah aA 0,aj ak 0 0,aj ak 0 0,aF aC] 47)=W0 at *;refine uJ.mono ?_;rintro e w1 ⟨A2,rfl,fp,hl,hf,hb⟩;have hba:=dX w1 (aH #[ah aA pm.id,ah aA pm.n,aj A2.ra pm.rows.length A2.rc,aj A2.sa pm.dR.length A2.sc,aF pm.done] 47);have hx2:=Bx.new w1 47 #[ah aA pm.id,ah aA pm.n,aj A2.ra pm.rows.length A2.rc,aj A2.sa pm.dR.length A2.sc,aF pm.done];have hR:=(HR0.out.below hb).below hba
 have HN:aG (∀ {z0 z1 z2 z3 z4:aJ},kE w ((((((w1.alloc (aH #[ah aA pm.id,ah aA pm.n,aj A2.ra pm.rows.length A2.rc,aj A2.sa pm.dR.length A2.sc,aF pm.done] 47)).setCell ⟨w.heap.size+1,0,ak⟩ z0).setCell ⟨w.heap.size+1,1,ak⟩ z1).setCell ⟨w.heap.size+1,2,ak⟩ z2).setCell ⟨w.heap.size+1,3,ak⟩ z3).setCell ⟨w.heap.size+1,4,ak⟩ z4) (jB pm) (jC A2 pm)):=fun {z0 z1 z2 z3 z4}=>by
  have hB1:=eU HB0.out hb;have hB2:=eU hB1 hba;have h0:=HR0.out.lt;exact⟨fp,iy (gG hl hba) (qG _ (w.heap.size+1)) (fun x hx e=>by have:=hf x hx;omega),fun x hx=>by have:=hf x hx;omega,(qG _ (w.heap.size+1)).below hB2 hB2.size (fun x e=>by omega)⟩
 obtain⟨z0,z1,z2,z3,z4⟩:=Bx.r5 hR;obtain⟨r0,r1,r2,r3,r4⟩:=hR.f5;clear c0 c1 c2 c3 c4;obtain⟨c0,c1,c2,c3,c4⟩:=Bx.r5 hx2;clear uJ hl hf hb hR hba hx2;unfold iU iq;go_upto_region 2 with fail
 generalize w1.alloc (aH #[ah aA pm.id,ah aA pm.n,aj A2.ra pm.rows.length A2.rc,aj A2.sa pm.dR.length A2.sc,aF pm.done] 47)=W2 at *;go_wp2;refine bY (v:=iU A2 pm) (by simp[results,Tryz.results70,go_sem,iU,iq, *]) rfl ?_
 rw[HZ.out];exact⟨_,rfl,HN.out⟩
theorem Yj (m:Mb) (who:Int):J3 m who=uf m (fJ m who).1 (fJ m who).2:=by
 unfold J3 uf
 split
 ·by_cases hd:m.done=aB
  ·rw[if_pos hd,fJ,if_pos (.inr (.inr (.inr (.inl hd))))]
  ·rw[if_neg hd]
   cases hf:(fJ m who).2 with
   | true=>rw[if_pos rfl,<- hf]
   | false =>
    rw[if_neg (by decide)]
    unfold fJ at hf ⊢
    split at hf
    ·rename_i h;rw[if_pos h]
    ·cases hf
 ·rfl
theorem af5 (B:Nat) (who:Int) (b1:Nat) (X:aI) (R:Ending->aI->Prop) (hc:X.cell? ⟨b1,0,ak⟩=au (ah aA who)) (hS:dF dA 161 #[aO (au ⟨B,0,ak⟩),ah aA who] X R) (hR:∀ e w',R e w'->e=aK (.tuple #[])\/Gu e) :
  dF dA 160 #[aO (au ⟨B,0,ak⟩),aO (au ⟨b1,0,ak⟩)] X R:=by
 have HR:=dP hR;clear hR;go_enter Tryz.func160,Tryz.ntmps160
 go_wp2_with fail
 refine hS.mono ?_;intro e w1 hRe;rcases HR.out e w1 hRe with rfl|⟨T,v,rfl⟩
 ·have I9:aG (R (aK (.tuple #[])) w1):=hRe
  clear hRe hS;go_wp2
  first|go_end0|go_ret
  exact I9.out
 ·exact⟨rfl,hRe⟩
theorem Yk:Xi:=by
 intro A m who w hv h6;have hmf:∀ (fn:Fn) (first cap:Array aJ) (w:aI),(Instr.makeFunc fn first cap).run dA w=.ok (.func fn first cap) w:=fun _ _ _ _=>rfl
 have a0:=dX w (aH #[ah aA m.id,ah aA m.n,aj A.ra m.rows.length A.rc,aj A.sa m.dR.length A.sc,aF m.done] 47);have hb0:=a0;have a1:=dX (w.alloc (aH #[ah aA m.id,ah aA m.n,aj A.ra m.rows.length A.rc,aj A.sa m.dR.length A.sc,aF m.done] 47)) (aH #[ah aA who] 2);have hb1:=eU hb0 a1;have a2:=dX ((w.alloc (aH #[ah aA m.id,ah aA m.n,aj A.ra m.rows.length A.rc,aj A.sa m.dR.length A.sc,aF m.done] 47)).alloc (aH #[ah aA who] 2)) (aH #[ah aA 0,ah aA 0,aj ak 0 0,aj ak 0 0,aF aC] 47);have hb2:=eU hb1 a2
 have hx0:Bx (((w.alloc (aH #[ah aA m.id,ah aA m.n,aj A.ra m.rows.length A.rc,aj A.sa m.dR.length A.sc,aF m.done] 47)).alloc (aH #[ah aA who] 2)).alloc (aH #[ah aA 0,ah aA 0,aj ak 0 0,aj ak 0 0,aF aC] 47)) (w.heap.size) 47 #[ah aA m.id,ah aA m.n,aj A.ra m.rows.length A.rc,aj A.sa m.dR.length A.sc,aF m.done]:=by
  have:=((Bx.new w 47 #[ah aA m.id,ah aA m.n,aj A.ra m.rows.length A.rc,aj A.sa m.dR.length A.sc,aF m.done]).alloc (aH #[ah aA who] 2)).alloc (aH #[ah aA 0,ah aA 0,aj ak 0 0,aj ak 0 0,aF aC] 47);try simp only[bH] at this
  exact this
 have hx1:Bx (((w.alloc (aH #[ah aA m.id,ah aA m.n,aj A.ra m.rows.length A.rc,aj A.sa m.dR.length A.sc,aF m.done] 47)).alloc (aH #[ah aA who] 2)).alloc (aH #[ah aA 0,ah aA 0,aj ak 0 0,aj ak 0 0,aF aC] 47)) (w.heap.size+1) 2 #[ah aA who]:=by
  have:=(Bx.new (w.alloc (aH #[ah aA m.id,ah aA m.n,aj A.ra m.rows.length A.rc,aj A.sa m.dR.length A.sc,aF m.done] 47)) 2 #[ah aA who]).alloc (aH #[ah aA 0,ah aA 0,aj ak 0 0,aj ak 0 0,aF aC] 47);try simp only[bH] at this
  exact this
 have hx2:Bx (((w.alloc (aH #[ah aA m.id,ah aA m.n,aj A.ra m.rows.length A.rc,aj A.sa m.dR.length A.sc,aF m.done] 47)).alloc (aH #[ah aA who] 2)).alloc (aH #[ah aA 0,ah aA 0,aj ak 0 0,aj ak 0 0,aF aC] 47)) (w.heap.size+1+1) 47 #[ah aA 0,ah aA 0,aj ak 0 0,aj ak 0 0,aF aC]:=by
  have:=Bx.new ((w.alloc (aH #[ah aA m.id,ah aA m.n,aj A.ra m.rows.length A.rc,aj A.sa m.dR.length A.sc,aF m.done] 47)).alloc (aH #[ah aA who] 2)) 47 #[ah aA 0,ah aA 0,aj ak 0 0,aj ak 0 0,aF aC];try simp only[bH] at this
  exact this
 have hP:=hv.below hb2
 have uJ:=Kq 160 #[aO (au ⟨w.heap.size+1,0,ak⟩)] A m (fJ m who).1 (fJ m who).2 (((w.alloc (aH #[ah aA m.id,ah aA m.n,aj A.ra m.rows.length A.rc,aj A.sa m.dR.length A.sc,aF m.done] 47)).alloc (aH #[ah aA who] 2)).alloc (aH #[ah aA 0,ah aA 0,aj ak 0 0,aj ak 0 0,aF aC] 47)) hP (fun _ _=>enters_of Tryz.func160 (by kernel_rfl) rfl _ _)
  (fun hok hf => by
   obtain⟨i,n,ok⟩:=nD.1 hok;have:=(Ew ok who).1;rw[this.hn,this.len])
  (fun X B fp i n hX hpl ok hd => af5 B who (w.heap.size + 1) X _ ((hx1.below hX).at 0 rfl) (aq2 B m i n who fp X hpl ok hd) (fun e w' h => by
   rcases h with ⟨_,h,_⟩|⟨_,h,_⟩
   ·exact .inl h
   ·exact .inr h))
 have HZ0:=Yj m who;unfold iU iq at uJ;have hWl:=hx2.lt;obtain⟨c0,c1,c2,c3,c4⟩:=Bx.r5 hx0;have HR0:=dP hx2;have HB0:=dP hb2;have HZ:=dP HZ0;clear a0 a1 a2 hb0 hb1 hb2 hx0 hx1 hx2 hP hv HZ0;unfold iU iq;generalize uf m (fJ m who).1 (fJ m who).2=pm at *;go_enter Tryz.func126,Tryz.ntmps126
 go_wp2_with fail
 generalize (((w.alloc (aH #[ah aA m.id,ah aA m.n,aj A.ra m.rows.length A.rc,aj A.sa m.dR.length A.sc,aF m.done] 47)).alloc (aH #[ah aA who] 2)).alloc (aH #[ah aA 0,ah aA 0,aj ak 0 0,aj ak 0 0,aF aC] 47))=W0 at *;refine uJ.mono ?_;rintro e w1 ⟨A2,rfl,fp,hl,hf,hb⟩;have hR:=HR0.out.below hb;have hsz:=hb.size
 have HN:aG (∀ {z0 z1 z2 z3 z4:aJ},kE w (((((w1.setCell ⟨w.heap.size+1+1,0,ak⟩ z0).setCell ⟨w.heap.size+1+1,1,ak⟩ z1).setCell ⟨w.heap.size+1+1,2,ak⟩ z2).setCell ⟨w.heap.size+1+1,3,ak⟩ z3).setCell ⟨w.heap.size+1+1,4,ak⟩ z4) (jB pm.1) (jC A2 pm.1)):=fun {z0 z1 z2 z3 z4}=>by
  have hB1:=eU HB0.out hb;exact⟨fp,iy hl (qG w1 (w.heap.size+1+1)) (fun x hx e=>by have:=hf x hx;omega),fun x hx=>by have:=hf x hx;omega,(qG w1 (w.heap.size+1+1)).below hB1 hB1.size (fun x e=>by omega)⟩
 obtain⟨z0,z1,z2,z3,z4⟩:=Bx.r5 hR;obtain⟨r0,r1,r2,r3,r4⟩:=hR.f5;clear uJ hl hf hb hR c0 c1 c2 c3 c4;unfold iU iq;go_wp2;refine bY (v:=.tuple #[iU A2 pm.1,aF pm.2]) (by simp[results,Tryz.results126,go_sem,iU,iq, *]) rfl ?_
 rw[HZ.out];exact⟨_,rfl,HN.out⟩
end Go.Proofs.YtafimeakbdmkjaaGreat