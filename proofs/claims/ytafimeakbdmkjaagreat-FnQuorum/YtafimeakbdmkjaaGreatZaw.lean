/-
  Texts in one.
-/
import Derived.Test.YtafimeakbdmkjaaGreatZaa
import Derived.Test.YtafimeakbdmkjaaGreatZav
import Derived.Test.YtafimeakbdmkjaaGreatZao
import Derived.Test.YtafimeakbdmkjaaGreatZam
import Derived.Test.YtafimeakbdmkjaaGreatZat
import Derived.Test.YtafimeakbdmkjaaGreatZar
namespace Go.Proofs.YtafimeakbdmkjaaGreat
set_option linter.unusedVariables false
set_option linter.unusedSimpArgs false
open Go.RowKit Go.Sort
set_option maxRecDepth 100000
set_option maxHeartbeats 12800000
theorem ah7 (w0:World) (B:Nat) (m:Mb) (i n:Nat) (fp:Fp) (g off c:Nat) (X:World) (M:Iw w0 X B m fp g off c) (ok:OkW m i n) (L:List Nat) (la:Option Addr) (lc:Nat) (hv:Vec X la (lN L).length (lN L)) (hLn:∀ k∈L,k<n) (EU:L.length≤5) (hL0:0<L.length) :
  Calls Tryz.prog 172 #[.pointer (some ⟨B,0,none⟩),.slice la L.length lc] X fun e w'=>e=.returned (.tuple #[])∧Iw w0 w' B { m with rows:=m.rows.set i (lead m.rows i (ah m.rows i) L) } fp g off c:=by
 have bH:=dH;have hil:i<m.rows.length:=by rw[ok.len];exact ok.lt
 have HM:=aj M;have cO:=aj ok;have HV:=aj hv;have HL:=aj hLn;have Pg:Hid (({ m with rows:=m.rows.set i (ah m.rows i) }:Mb)=m):=by rw[Hid,lg (dW hil)]
 obtain⟨c0,_⟩:=M.id';rw[ok.hid] at c0;have p0:∀ q:Bk X,q.w.cell? ⟨B,0,none⟩=some (.int .i64 (i:Int)):=fun q=>(q.h.cell (World.block_lt_of_cell? _ _ c0)).trans c0
 have hH:=O5 w0 B m i n (i:Int) fp g off c X M ok;have hA:∀ q:Bk X,Calls Tryz.prog 186 #[.pointer (some ⟨B,0,none⟩),.slice la L.length lc] q.w fun e w'=>e=.returned (.bool (iH m.rows (ah m.rows i) L))∧Below q.w.heap.size q.w w':=fun q=>ag9 w0 B m i n fp g off c q.w (HM.out.step q.h) cO.out L la lc (HV.out.below q.h (Nat.le_refl _)) HL.out EU
 have hTm:Hid ((endOf m.rows L).length≤100∧True):=by
  refine⟨?_,trivial⟩;unfold endOf;have h5:=ok.n5
  split
  ·obtain ⟨h1,_⟩ := vJ (R := m.rows) h5 (L := L) (by intro e;rw [e] at hL0;cases hL0) (fun k hk => by
    have h:=ok.ok k (hLn k hk);exact⟨h.gl,(fF h.n5 h.gl).1 ⟨h.got,h.g12⟩⟩)
   omega
  ·rcases (xA m.rows L (-1,[])).1 with h|⟨k,hk,hr,h⟩
   ·rw[h];simp
   ·rw[h]
    have h2:=((ok.ok k (hLn k hk)).aB hr).2.2.2.1;simp only
    omega
 have HN:Hid (¬ ((!(ah m.rows i).aB||decide ((ah m.rows i).aC<(i:Int)))=true∧iH m.rows (ah m.rows i) L=true)→lead m.rows i (ah m.rows i) L=ah m.rows i):=fun h=>by
  unfold lead
  split
  ·rfl
  ·rename_i h1
   rw[if_neg];intro h2;refine h ⟨?_,h2⟩
   cases hr:(ah m.rows i).aB with
   | false=>rfl
   | true =>
    simp only[Bool.not_true,Bool.false_or,decide_eq_true_eq]
    rcases Int.lt_or_le (ah m.rows i).aC (i:Int) with h3|h3
    ·exact h3
    ·exact absurd ⟨hr,h3⟩ h1
 have HY:Hid ((!(ah m.rows i).aB||decide ((ah m.rows i).aC<(i:Int)))=true→iH m.rows (ah m.rows i) L=true→lead m.rows i (ah m.rows i) L={ ah m.rows i with aB:=true,aC:=(i:Int),aA:=endOf m.rows L }):=fun h1 h2=>by
  unfold lead;rw[if_neg,if_pos h2];rintro⟨h3,h4⟩;rw[h3] at h1;simp only[Bool.not_true,Bool.false_or,decide_eq_true_eq] at h1;omega
 generalize IE:(!(ah m.rows i).aB||decide ((ah m.rows i).aC<(i:Int)))=he at *
 generalize hlo:iH m.rows (ah m.rows i) L=lo at *;clear M c0 hv IE hlo
 cases he with
 | false =>
  have HE:Hid (lead m.rows i (ah m.rows i) L=ah m.rows i):=HN.out (fun h=>by cases h.1)
  clear HN HY;go_enter Tryz.func172,Tryz.ntmps172
  have p1:=p0 ⟨X,Below.refl _ _⟩;simp only at p1
  clear p0 hA;go_wp2_with (go_at_call 184;refine hH.mono ?_;rintro e w1 ⟨rfl,hb1⟩;have HB1:Hid (Below X.heap.size X w1):=hb1;clear hb1 p1)
  first|go_end0|go_ret
  exact⟨rfl,by rw[HE.out,Pg.out];exact HM.out.step HB1.out⟩
 | true =>
 cases lo with
 | false =>
  have HE:Hid (lead m.rows i (ah m.rows i) L=ah m.rows i):=HN.out (fun h=>by cases h.2)
  clear HN HY;go_enter Tryz.func172,Tryz.ntmps172
  have p1:=p0 ⟨X,Below.refl _ _⟩;simp only at p1
  go_wp2_with fail
  refine hH.mono ?_;rintro e w1 ⟨rfl,hb1⟩;have HB1:=aj hb1;have hA1:=hA ⟨w1,hb1⟩;simp only at hA1
  clear hb1 p1 hA;go_wp2_with fail
  refine hA1.mono ?_;rintro e w2 ⟨rfl,hb2⟩;have HB2:=aj hb2;clear hb2 hA1;go_wp2_with fail
  first|go_end0|go_ret
  exact⟨rfl,by rw[HE.out,Pg.out];exact (HM.out.step HB1.out).step HB2.out⟩
 | true =>
  have HE:=aj (HY.out rfl rfl);clear HN HY;go_enter Tryz.func172,Tryz.ntmps172
  have p1:=p0 ⟨X,Below.refl _ _⟩;simp only at p1
  go_wp2_with fail
  refine hH.mono ?_;rintro e w1 ⟨rfl,hb1⟩;have HB1:=aj hb1;have hA1:=hA ⟨w1,hb1⟩;simp only at hA1
  clear hb1 p1 hA;go_wp2_with fail
  refine hA1.mono ?_;rintro e w2 ⟨rfl,hb2⟩;have HB2:=aj hb2;clear hb2 hA1;go_upto_region 1 with fail
  have UF:=aj (HB1.out.trans (HB2.out.mono HB1.out.size));have hbd:=(Same.drewN w2 1).below;have KS:∀ Z,Below w2.heap.size w2 Z→Z.cell? ⟨B,0,none⟩=some (.int .i64 (i:Int)):=fun Z hZ=>p0 ⟨Z,UF.out.trans (hZ.mono UF.out.size)⟩
  have HT:=ah6 w0 B m i n fp g off c w2.drew ((HM.out.step UF.out).step hbd) cO.out L la lc ((HV.out.below UF.out (Nat.le_refl _)).below hbd (Nat.le_refl _)) HL.out EU hL0;clear hH p0 HB1 HB2;refine jE (S:=fun Z:World=>Z.cell? ⟨B,0,none⟩=some (.int .i64 (i:Int))) 9 bH ((KS _ hbd)) fun hHeld=>?_
  refine aS (i:=0) rfl ?_;refine aS (i:=1) rfl ?_;refine aS (i:=2) rfl ?_;refine aS (i:=3) rfl ?_;refine kJ (i:=4) rfl hHeld ?_;refine aS (i:=5) rfl ?_;refine aS (i:=6) rfl ?_;refine dI (i:=7) rfl fun K hK=>?_
  go_simp
  go_at_call 187
  refine HT.mono ?_;rintro e w3 ⟨ta,tc,rfl,hvt,hb3⟩;have XH:=hbd.trans (hb3.mono hbd.size);have M3:=((HM.out.step UF.out).step XH);have hEb:=O6 w0 B m i n (i:Int) (endOf m.rows L) ta tc fp g off c w3 M3 cO.out hvt hTm.out.1;refine hK.out _ _ (KS _ XH) (fun aK=>?_)
  clear hK hHeld;have hHeld:=aK;try simp only[dw]
  refine dI (i:=8) rfl fun K hK=>?_
  go_simp
  go_at_call 185
  refine hEb.mono ?_;rintro e w4 ⟨rfl,sH⟩;have iR:=aj sH
  have h40:w4.cell? ⟨B,0,none⟩=some (.int .i64 (i:Int)):=by
   have:=sH.id'.1;simp only at this
   rw[cO.out.hid] at this;exact this
  refine hK.out _ _ h40 (fun aK=>?_)
  clear hK hHeld;have hHeld:=aK;try simp only[dw]
  refine pX (by kernel_rfl) ?_
  clear hHeld hEb M3 sH h40 hvt hb3 XH HT KS hbd;try go_wp2
  first|go_end0|go_ret
  exact⟨rfl,by rw[HE.out];exact iR.out⟩
def zf (m:Mb) (i n:Nat):Rw:=if (aP n (ah m.rows i).ak).getD 0 0≠i then adopt m.rows i (ah m.rows i) ((aP n (ah m.rows i).ak).getD 0 0) else if n<2*(aP n (ah m.rows i).ak).length then lead m.rows i (ah m.rows i) (aP n (ah m.rows i).ak) else ah m.rows i
theorem ah8 (w0:World) (B:Nat) (m:Mb) (i n:Nat) (fp:Fp) (g off c:Nat) (X:World) (M:Iw w0 X B m fp g off c) (ok:dO m i n) :
  Calls Tryz.prog 143 #[.pointer (some ⟨B,0,none⟩)] X fun e w'=>e=.returned (.tuple #[])∧Iw w0 w' B { m with rows:=m.rows.set i (zf m i n) } fp g off c:=by
 have hil:i<m.rows.length:=by rw[ok.len];exact ok.lt
 have fG:=ok.n5;have hL:=Gv w0 B m i n fp g off c X M ok;have ig:=aj M;have HLn:Hid (∀ k∈aP n (ah m.rows i).ak,k<n):=fun k hk=>(dY.1 hk).1
 have HLi:Hid (0<(aP n (ah m.rows i).ak).length):=List.length_pos_of_mem (dY.2 ⟨ok.lt,ok.self⟩);have EU:=oP n (ah m.rows i).ak;have HE:Hid (zf m i n=if (aP n (ah m.rows i).ak).getD 0 0≠i then adopt m.rows i (ah m.rows i) ((aP n (ah m.rows i).ak).getD 0 0) else if n<2*(aP n (ah m.rows i).ak).length then lead m.rows i (ah m.rows i) (aP n (ah m.rows i).ak) else ah m.rows i):=rfl
 have Pg:Hid (({ m with rows:=m.rows.set i (ah m.rows i) }:Mb)=m):=by rw[Hid,lg (dW hil)]
 generalize zf m i n=rE at *;generalize Dq:aP n (ah m.rows i).ak=L at *;have hL5:L.length≤5:=by omega
 clear Dq M;go_enter Tryz.func143,Tryz.ntmps143
 go_wp2_with fail
 refine hL.mono ?_;rintro e wl ⟨la,lc,rfl,fl,hl1,hl2,hl3⟩;rw[eP] at hl1 ⊢;have nP:Vec wl la (lN L).length (lN L):=jo (by rw[eP];exact hl1) (sW HLn.out (by omega))
 have Dw:=aj nP;have bF:=aj (ig.out.step hl3);obtain⟨c0,_⟩:=bF.out.id';rw[ok.hid] at c0;have hMs:=OE B m.rows.length c L.length lc (some ⟨g,off,none⟩) la wl bF.out.rws (by omega) (by rw[ok.len];exact fG.2)
 rw[ok.len] at hMs;have hl0:=HLi.out;rcases nP.2.2 with hz|⟨lb,lo,hla,hlc⟩
 ·rw[eP] at hz;omega
 have hlk:=hlc 0 (by rw[eP];exact hl0)
 rw[rX hl0,Nat.add_zero] at hlk;have HF:=aj (HLn.out _ (jq hl0));have hEs:=ah1 w0 B m i n (L.getD 0 0) fp g off c wl bF.out ok.Ur HF.out;have ZE:=ah7 w0 B m i n fp g off c wl bF.out ok.Ur L la lc Dw.out HLn.out hL5 hl0;generalize L.getD 0 0=f at *;have l1:(0:Int)<(L.length:Int):=by omega
 rw[hla] at hMs ZE ⊢;clear hl1 hl2 hl3 hL ig nP hlc hla;by_cases hfi:f=i
 ·have e1:((f:Int) != (i:Int))=false:=by simp[hfi]
  by_cases hmj:n<2*L.length
  ·have HN:Hid (rE=lead m.rows i (ah m.rows i) L):=by rw[Hid,HE.out,if_neg (by simp[hfi]),if_pos hmj]
   rw[decide_eq_true hmj] at hMs;clear HE hfi hmj hEs;go_wp2_with (first|(go_at_call 171;refine hMs.mono ?_;rintro e w' ⟨rfl,hw'⟩;rw[hw'];clear hw')|(go_at_call 172;refine ZE.mono ?_;rintro e w2 ⟨rfl,hM2⟩;have eF:Hid (Iw w0 w2 B { m with rows:=m.rows.set i (lead m.rows i (ah m.rows i) L) } fp g off c):=hM2;clear hM2))
   first|go_end0|go_ret
   exact⟨rfl,by rw[HN.out];exact eF.out⟩
  ·have HN:Hid (rE=ah m.rows i):=by rw[Hid,HE.out,if_neg (by simp[hfi]),if_neg hmj]
   rw[decide_eq_false hmj] at hMs;clear HE hfi hmj hEs ZE;go_wp2_with (go_at_call 171;refine hMs.mono ?_;rintro e w' ⟨rfl,hw'⟩;rw[hw'];clear hw')
   first|go_end0|go_ret
   exact⟨rfl,by rw[HN.out,Pg.out];exact bF.out⟩
 ·have e1:((f:Int) != (i:Int))=true:=by simp;omega
  have HN:Hid (rE=adopt m.rows i (ah m.rows i) f):=by rw[Hid,HE.out,if_pos hfi]
  clear HE hfi hMs ZE;go_wp2_with (go_at_call 170;refine hEs.mono ?_;rintro e w2 ⟨rfl,hM2⟩;have eF:Hid (Iw w0 w2 B { m with rows:=m.rows.set i (adopt m.rows i (ah m.rows i) f) } fp g off c):=hM2;clear hM2)
  first|go_end0|go_ret
  exact⟨rfl,by rw[HN.out];exact eF.out⟩
theorem aA9 (pA pB pC pD qA qB qC qD:Option Addr) (pt pg ps pm pa pb pc pe qt qg qs qm qa qb qc qe:Nat) (v py qy:Int) (pw pd qw qd b3:Bool) (w W:World) (hW:(w.alloc (.cells #[.int .i64 v,.slice pA pt pa,.slice pB pg pb,.slice pC ps pc,.bool pw,.bool pd,.int .i64 py,.slice pD pm pe] 44)).alloc (.cells #[.int .i64 v,.slice qA qt qa,.slice qB qg qb,.slice qC qs qc,.bool qw,.bool qd,.int .i64 qy,.slice qD qm qe] 44)=W) (hx:Bx W w.heap.size 44 #[.int .i64 v,.slice pA pt pa,.slice pB pg pb,.slice pC ps pc,.bool pw,.bool pd,.int .i64 py,.slice pD pm pe]) (hy:Bx W (w.heap.size+1) 44 #[.int .i64 v,.slice qA qt qa,.slice qB qg qb,.slice qC qs qc,.bool qw,.bool qd,.int .i64 qy,.slice qD qm qe]) (hB:Below w.heap.size w W) (e1:(pw==qw)=false) :
  Calls Tryz.prog 147 #[.agg #[.int .i64 v,.slice pA pt pa,.slice pB pg pb,.slice pC ps pc,.bool pw,.bool pd,.int .i64 py,.slice pD pm pe],.agg #[.int .i64 v,.slice qA qt qa,.slice qB qg qb,.slice qC qs qc,.bool qw,.bool qd,.int .i64 qy,.slice qD qm qe]] w fun e w'=>e=.returned (.bool false)∧Below w.heap.size w w':=by
 obtain⟨⟨c0,c1,c2,c3⟩,c4,c5,c6,c7⟩:=Bx.r8 hx;obtain⟨⟨d0,d1,d2,d3⟩,d4,d5,d6,d7⟩:=Bx.r8 hy;have HB:=aj hB;have e0:(v==v)=true:=by simp
 clear hx hy hB;go_enter Tryz.func147,Tryz.ntmps147
 go_upto_region 1 with fail
 try rw[hW]
 clear hW;go_wp2_with fail
 go_ret
 exact⟨rfl,by first|exact HB.out|exact bg HB.out⟩
theorem aB0 (pA pB pC pD qA qB qC qD:Option Addr) (pt pg ps pm pa pb pc pe qt qg qs qm qa qb qc qe:Nat) (v py qy:Int) (pw pd qw qd b3:Bool) (w W:World) (hW:(w.alloc (.cells #[.int .i64 v,.slice pA pt pa,.slice pB pg pb,.slice pC ps pc,.bool pw,.bool pd,.int .i64 py,.slice pD pm pe] 44)).alloc (.cells #[.int .i64 v,.slice qA qt qa,.slice qB qg qb,.slice qC qs qc,.bool pw,.bool qd,.int .i64 qy,.slice qD qm qe] 44)=W) (hx:Bx W w.heap.size 44 #[.int .i64 v,.slice pA pt pa,.slice pB pg pb,.slice pC ps pc,.bool pw,.bool pd,.int .i64 py,.slice pD pm pe]) (hy:Bx W (w.heap.size+1) 44 #[.int .i64 v,.slice qA qt qa,.slice qB qg qb,.slice qC qs qc,.bool pw,.bool qd,.int .i64 qy,.slice qD qm qe]) (hB:Below w.heap.size w W) (e2:(pd==qd)=false) :
  Calls Tryz.prog 147 #[.agg #[.int .i64 v,.slice pA pt pa,.slice pB pg pb,.slice pC ps pc,.bool pw,.bool pd,.int .i64 py,.slice pD pm pe],.agg #[.int .i64 v,.slice qA qt qa,.slice qB qg qb,.slice qC qs qc,.bool pw,.bool qd,.int .i64 qy,.slice qD qm qe]] w fun e w'=>e=.returned (.bool false)∧Below w.heap.size w w':=by
 obtain⟨⟨c0,c1,c2,c3⟩,c4,c5,c6,c7⟩:=Bx.r8 hx;obtain⟨⟨d0,d1,d2,d3⟩,d4,d5,d6,d7⟩:=Bx.r8 hy;have HB:=aj hB;have e0:(v==v)=true:=by simp
 clear hx hy hB;go_enter Tryz.func147,Tryz.ntmps147
 go_upto_region 1 with fail
 try rw[hW]
 clear hW;go_wp2_with fail
 go_ret
 exact⟨rfl,by first|exact HB.out|exact bg HB.out⟩
theorem aB1 (pA pB pC pD qA qB qC qD:Option Addr) (pt pg ps pm pa pb pc pe qt qg qs qm qa qb qc qe:Nat) (v py qy:Int) (pw pd qw qd b3:Bool) (w W:World) (hW:(w.alloc (.cells #[.int .i64 v,.slice pA pt pa,.slice pB pg pb,.slice pC ps pc,.bool pw,.bool pd,.int .i64 py,.slice pD pm pe] 44)).alloc (.cells #[.int .i64 v,.slice qA qt qa,.slice qB qg qb,.slice qC qs qc,.bool pw,.bool pd,.int .i64 qy,.slice qD qm qe] 44)=W) (hx:Bx W w.heap.size 44 #[.int .i64 v,.slice pA pt pa,.slice pB pg pb,.slice pC ps pc,.bool pw,.bool pd,.int .i64 py,.slice pD pm pe]) (hy:Bx W (w.heap.size+1) 44 #[.int .i64 v,.slice qA qt qa,.slice qB qg qb,.slice qC qs qc,.bool pw,.bool pd,.int .i64 qy,.slice qD qm qe]) (hB:Below w.heap.size w W) (e3:(py==qy)=false) :
  Calls Tryz.prog 147 #[.agg #[.int .i64 v,.slice pA pt pa,.slice pB pg pb,.slice pC ps pc,.bool pw,.bool pd,.int .i64 py,.slice pD pm pe],.agg #[.int .i64 v,.slice qA qt qa,.slice qB qg qb,.slice qC qs qc,.bool pw,.bool pd,.int .i64 qy,.slice qD qm qe]] w fun e w'=>e=.returned (.bool false)∧Below w.heap.size w w':=by
 obtain⟨⟨c0,c1,c2,c3⟩,c4,c5,c6,c7⟩:=Bx.r8 hx;obtain⟨⟨d0,d1,d2,d3⟩,d4,d5,d6,d7⟩:=Bx.r8 hy;have HB:=aj hB;have e0:(v==v)=true:=by simp
 clear hx hy hB;go_enter Tryz.func147,Tryz.ntmps147
 go_upto_region 1 with fail
 try rw[hW]
 clear hW;go_wp2_with fail
 go_ret
 exact⟨rfl,by first|exact HB.out|exact bg HB.out⟩
theorem aB2 (pA pB pC pD qA qB qC qD:Option Addr) (pt pg ps pm pa pb pc pe qt qg qs qm qa qb qc qe:Nat) (v py qy:Int) (pw pd qw qd b3:Bool) (w W:World) (hW:(w.alloc (.cells #[.int .i64 v,.slice pA pt pa,.slice pB pg pb,.slice pC ps pc,.bool pw,.bool pd,.int .i64 py,.slice pD pm pe] 44)).alloc (.cells #[.int .i64 v,.slice qA qt qa,.slice qB qg qb,.slice qC qs qc,.bool pw,.bool pd,.int .i64 py,.slice qD qm qe] 44)=W) (hx:Bx W w.heap.size 44 #[.int .i64 v,.slice pA pt pa,.slice pB pg pb,.slice pC ps pc,.bool pw,.bool pd,.int .i64 py,.slice pD pm pe]) (hy:Bx W (w.heap.size+1) 44 #[.int .i64 v,.slice qA qt qa,.slice qB qg qb,.slice qC qs qc,.bool pw,.bool pd,.int .i64 py,.slice qD qm qe]) (hB:Below w.heap.size w W) (hT:Calls Tryz.prog 175 #[.slice pA pt pa,.slice qA qt qa] W fun e w'=>e=.returned (.bool true)∧∃ n,w'=W.drewN n) (hG:∀ k,Calls Tryz.prog 176 #[.slice pB pg pb,.slice qB qg qb] (W.drewN k) fun e w'=>e=.returned (.bool false)∧∃ n,w'=(W.drewN k).drewN n) :
  Calls Tryz.prog 147 #[.agg #[.int .i64 v,.slice pA pt pa,.slice pB pg pb,.slice pC ps pc,.bool pw,.bool pd,.int .i64 py,.slice pD pm pe],.agg #[.int .i64 v,.slice qA qt qa,.slice qB qg qb,.slice qC qs qc,.bool pw,.bool pd,.int .i64 py,.slice qD qm qe]] w fun e w'=>e=.returned (.bool false)∧Below w.heap.size w w':=by
 obtain⟨⟨c0,c1,c2,c3⟩,c4,c5,c6,c7⟩:=Bx.r8 hx;obtain⟨⟨d0,d1,d2,d3⟩,d4,d5,d6,d7⟩:=Bx.r8 hy;have HB:=aj hB;have e0:(v==v)=true:=by simp
 clear hx hy hB;go_enter Tryz.func147,Tryz.ntmps147
 go_upto_region 1 with fail
 try rw[hW]
 clear hW;go_wp2_with (first|(go_at_call 175;refine hT.mono ?_;rintro e w' ⟨rfl,m1,hw'⟩;rw[hw'];clear hw')|(go_at_call 176;with_reducible refine (hG _).mono ?_;rintro e w' ⟨rfl,m2,hw'⟩;rw[hw',World.drewN_drewN];clear hw'))
 go_ret
 exact⟨rfl,by first|exact HB.out|exact bg HB.out⟩
theorem aB3 (pA pB pC pD qA qB qC qD:Option Addr) (pt pg ps pm pa pb pc pe qt qg qs qm qa qb qc qe:Nat) (v py qy:Int) (pw pd qw qd b3:Bool) (w W:World) (hW:(w.alloc (.cells #[.int .i64 v,.slice pA pt pa,.slice pB pg pb,.slice pC ps pc,.bool pw,.bool pd,.int .i64 py,.slice pD pm pe] 44)).alloc (.cells #[.int .i64 v,.slice qA qt qa,.slice qB qg qb,.slice qC qs qc,.bool pw,.bool pd,.int .i64 py,.slice qD qm qe] 44)=W) (hx:Bx W w.heap.size 44 #[.int .i64 v,.slice pA pt pa,.slice pB pg pb,.slice pC ps pc,.bool pw,.bool pd,.int .i64 py,.slice pD pm pe]) (hy:Bx W (w.heap.size+1) 44 #[.int .i64 v,.slice qA qt qa,.slice qB qg qb,.slice qC qs qc,.bool pw,.bool pd,.int .i64 py,.slice qD qm qe]) (hB:Below w.heap.size w W) (hT:Calls Tryz.prog 175 #[.slice pA pt pa,.slice qA qt qa] W fun e w'=>e=.returned (.bool true)∧∃ n,w'=W.drewN n) (hG:∀ k,Calls Tryz.prog 176 #[.slice pB pg pb,.slice qB qg qb] (W.drewN k) fun e w'=>e=.returned (.bool true)∧∃ n,w'=(W.drewN k).drewN n) (hS:∀ k,Calls Tryz.prog 176 #[.slice pC ps pc,.slice qC qs qc] (W.drewN k) fun e w'=>e=.returned (.bool false)∧∃ n,w'=(W.drewN k).drewN n) :
  Calls Tryz.prog 147 #[.agg #[.int .i64 v,.slice pA pt pa,.slice pB pg pb,.slice pC ps pc,.bool pw,.bool pd,.int .i64 py,.slice pD pm pe],.agg #[.int .i64 v,.slice qA qt qa,.slice qB qg qb,.slice qC qs qc,.bool pw,.bool pd,.int .i64 py,.slice qD qm qe]] w fun e w'=>e=.returned (.bool false)∧Below w.heap.size w w':=by
 obtain⟨⟨c0,c1,c2,c3⟩,c4,c5,c6,c7⟩:=Bx.r8 hx;obtain⟨⟨d0,d1,d2,d3⟩,d4,d5,d6,d7⟩:=Bx.r8 hy;have HB:=aj hB;have e0:(v==v)=true:=by simp
 clear hx hy hB;go_enter Tryz.func147,Tryz.ntmps147
 go_upto_region 1 with fail
 try rw[hW]
 clear hW;go_wp2_with (first|(go_at_call 175;refine hT.mono ?_;rintro e w' ⟨rfl,m1,hw'⟩;rw[hw'];clear hw')|(go_at_call 176;with_reducible refine (hG _).mono ?_;rintro e w' ⟨rfl,m2,hw'⟩;rw[hw',World.drewN_drewN];clear hw')|(go_at_call 176;with_reducible refine (hS _).mono ?_;rintro e w' ⟨rfl,m2,hw'⟩;rw[hw',World.drewN_drewN];clear hw'))
 go_ret
 exact⟨rfl,by first|exact HB.out|exact bg HB.out⟩
theorem aB4 (pA pB pC pD qA qB qC qD:Option Addr) (pt pg ps pm pa pb pc pe qt qg qs qm qa qb qc qe:Nat) (v py qy:Int) (pw pd qw qd b3:Bool) (w W:World) (hW:(w.alloc (.cells #[.int .i64 v,.slice pA pt pa,.slice pB pg pb,.slice pC ps pc,.bool pw,.bool pd,.int .i64 py,.slice pD pm pe] 44)).alloc (.cells #[.int .i64 v,.slice qA qt qa,.slice qB qg qb,.slice qC qs qc,.bool pw,.bool pd,.int .i64 py,.slice qD qm qe] 44)=W) (hx:Bx W w.heap.size 44 #[.int .i64 v,.slice pA pt pa,.slice pB pg pb,.slice pC ps pc,.bool pw,.bool pd,.int .i64 py,.slice pD pm pe]) (hy:Bx W (w.heap.size+1) 44 #[.int .i64 v,.slice qA qt qa,.slice qB qg qb,.slice qC qs qc,.bool pw,.bool pd,.int .i64 py,.slice qD qm qe]) (hB:Below w.heap.size w W) (hT:Calls Tryz.prog 175 #[.slice pA pt pa,.slice qA qt qa] W fun e w'=>e=.returned (.bool true)∧∃ n,w'=W.drewN n) (hG:∀ k,Calls Tryz.prog 176 #[.slice pB pg pb,.slice qB qg qb] (W.drewN k) fun e w'=>e=.returned (.bool true)∧∃ n,w'=(W.drewN k).drewN n) (hS:∀ k,Calls Tryz.prog 176 #[.slice pC ps pc,.slice qC qs qc] (W.drewN k) fun e w'=>e=.returned (.bool true)∧∃ n,w'=(W.drewN k).drewN n) (hM:∀ k,Calls Tryz.prog 176 #[.slice pD pm pe,.slice qD qm qe] (W.drewN k) fun e w'=>e=.returned (.bool b3)∧∃ n,w'=(W.drewN k).drewN n) :
  Calls Tryz.prog 147 #[.agg #[.int .i64 v,.slice pA pt pa,.slice pB pg pb,.slice pC ps pc,.bool pw,.bool pd,.int .i64 py,.slice pD pm pe],.agg #[.int .i64 v,.slice qA qt qa,.slice qB qg qb,.slice qC qs qc,.bool pw,.bool pd,.int .i64 py,.slice qD qm qe]] w fun e w'=>e=.returned (.bool b3)∧Below w.heap.size w w':=by
 obtain⟨⟨c0,c1,c2,c3⟩,c4,c5,c6,c7⟩:=Bx.r8 hx;obtain⟨⟨d0,d1,d2,d3⟩,d4,d5,d6,d7⟩:=Bx.r8 hy;have HB:=aj hB;have e0:(v==v)=true:=by simp
 clear hx hy hB;go_enter Tryz.func147,Tryz.ntmps147
 go_upto_region 1 with fail
 try rw[hW]
 clear hW;go_wp2_with (first|(go_at_call 175;refine hT.mono ?_;rintro e w' ⟨rfl,m1,hw'⟩;rw[hw'];clear hw')|(go_at_call 176;with_reducible refine (hG _).mono ?_;rintro e w' ⟨rfl,m2,hw'⟩;rw[hw',World.drewN_drewN];clear hw')|(go_at_call 176;with_reducible refine (hS _).mono ?_;rintro e w' ⟨rfl,m2,hw'⟩;rw[hw',World.drewN_drewN];clear hw')|(go_at_call 176;with_reducible refine (hM _).mono ?_;rintro e w' ⟨rfl,m2,hw'⟩;rw[hw',World.drewN_drewN];clear hw'))
 go_ret
 exact⟨rfl,by first|exact HB.out|exact bg HB.out⟩
theorem Po (A B:Ra) (r s:Rw) (w:World) (hv:iM w A r) (hu:iM w B s) (gU:r.ver=s.ver) (htx:r.txt=s.txt) :
  Calls Tryz.prog 147 #[bV A r,bV B s] w fun e w'=>e=.returned (.bool (jI r s))∧Below w.heap.size w w':=by
 obtain⟨W,hW,hx,hy,hB0⟩:=CZ A B r s 44 w;have h0:=hv.below hB0;have g0:=hu.below hB0;have hS0:=h0.rws;have gS0:=g0.rws
 have hTx:Calls Tryz.prog 175 #[.slice A.ta r.txt.length A.tc,.slice B.ta s.txt.length B.tc] W fun e w'=>e=.returned (.bool true)∧∃ n,w'=W.drewN n:=by
  have:=Lm A.ta B.ta A.tc B.tc r.txt s.txt W hS0.txt gS0.txt hS0.mt (by rw[htx])
  rw[decide_eq_true htx] at this;exact this
 have hG:=fun k=>tV A.ga B.ga r.got.length A.gc s.got.length B.gc r.got s.got (W.drewN k) (h0.below (bg (n:=k) (Below.refl _ _))).rws.got (g0.below (bg (n:=k) (Below.refl _ _))).rws.got hS0.mg
 have hS:=fun k=>tV A.sa B.sa r.ak.length A.sc s.ak.length B.sc r.ak s.ak (W.drewN k) (h0.below (bg (n:=k) (Below.refl _ _))).rws.ak (g0.below (bg (n:=k) (Below.refl _ _))).rws.ak hS0.ms
 have hM:=fun k=>tV A.ma B.ma r.aA.length A.mc s.aA.length B.mc r.aA s.aA (W.drewN k) (h0.below (bg (n:=k) (Below.refl _ _))).rws.aA (g0.below (bg (n:=k) (Below.refl _ _))).rws.aA hS0.mm
 have HG:jI r s=(decide (r.wed=s.wed)&&(decide (r.aB=s.aB)&&(decide (r.aC=s.aC)&&(decide (r.got=s.got)&&(decide (r.ak=s.ak)&&decide (r.aA=s.aA)))))):=by
  rw[jI];simp only[Bool.decide_and]
 rw[HG];clear HG h0 g0 hS0 gS0 hv hu;generalize decide (r.got=s.got)=b1 at *;generalize decide (r.ak=s.ak)=b2 at *;generalize decide (r.aA=s.aA)=b3 at *;obtain⟨v,pt,pg,ps,pw,pd,py,pm⟩:=r;obtain⟨qv,qt,qg,qs,qw,qd,qy,qm⟩:=s;obtain⟨pA,pa,pB,pb,pC,pc,pD,pe⟩:=A;obtain⟨qA,qa,qB,qb,qC,qc,qD,qe⟩:=B;simp only at gU htx
 subst gU;clear htx;by_cases h0:pw=qw;rotate_left
 ·rw[decide_eq_false h0,Bool.false_and]
  exact aA9 pA pB pC pD qA qB qC qD _ _ _ _ pa pb pc pe _ _ _ _ qa qb qc qe v py qy pw pd qw qd b3 w W hW hx hy hB0 (by simp[h0])
 subst h0;rw[decide_eq_true rfl,Bool.true_and];by_cases h0:pd=qd;rotate_left
 ·rw[decide_eq_false h0,Bool.false_and]
  exact aB0 pA pB pC pD qA qB qC qD _ _ _ _ pa pb pc pe _ _ _ _ qa qb qc qe v py qy pw pd pw qd b3 w W hW hx hy hB0 (by simp[h0])
 subst h0;rw[decide_eq_true rfl,Bool.true_and];by_cases h0:py=qy;rotate_left
 ·rw[decide_eq_false h0,Bool.false_and]
  exact aB1 pA pB pC pD qA qB qC qD _ _ _ _ pa pb pc pe _ _ _ _ qa qb qc qe v py qy pw pd pw pd b3 w W hW hx hy hB0 (by simp[h0])
 subst h0;rw[decide_eq_true rfl,Bool.true_and]
 cases b1 with
 | false=>exact aB2 pA pB pC pD qA qB qC qD _ _ _ _ pa pb pc pe _ _ _ _ qa qb qc qe v py py pw pd pw pd b3 w W hW hx hy hB0 hTx hG
 | true =>
  rw[Bool.true_and]
  cases b2 with
  | false=>exact aB3 pA pB pC pD qA qB qC qD _ _ _ _ pa pb pc pe _ _ _ _ qa qb qc qe v py py pw pd pw pd b3 w W hW hx hy hB0 hTx hG hS
  | true=>exact aB4 pA pB pC pD qA qB qC qD _ _ _ _ pa pb pc pe _ _ _ _ qa qb qc qe v py py pw pd pw pd b3 w W hW hx hy hB0 hTx hG hS hM
theorem Iw.rowP {w X:World} {B:Nat} {m:Mb} {fp:Fp} {g off c:Nat} (h:Iw w X B m fp g off c) {k:Nat} (hk:k<m.rows.length) (hf:lV (ah m.rows k)) (h6:oM (ah m.rows k)) (hs:iy (ah m.rows k)≤1048576):∃ Ak:Ra,C8 X g (off+k*8) (.int .i64 (ah m.rows k).ver) (.slice Ak.ta (ah m.rows k).txt.length Ak.tc) (.slice Ak.ga (ah m.rows k).got.length Ak.gc) (.slice Ak.sa (ah m.rows k).ak.length Ak.sc) (.bool (ah m.rows k).wed) (.bool (ah m.rows k).aB) (.int .i64 (ah m.rows k).aC) (.slice Ak.ma (ah m.rows k).aA.length Ak.mc)∧iM X Ak (ah m.rows k):=by
 obtain⟨dD,hp,hf1,hgo⟩:=h.bU.next;obtain⟨g',off',c',f,h1,hgB,hfg,hfs,⟨vs,hpc,hov,_⟩,hput⟩:=hp.el (F:=eY) gI (by omega) (j:=1) (L:=m.rows) rfl (dW hk)
 have e:=Option.some.inj (h1.symm.trans h.rws)
 cases e
 obtain⟨A,rfl,hl⟩:=rU hov;have jm:(bD A (ah m.rows k)).toList.length=8:=rfl;have q:=hpc.cell;refine⟨A,⟨⟨q 0 (by rw[jm];omega),q 1 (by rw[jm];omega),q 2 (by rw[jm];omega),q 3 (by rw[jm];omega)⟩,q 4 (by rw[jm];omega),q 5 (by rw[jm];omega),q 6 (by rw[jm];omega),q 7 (by rw[jm];omega)⟩, ?_⟩
 exact yI (lo:=0) (hi:=X.heap.size) ⟨f,hl,fun b hb=>⟨Nat.zero_le _,eX hl b hb⟩⟩ hf h6 hs
theorem MH {r:Rw} {n:Nat} (h:dL r n):oM r∧iy r≤1000:=by
 have h5:=h.n5;have hv:=h.ver;have hc:=h.c8;refine⟨?_,by omega⟩
 unfold oM eH
 cases hr:r.aB with
 | false=>have:=(h.not hr).1;exact⟨by omega,by omega⟩
 | true=>have:=(h.aB hr).2.1;exact⟨by omega,by omega⟩
theorem ah9 (m:Mb):(aV m).txt=m.own.txt:=by
 have h1:(aT m).txt=m.own.txt:=(mO _ _ _ _).txt
 have h2:(bY m).txt=m.own.txt:=by
  unfold bY
  split<;>exact h1
 have h3:(dF m).txt=m.own.txt:=by
  unfold dF
  split
  ·rw[(uF _ _ _ _).2.2.2.1];exact h2
  ·exact h2
 unfold aV
 split
 ·rw[(rM _ _ _ _).2.2.2.1];exact h3
 ·exact h3
theorem ai0 (m:Mb):(aV m).ak=(bY m).ak:=by
 have h3:(dF m).ak=(bY m).ak:=by
  unfold dF
  split
  ·rw[(uF _ _ _ _).1]
  ·rfl
 unfold aV
 split
 ·rw[(rM _ _ _ _).1];exact h3
 ·exact h3
theorem DV (a b:Rw):jI a b=jI b a:=by
 unfold jI
 congr 1
 exact propext ⟨fun ⟨h1,h2,h3,h4,h5,h6⟩=>⟨h1.symm,h2.symm,h3.symm,h4.symm,h5.symm,h6.symm⟩,fun ⟨h1,h2,h3,h4,h5,h6⟩=>⟨h1.symm,h2.symm,h3.symm,h4.symm,h5.symm,h6.symm⟩⟩
theorem XI {m:Mb} {i n:Nat} (M:dO m i n) (hd:m.done=false) (S:YZ m i n) (hw:(aT m).wed=true) :
  zf { m with rows:=m.rows.set i (aT m) } i n=aV m∧MB { m with rows:=m.rows.set i (aV m) } i n={ m with rows:=m.rows.set i (aV m),au:=if gK m=true then gG (dX m) (aV m).aA else dX m,done:=gK m }:=by
 have hil:i<m.rows.length:=by rw[M.len];exact M.lt
 obtain⟨e2,eS⟩:=S.wd hw;obtain⟨hp,hh,hD,hm⟩:=Ig S.mem;have eL:fV m=aP n (aT m).ak:=by rw[S.eL,e2]
 have hw2:(bY m).wed=true:=by rw[e2];exact hw
 have hw3:(dF m).wed=true:=by rw[S.ao6];exact hw2
 constructor
 ·have h1:zf { m with rows:=m.rows.set i (aT m) } i n=if (fV m).getD 0 0≠i then adopt (m.rows.set i (aT m)) i (aT m) ((fV m).getD 0 0) else if n<2*(fV m).length then lead (m.rows.set i (aT m)) i (aT m) (fV m) else aT m:=by
   unfold zf;simp only[dM hil]
   rw[← eL]
  rw[h1];by_cases c:(fV m).getD 0 0=i
  ·have e4:aV m=dF m:=by rw[S.e4,if_neg (fun h=>h.2 (hh.2 c))]
   rw[if_neg (fun h=>h c),e4]
   by_cases c2:n<2*(fV m).length
   ·rw[if_pos c2,S.e3,if_pos ⟨hw2,c2,hh.2 c⟩,e2]
   ·rw[if_neg c2,S.e3,if_neg (fun h=>c2 h.2.1),e2]
  ·have e3:dF m=aT m:=by rw[S.e3,if_neg (fun h=>c (hh.1 h.2.2)),e2]
   rw[if_pos c,S.e4,if_pos ⟨hw3,fun h=>c (hh.1 h)⟩,hD,e3]
 ·unfold MB
  simp only[dM hil]
  have eL4:aP n (aV m).ak=fV m:=by rw[ai0,S.eL]
  rw[eL4];have hE:=S.eE;by_cases c:n<2*(fV m).length∧ends (m.rows.set i (aV m)) i (aV m) (fV m)=true
  ·have hr:=O8 c.2 S.mem
   rw[dM hil] at hr;have h1:gK m=true:=by rw[hE,hr,decide_eq_true c.1,c.2];rfl
   rw[if_pos c,h1,if_pos rfl,eS]
  ·have h1:gK m=false:=by
    rw[hE]
    cases h2:decide (n<2*(fV m).length) with
    | false=>simp
    | true =>
     cases h3:ends (m.rows.set i (aV m)) i (aV m) (fV m) with
     | false=>simp
     | true=>exact absurd ⟨of_decide_eq_true h2,h3⟩ c
   rw[if_neg c,h1,if_neg (by decide),eS,← hd]
theorem XJ {m:Mb} {i n:Nat} (M:dO m i n) (hd:m.done=false) (S:YZ m i n) (hw:(aT m).wed=false) :
  ({ aT m with got:=kS (m.rows.set i (aT m)) (aT m) n }:Rw)=bY m∧({ m with rows:=m.rows.set i (bY m),au:=iW (m.rows.set i (bY m)) n (60-m.au.length) m.au }:Mb)={ m with rows:=m.rows.set i (aV m),au:=if gK m=true then gG (dX m) (aV m).aA else dX m,done:=gK m }:=by
 have hil:i<m.rows.length:=by rw[M.len];exact M.lt
 obtain⟨e2,ok2,eS⟩:=S.uw hw;have hw2:(bY m).wed=false:=by rw[e2];exact hw
 have hw3:(dF m).wed=false:=by rw[S.ao6];exact hw2
 have e3:dF m=bY m:=by rw[S.e3,if_neg (by rw[hw2];simp)]
 have e4:aV m=bY m:=by rw[S.e4,if_neg (by rw[hw3];simp),e3]
 constructor
 ·rw[e2]
  have:kS (m.rows.set i (aT m)) (aT m) n=kS m.rows (aT m) n:=by
   unfold kS;refine List.map_congr_left (fun j _=>?_)
   rw[bZ hil]
   split
   ·rename_i h
    subst h;rw[S.e1,(mO _ _ _ _).txt]
   ·rfl
  rw[this]
 ·have h2:=S.ok2
  have hr2:dL (bY m) n:=by
   have:=h2.ok i M.lt;simp only[dM hil] at this;exact this
  have hr:(aV m).aB=false:=by
   rw[e4]
   cases h:(bY m).aB with
   | false=>rfl
   | true=>have:=(hr2.aB h).1;rw[hw2] at this;cases this
  have h1:gK m=false:=by rw[S.eE,hr];rfl
  rw[e4,h1,if_neg (by decide),eS,← hd]
theorem step_fin {m:Mb} {i n:Nat} (M:dO m i n) (hd:m.done=false) (hv:(ah m.rows i).ver<1000000) (S:YZ m i n) :
  (jI (aV m) (ah m.rows i)=true→({ m with rows:=m.rows.set i (aV m),au:=if gK m=true then gG (dX m) (aV m).aA else dX m,done:=gK m }:Mb)=bJ m)∧(jI (aV m) (ah m.rows i)=false→({ ({ m with rows:=m.rows.set i (aV m),au:=if gK m=true then gG (dX m) (aV m).aA else dX m,done:=gK m }:Mb) with rows:=(m.rows.set i (aV m)).set i { aV m with ver:=(aV m).ver+1 } }:Mb)=bJ m):=by
 have hs:bJ m={ m with rows:=m.rows.set i (iD m),au:=if gK m=true then gG (dX m) (aV m).aA else dX m,done:=gK m }:=by
  have hn:¬ (m.done=true∨m.own.ver=1000000):=by
   rintro (h|h)
   ·rw[hd] at h;cases h
   ·rw[M.own] at h;omega
  rw[bJ,if_neg hn,M.i]
 constructor
 ·intro h
  have e5:iD m=aV m:=by rw[S.e5,if_pos (by rw[DV];exact h)]
  rw[hs,e5]
 ·intro h
  have e5:iD m={ aV m with ver:=(aV m).ver+1 }:=by rw[S.e5,if_neg (by rw[DV,h];decide)]
  rw[hs,e5,List.set_set]
theorem ai1 (B:Nat) (m:Mb) (i n:Nat) (fp:Fp) (w:World) (h:dN w B 0 (iJ m) fp) (ok:dO m i n) (hd:m.done=false) (gU:(ah m.rows i).ver<1000000) :
  Calls Tryz.prog 109 #[.pointer (some ⟨B,0,none⟩)] w fun e w'=>e=.returned (.tuple #[])∧bC w w' B 0 (iJ (bJ m)) fp:=by
 have bH:=dH;have hil:i<m.rows.length:=by rw[ok.len];exact ok.lt
 have fG:=ok.n5;have S:=zG ok hd;obtain⟨ar8,ar9⟩:=step_fin ok hd gU S;have hokr:=ok.ok i ok.lt;have XK:=MH hokr;obtain⟨g,off,c,M0⟩:=Iw.start h (by omega)
 obtain⟨c0,_⟩:=M0.id';have c1:=M0.rws;rw[ok.hid] at c0;have as1:=jQ B i m.rows.length g off c w c0 c1 hil;have ig:Hid (Iw w w B m fp g off c):=M0;clear c0 c1 M0 h;go_enter Tryz.func109,Tryz.ntmps109
 go_wp2_with fail
 refine as1.mono ?_;rintro e wA ⟨rfl,mW⟩;obtain⟨Ai,⟨⟨d0,d1,d2,d3⟩,d4,d5,d6,d7⟩,uY⟩:=(ig.out.step mW).rowP hil (ok.fit.1 _ (lJ hil)) XK.1 (by omega)
 have hAn:=yX Ai (ah m.rows i) wA uY (by rw[hokr.gl];omega) XK.2
 unfold bV bD at hAn;have ZF:Hid (Below w.heap.size w wA):=mW;clear uY as1 mW;go_wp2_with fail
 refine hAn.mono ?_;rintro e wB ⟨Ar,rfl,fr,hr1,hr2,hr3⟩;have hba:=aF wB (.cells #[.int .i64 (ah m.rows i).ver,.slice Ar.ta (ah m.rows i).txt.length Ar.tc,.slice Ar.ga (ah m.rows i).got.length Ar.gc,.slice Ar.sa (ah m.rows i).ak.length Ar.sc,.bool (ah m.rows i).wed,.bool (ah m.rows i).aB,.int .i64 (ah m.rows i).aC,.slice Ar.ma (ah m.rows i).aA.length Ar.mc] 44);have hxw:=Bx.new wB 44 #[.int .i64 (ah m.rows i).ver,.slice Ar.ta (ah m.rows i).txt.length Ar.tc,.slice Ar.ga (ah m.rows i).got.length Ar.gc,.slice Ar.sa (ah m.rows i).ak.length Ar.sc,.bool (ah m.rows i).wed,.bool (ah m.rows i).aB,.int .i64 (ah m.rows i).aC,.slice Ar.ma (ah m.rows i).aA.length Ar.mc]
 have as2:Below w.heap.size w (wB.alloc (.cells #[.int .i64 (ah m.rows i).ver,.slice Ar.ta (ah m.rows i).txt.length Ar.tc,.slice Ar.ga (ah m.rows i).got.length Ar.gc,.slice Ar.sa (ah m.rows i).ak.length Ar.sc,.bool (ah m.rows i).wed,.bool (ah m.rows i).aB,.int .i64 (ah m.rows i).aC,.slice Ar.ma (ah m.rows i).aA.length Ar.mc] 44)):=by
  have h1:=ZF.out.trans (hr3.mono ZF.out.size);exact h1.trans (hba.mono h1.size)
 have hr1':=bM hr1 hba;unfold bV bD;clear hAn d0 d1 d2 d3 d4 d5 d6 d7;go_upto_region 1 with fail
 have hsz:=hr3.size;have hszA:=ZF.out.size;generalize hb0:wB.heap.size=b0 at *;generalize wB.alloc (.cells #[.int .i64 (ah m.rows i).ver,.slice Ar.ta (ah m.rows i).txt.length Ar.tc,.slice Ar.ga (ah m.rows i).got.length Ar.gc,.slice Ar.sa (ah m.rows i).ak.length Ar.sc,.bool (ah m.rows i).wed,.bool (ah m.rows i).aB,.int .i64 (ah m.rows i).aC,.slice Ar.ma (ah m.rows i).aA.length Ar.mc] 44)=W1 at *;obtain⟨gy,f1,f2,_,M5,f4⟩:=ig.out.sub as2;have uJ:Hid (∀ (Y:World) (m':Mb),Iw W1 Y B m' gy g off c→bC w Y B 0 (iJ m') fp):=fun Y m' hY=>(f4 Y m' hY).bU
 have HB0:Hid (¬ gy b0∧b0≠B):=⟨fun k=>by have:=f1 _ k;omega,by omega⟩
 have qW:Hid (Bx W1 b0 44 #[.int .i64 (ah m.rows i).ver,.slice Ar.ta (ah m.rows i).txt.length Ar.tc,.slice Ar.ga (ah m.rows i).got.length Ar.gc,.slice Ar.sa (ah m.rows i).ak.length Ar.sc,.bool (ah m.rows i).wed,.bool (ah m.rows i).aB,.int .i64 (ah m.rows i).aC,.slice Ar.ma (ah m.rows i).aA.length Ar.mc]):=hxw;have bF:Hid (Iw W1 W1 B m gy g off c):=M5
 have HRP:Hid (∀ (Y:World) (m':Mb),Iw W1 Y B m' gy g off c→iM Y Ar (ah m.rows i)):=fun Y m' hY=>by
  have hl := bP hr1' hY.bU.wrt (fun b hb k => by
   have h1:=hr2 b hb;rcases k with k|k
   ·have:=f1 b k;omega
   ·omega)
  exact yI (lo:=0) (hi:=Y.heap.size) ⟨fr,hl,fun b hb=>⟨Nat.zero_le _,eX hl b hb⟩⟩ (ok.fit.1 _ (lJ hil)) XK.1 (by omega)
 have hTd:=ag7 W1 B m i n gy g off c W1 bF.out ok;rw[← S.e1] at hTd;clear hxw M5 f4 hr1 hr1' hr2 hr3 hba as2 f1 f2 hsz hszA ig ZF;go_wp2_with fail
 refine hTd.mono ?_;rintro e W2 ⟨rfl,hM2⟩;have eF:Hid (Iw W1 W2 B { m with rows:=m.rows.set i (aT m) } gy g off c):=hM2
 clear hTd bF;obtain⟨c0,_⟩:=hM2.id';have c1:=hM2.rws;simp only[List.length_set] at c0 c1;rw[ok.hid] at c0;have as3:=jQ B i m.rows.length g off c W2 c0 c1 hil;clear c0 c1 hM2;go_wp2_with fail
 refine as3.mono ?_;rintro e W3 ⟨rfl,hb3⟩;have iQ:Hid (Iw W1 W3 B { m with rows:=m.rows.set i (aT m) } gy g off c):=eF.out.step hb3
 have qJ:i<(m.rows.set i (aT m)).length:=by rw[List.length_set];exact hil
 obtain⟨A1,⟨⟨_,_,_,_⟩,d4,_,_,_⟩,_⟩:=iQ.out.row (k:=i) S.ok1.fit qJ;simp only[dM hil] at d4;have HId:Hid (m.id=(i:Int)):=ok.hid;have Iz:Hid (i<n):=ok.lt;have as4:Hid ((aV m).ver=(ah m.rows i).ver):=S.ver;have as5:Hid ((aV m).txt=(ah m.rows i).txt):=by rw[Hid,ah9,ok.own]
 have Pq:Hid (0≤(aV m).ver∧(aV m).ver<1000000):=by rw[Hid,S.ver];exact⟨hokr.ver.1,gU⟩
 have XL:dL (aV m) n:=by
  have:=S.lW.ok i ok.lt;simp only[dM hil] at this;exact this
 have HFo:Hid (lV (aV m)):=by
  have := S.lW.fit.1 (aV m) (by
   have:=lJ (R:=m.rows.set i (aV m)) (j:=i) (by rw[List.length_set];exact hil)
   rw[dM hil] at this;exact this)
  exact this
 have xU:Hid (oM (aV m)∧iy (aV m)≤1048576):=⟨(MH XL).1,by have:=(MH XL).2;omega⟩
 have HLn:Hid (({ m with rows:=m.rows.set i (aV m),au:=if gK m=true then gG (dX m) (aV m).aA else dX m,done:=gK m }:Mb).rows.length=n):=by rw[Hid];simp only[List.length_set];exact ok.len
 have uX:Hid (ah ({ m with rows:=m.rows.set i (aV m),au:=if gK m=true then gG (dX m) (aV m).aA else dX m,done:=gK m }:Mb).rows i=aV m):=by rw[Hid];exact dM hil
 have as6:Hid (({ m with rows:=m.rows.set i (aV m),au:=if gK m=true then gG (dX m) (aV m).aA else dX m,done:=gK m }:Mb).id=(i:Int)):=ok.hid
 have Px:Hid (jI (aV m) (ah m.rows i)=true→({ m with rows:=m.rows.set i (aV m),au:=if gK m=true then gG (dX m) (aV m).aA else dX m,done:=gK m }:Mb)=bJ m):=ar8
 have II:Hid (jI (aV m) (ah m.rows i)=false→({ ({ m with rows:=m.rows.set i (aV m),au:=if gK m=true then gG (dX m) (aV m).aA else dX m,done:=gK m }:Mb) with rows:=(m.rows.set i (aV m)).set i { aV m with ver:=(aV m).ver+1 } }:Mb)=bJ m):=ar9
 clear as3 hb3 eF ar8 ar9 XL hb0
 cases hwd:(aT m).wed with
 | true =>
  rw[hwd] at d4;obtain⟨eA,eE⟩:=XI ok hd S hwd;have Cj:=ah8 W1 B { m with rows:=m.rows.set i (aT m) } i n gy g off c W3 iQ.out S.ok1
  rw[eA] at Cj;simp only[List.set_set] at Cj
  have Fa:∀ Y,Iw W1 Y B { m with rows:=m.rows.set i (aV m) } gy g off c→Calls Tryz.prog 144 #[.pointer (some ⟨B,0,none⟩)] Y fun e w'=>e=.returned (.tuple #[])∧Iw W1 w' B { m with rows:=m.rows.set i (aV m),au:=if gK m=true then gG (dX m) (aV m).aA else dX m,done:=gK m } gy g off c:=fun Y hY=>by
   have h4:dO { m with rows:=m.rows.set i (aV m) } i n:=by
    have:=S.lW;rw[(S.wd hwd).2] at this;exact this
   have:=ah3 W1 B { m with rows:=m.rows.set i (aV m) } i n gy g off c Y hY h4 hd
   rw[eE] at this;exact this
  have Dy:Hid (∀ Y,Iw W1 Y B { m with rows:=m.rows.set i (aV m) } gy g off c→Calls Tryz.prog 144 #[.pointer (some ⟨B,0,none⟩)] Y fun e w'=>e=.returned (.tuple #[])∧Iw W1 w' B { m with rows:=m.rows.set i (aV m),au:=if gK m=true then gG (dX m) (aV m).aA else dX m,done:=gK m } gy g off c):=Fa
  clear eA eE hwd S Fa;generalize UG:({ m with rows:=m.rows.set i (aV m),au:=if gK m=true then gG (dX m) (aV m).aA else dX m,done:=gK m }:Mb)=mF at *
  have HmR:Hid (mF.rows=m.rows.set i (aV m)):=by rw[Hid,← UG]
  rw[← HmR.out] at II;clear UG;generalize hmo:aV m=ow at *;generalize ah m.rows i=o at *;go_wp2_with fail
  refine Cj.mono ?_;rintro e W4 ⟨rfl,sH⟩;have UH:=Dy.out W4 sH;clear Cj d4 sH Dy;go_wp2_with fail
  refine UH.mono ?_;rintro e Y ⟨rfl,BM⟩;have wZ:Hid (Iw W1 Y B mF gy g off c):=BM;clear UH BM iQ hmo;go_upto_region 7 with fail
  have KN:Hid (Bx Y b0 44 #[.int .i64 o.ver,.slice Ar.ta o.txt.length Ar.tc,.slice Ar.ga o.got.length Ar.gc,.slice Ar.sa o.ak.length Ar.sc,.bool o.wed,.bool o.aB,.int .i64 o.aC,.slice Ar.ma o.aA.length Ar.mc]):=wZ.out.bx qW.out HB0.out.1 HB0.out.2;have UJ:Hid (iM Y Ar o):=HRP.out Y mF wZ.out;obtain⟨c0,_⟩:=wZ.out.id';have c1:=wZ.out.rws;rw[as6.out] at c0;rw[HLn.out] at c1
  have UK:Hid (∃ Ak:Ra,C8 Y g (off+i*8) (.int .i64 ow.ver) (.slice Ak.ta ow.txt.length Ak.tc) (.slice Ak.ga ow.got.length Ak.gc) (.slice Ak.sa ow.ak.length Ak.sc) (.bool ow.wed) (.bool ow.aB) (.int .i64 ow.aC) (.slice Ak.ma ow.aA.length Ak.mc)∧iM Y Ak ow):=by
   have:=wZ.out.rowP (k:=i) (by rw[HLn.out];exact Iz.out) (by rw[uX.out];exact HFo.out) (by rw[uX.out];exact xU.out.1) (by rw[uX.out];exact xU.out.2)
   rw[uX.out] at this;exact this
  have kL:Hid (∀ Z,Below Y.heap.size Y Z→Calls Tryz.prog 140 #[.pointer (some ⟨B,0,none⟩)] Z fun e w'=>e=.returned (.pointer (some ⟨g,off+i*8,none⟩))∧Below Z.heap.size Z w'):=fun Z hZ=>jQ B i n g off c Z ((hZ.cell (World.block_lt_of_cell? _ _ c0)).trans c0) ((hZ.cell (World.block_lt_of_cell? _ _ c1)).trans c1) Iz.out
  have hbd:Below Y.heap.size Y Y.drew:=(Same.drewN Y 1).below
  have KS:∀ Z,Below Y.heap.size Y Z→Z.cell? ⟨b0,0,none⟩=some (.int .i64 o.ver)∧Z.cell? ⟨b0,1,none⟩=some (.slice Ar.ta o.txt.length Ar.tc)∧Z.cell? ⟨b0,2,none⟩=some (.slice Ar.ga o.got.length Ar.gc)∧Z.cell? ⟨b0,3,none⟩=some (.slice Ar.sa o.ak.length Ar.sc)∧Z.cell? ⟨b0,4,none⟩=some (.bool o.wed)∧Z.cell? ⟨b0,5,none⟩=some (.bool o.aB)∧Z.cell? ⟨b0,6,none⟩=some (.int .i64 o.aC)∧Z.cell? ⟨b0,7,none⟩=some (.slice Ar.ma o.aA.length Ar.mc):=fun Z hZ=>by
   obtain⟨⟨x0,x1,x2,x3⟩,x4,x5,x6,x7⟩:=Bx.r8 (KN.out.below hZ);exact⟨x0,x1,x2,x3,x4,x5,x6,x7⟩
  clear c0 c1;refine jE (S:=fun Z:World=>Z.cell? ⟨b0,0,none⟩=some (.int .i64 o.ver)∧Z.cell? ⟨b0,1,none⟩=some (.slice Ar.ta o.txt.length Ar.tc)∧Z.cell? ⟨b0,2,none⟩=some (.slice Ar.ga o.got.length Ar.gc)∧Z.cell? ⟨b0,3,none⟩=some (.slice Ar.sa o.ak.length Ar.sc)∧Z.cell? ⟨b0,4,none⟩=some (.bool o.wed)∧Z.cell? ⟨b0,5,none⟩=some (.bool o.aB)∧Z.cell? ⟨b0,6,none⟩=some (.int .i64 o.aC)∧Z.cell? ⟨b0,7,none⟩=some (.slice Ar.ma o.aA.length Ar.mc)) 9 bH ((KS _ hbd)) fun hHeld=>?_
  refine aS (i:=0) rfl ?_;refine aS (i:=1) rfl ?_;refine aS (i:=2) rfl ?_;refine kJ (i:=6) rfl hHeld ?_;refine dI (i:=3) rfl fun K hK=>?_
  go_simp
  go_at_call 140
  refine (kL.out _ hbd).mono ?_;rintro e Y1 ⟨rfl,hb1⟩;have oZ:Below Y.heap.size Y Y1:=hbd.trans (hb1.mono hbd.size);refine hK.out _ _ (KS _ oZ) (fun aK=>?_)
  clear hK hHeld;have hHeld:=aK;try simp only[dw]
  refine aS (i:=4) rfl ?_;obtain⟨Af,⟨⟨d0,d1,d2,d3⟩,d4,d5,d6,d7⟩,hrf⟩:=UK.out;have tt:∀ {x v},Y.cell? x=some v→Y1.cell? x=some v:=fun h=>(oZ.cell (World.block_lt_of_cell? _ _ h)).trans h
  replace d0:=tt d0;replace d1:=tt d1;replace d2:=tt d2;replace d3:=tt d3;replace d4:=tt d4;replace d5:=tt d5;replace d6:=tt d6;replace d7:=tt d7;have hAl:=Po Af Ar ow o Y1 (hrf.below oZ) (UJ.out.below oZ) as4.out as5.out;unfold bV bD at hAl;clear tt hrf;refine dI (i:=5) rfl fun K hK=>?_
  go_simp;refine hK.out _ _ (KS _ oZ) (fun aK=>?_)
  clear hK hHeld;have hHeld:=aK;try simp only[dw]
  refine dI (i:=7) rfl fun K hK=>?_
  go_simp
  go_at_call 147
  refine hAl.mono ?_;rintro e Y2 ⟨rfl,hb2⟩;have tH:Below Y.heap.size Y Y2:=oZ.trans (hb2.mono oZ.size);refine hK.out _ _ (KS _ tH) (fun aK=>?_)
  clear hK hHeld;have hHeld:=aK;try simp only[dw]
  refine dI (i:=8) rfl fun K hK=>?_
  go_simp;refine hK.out _ _ (KS _ tH) (fun aK=>?_)
  clear hK hHeld;have hHeld:=aK;try simp only[dw]
  refine pX (by kernel_rfl) ?_
  have eF:Hid (Iw W1 Y2 B mF gy g off c):=wZ.out.step tH;have zM:Hid (∀ Z,Below Y2.heap.size Y2 Z→Calls Tryz.prog 140 #[.pointer (some ⟨B,0,none⟩)] Z fun e w'=>e=.returned (.pointer (some ⟨g,off+i*8,none⟩))∧Below Z.heap.size Z w'):=fun Z hZ=>kL.out Z (tH.trans (hZ.mono tH.size))
  clear hHeld d0 d1 d2 d3 d4 d5 d6 d7 hAl hb1 hb2 oZ tH hbd KS kL KN UJ UK wZ
  cases hsm:jI ow o with
  | true =>
   have HF:Hid (mF=bJ m):=Px.out hsm;clear hsm Px II zM;go_wp2
   first|go_end0|go_ret
   exact⟨rfl,by rw[← HF.out];exact uJ.out _ _ eF.out⟩
  | false =>
   have HF:Hid (({ mF with rows:=mF.rows.set i { ow with ver:=ow.ver+1 } }:Mb)=bJ m):=II.out hsm
   have hO2:=zM.out Y2 (Below.refl _ _);clear hsm Px II zM;go_wp2_with fail
   refine hO2.mono ?_;rintro e Y3 ⟨rfl,hb3⟩;obtain⟨v1,v2,jY⟩:=(eF.out.step hb3).put (k:=i) (by rw[HLn.out];exact Iz.out) (j:=0) (x:=.int .i64 ow.ver) (y:=.int .i64 (ow.ver+1)) (r':={ ow with ver:=ow.ver+1 }) (by rw[uX.out];rfl) (by rw[uX.out];rfl)
   simp only[Nat.add_zero] at v1 v2 jY;rw[HF.out] at jY;have dJ:Hid (Iw W1 (Y3.setCell ⟨g,off+i*8,none⟩ (.int .i64 (ow.ver+1))) B (bJ m) gy g off c):=jY;have yY:=Dc g (off+i*8) ow.ver Y3 v1 v2 Pq.out.1 Pq.out.2;clear jY hO2 hb3 v1 v2;go_wp2_with fail
   refine yY.mono ?_;rintro e w' ⟨rfl,hw'⟩;rw[hw'];clear hw' yY;go_wp2
   first|go_end0|go_ret
   exact⟨rfl,uJ.out _ _ dJ.out⟩
 | false =>
  rw[hwd] at d4;obtain⟨eA,eE⟩:=XJ ok hd S hwd;have hTc:=ag8 W1 B { m with rows:=m.rows.set i (aT m) } i n gy g off c W3 iQ.out S.ok1.Ur
  simp only[dM hil,List.set_set] at hTc;rw[eA] at hTc
  have HSn:Hid (∀ Y,Iw W1 Y B { m with rows:=m.rows.set i (bY m) } gy g off c→Calls Tryz.prog 146 #[.pointer (some ⟨B,0,none⟩)] Y fun e w'=>e=.returned (.tuple #[])∧Iw W1 w' B { m with rows:=m.rows.set i (aV m),au:=if gK m=true then gG (dX m) (aV m).aA else dX m,done:=gK m } gy g off c):=fun Y hY=>by
   have:=ag6 W1 B { m with rows:=m.rows.set i (bY m) } i n gy g off c Y hY (S.uw hwd).2.1.Ur ok.sl
   simp only at this
   rw[eE] at this;exact this
  clear eA eE hwd S;generalize UG:({ m with rows:=m.rows.set i (aV m),au:=if gK m=true then gG (dX m) (aV m).aA else dX m,done:=gK m }:Mb)=mF at *
  have HmR:Hid (mF.rows=m.rows.set i (aV m)):=by rw[Hid,← UG]
  rw[← HmR.out] at II;clear UG;generalize hmo:aV m=ow at *;generalize ah m.rows i=o at *;go_wp2_with fail
  refine hTc.mono ?_;rintro e W4 ⟨rfl,sH⟩;have UH:=HSn.out W4 sH;clear hTc d4 sH HSn;go_wp2_with fail
  refine UH.mono ?_;rintro e Y ⟨rfl,BM⟩;have wZ:Hid (Iw W1 Y B mF gy g off c):=BM;clear UH BM iQ hmo;go_upto_region 7 with fail
  have KN:Hid (Bx Y b0 44 #[.int .i64 o.ver,.slice Ar.ta o.txt.length Ar.tc,.slice Ar.ga o.got.length Ar.gc,.slice Ar.sa o.ak.length Ar.sc,.bool o.wed,.bool o.aB,.int .i64 o.aC,.slice Ar.ma o.aA.length Ar.mc]):=wZ.out.bx qW.out HB0.out.1 HB0.out.2;have UJ:Hid (iM Y Ar o):=HRP.out Y mF wZ.out;obtain⟨c0,_⟩:=wZ.out.id';have c1:=wZ.out.rws;rw[as6.out] at c0;rw[HLn.out] at c1
  have UK:Hid (∃ Ak:Ra,C8 Y g (off+i*8) (.int .i64 ow.ver) (.slice Ak.ta ow.txt.length Ak.tc) (.slice Ak.ga ow.got.length Ak.gc) (.slice Ak.sa ow.ak.length Ak.sc) (.bool ow.wed) (.bool ow.aB) (.int .i64 ow.aC) (.slice Ak.ma ow.aA.length Ak.mc)∧iM Y Ak ow):=by
   have:=wZ.out.rowP (k:=i) (by rw[HLn.out];exact Iz.out) (by rw[uX.out];exact HFo.out) (by rw[uX.out];exact xU.out.1) (by rw[uX.out];exact xU.out.2)
   rw[uX.out] at this;exact this
  have kL:Hid (∀ Z,Below Y.heap.size Y Z→Calls Tryz.prog 140 #[.pointer (some ⟨B,0,none⟩)] Z fun e w'=>e=.returned (.pointer (some ⟨g,off+i*8,none⟩))∧Below Z.heap.size Z w'):=fun Z hZ=>jQ B i n g off c Z ((hZ.cell (World.block_lt_of_cell? _ _ c0)).trans c0) ((hZ.cell (World.block_lt_of_cell? _ _ c1)).trans c1) Iz.out
  have hbd:=(Same.drewN Y 1).below
  have KS:∀ Z,Below Y.heap.size Y Z→Z.cell? ⟨b0,0,none⟩=some (.int .i64 o.ver)∧Z.cell? ⟨b0,1,none⟩=some (.slice Ar.ta o.txt.length Ar.tc)∧Z.cell? ⟨b0,2,none⟩=some (.slice Ar.ga o.got.length Ar.gc)∧Z.cell? ⟨b0,3,none⟩=some (.slice Ar.sa o.ak.length Ar.sc)∧Z.cell? ⟨b0,4,none⟩=some (.bool o.wed)∧Z.cell? ⟨b0,5,none⟩=some (.bool o.aB)∧Z.cell? ⟨b0,6,none⟩=some (.int .i64 o.aC)∧Z.cell? ⟨b0,7,none⟩=some (.slice Ar.ma o.aA.length Ar.mc):=fun Z hZ=>by
   obtain⟨⟨x0,x1,x2,x3⟩,x4,x5,x6,x7⟩:=Bx.r8 (KN.out.below hZ);exact⟨x0,x1,x2,x3,x4,x5,x6,x7⟩
  clear c0 c1;refine jE (S:=fun Z:World=>Z.cell? ⟨b0,0,none⟩=some (.int .i64 o.ver)∧Z.cell? ⟨b0,1,none⟩=some (.slice Ar.ta o.txt.length Ar.tc)∧Z.cell? ⟨b0,2,none⟩=some (.slice Ar.ga o.got.length Ar.gc)∧Z.cell? ⟨b0,3,none⟩=some (.slice Ar.sa o.ak.length Ar.sc)∧Z.cell? ⟨b0,4,none⟩=some (.bool o.wed)∧Z.cell? ⟨b0,5,none⟩=some (.bool o.aB)∧Z.cell? ⟨b0,6,none⟩=some (.int .i64 o.aC)∧Z.cell? ⟨b0,7,none⟩=some (.slice Ar.ma o.aA.length Ar.mc)) 9 bH ((KS _ hbd)) fun hHeld=>?_
  refine aS (i:=0) rfl ?_;refine aS (i:=1) rfl ?_;refine aS (i:=2) rfl ?_;refine kJ (i:=6) rfl hHeld ?_;refine dI (i:=3) rfl fun K hK=>?_
  go_simp
  go_at_call 140
  refine (kL.out _ hbd).mono ?_;rintro e Y1 ⟨rfl,hb1⟩;have oZ:=hbd.trans (hb1.mono hbd.size);refine hK.out _ _ (KS _ oZ) (fun aK=>?_)
  clear hK hHeld;have hHeld:=aK;try simp only[dw]
  refine aS (i:=4) rfl ?_;obtain⟨Af,⟨⟨d0,d1,d2,d3⟩,d4,d5,d6,d7⟩,hrf⟩:=UK.out;have tt:∀ {x v},Y.cell? x=some v→Y1.cell? x=some v:=fun h=>(oZ.cell (World.block_lt_of_cell? _ _ h)).trans h
  replace d0:=tt d0;replace d1:=tt d1;replace d2:=tt d2;replace d3:=tt d3;replace d4:=tt d4;replace d5:=tt d5;replace d6:=tt d6;replace d7:=tt d7;have hAl:=Po Af Ar ow o Y1 (hrf.below oZ) (UJ.out.below oZ) as4.out as5.out;unfold bV bD at hAl;clear tt hrf;refine dI (i:=5) rfl fun K hK=>?_
  go_simp;refine hK.out _ _ (KS _ oZ) (fun aK=>?_)
  clear hK hHeld;have hHeld:=aK;try simp only[dw]
  refine dI (i:=7) rfl fun K hK=>?_
  go_simp
  go_at_call 147
  refine hAl.mono ?_;rintro e Y2 ⟨rfl,hb2⟩;have tH:=oZ.trans (hb2.mono oZ.size);refine hK.out _ _ (KS _ tH) (fun aK=>?_)
  clear hK hHeld;have hHeld:=aK;try simp only[dw]
  refine dI (i:=8) rfl fun K hK=>?_
  go_simp;refine hK.out _ _ (KS _ tH) (fun aK=>?_)
  clear hK hHeld;have hHeld:=aK;try simp only[dw]
  refine pX (by kernel_rfl) ?_
  have eF:=aj (wZ.out.step tH);have zM:Hid (∀ Z,Below Y2.heap.size Y2 Z→Calls Tryz.prog 140 #[.pointer (some ⟨B,0,none⟩)] Z fun e w'=>e=.returned (.pointer (some ⟨g,off+i*8,none⟩))∧Below Z.heap.size Z w'):=fun Z hZ=>kL.out Z (tH.trans (hZ.mono tH.size))
  clear hHeld d0 d1 d2 d3 d4 d5 d6 d7 hAl hb1 hb2 oZ tH hbd KS kL KN UJ UK wZ
  cases hsm:jI ow o with
  | true =>
   have HF:=aj (Px.out hsm);clear hsm Px II zM;go_wp2
   first|go_end0|go_ret
   exact⟨rfl,by rw[← HF.out];exact uJ.out _ _ eF.out⟩
  | false =>
   have HF:=aj (II.out hsm);have hO2:=zM.out Y2 (Below.refl _ _);clear hsm Px II zM;go_wp2_with fail
   refine hO2.mono ?_;rintro e Y3 ⟨rfl,hb3⟩;obtain⟨v1,v2,jY⟩:=(eF.out.step hb3).put (k:=i) (by rw[HLn.out];exact Iz.out) (j:=0) (x:=.int .i64 ow.ver) (y:=.int .i64 (ow.ver+1)) (r':={ ow with ver:=ow.ver+1 }) (by rw[uX.out];rfl) (by rw[uX.out];rfl)
   simp only[Nat.add_zero] at v1 v2 jY;rw[HF.out] at jY;have dJ:=aj jY;have yY:=Dc g (off+i*8) ow.ver Y3 v1 v2 Pq.out.1 Pq.out.2;clear jY hO2 hb3 v1 v2;go_wp2_with fail
   refine yY.mono ?_;rintro e w' ⟨rfl,hw'⟩;rw[hw'];clear hw' yY;go_wp2
   first|go_end0|go_ret
   exact⟨rfl,uJ.out _ _ dJ.out⟩
theorem XM (m:Mb):Lh m=(mJ m (bJ m) true).1:=by
 unfold Lh mJ;by_cases h:fO m=true
 ·rw[if_pos h,if_pos h]
  by_cases hd:m.done=true
  ·rw[if_pos hd,bJ,if_pos (.inl hd)]
  ·rw[if_neg hd,if_pos rfl]
 ·rw[if_neg h,if_neg h]
theorem XO {m:Mb} {i n:Nat} (ok:dO m i n):(bJ m).n=((bJ m).rows.length:Int):=by
 unfold bJ
 split
 ·rw[ok.hn,ok.len]
 ·simp only[List.length_set]
  rw[ok.hn,ok.len]
theorem UL:TK:=by
 intro A m w hv gU;have a0:=aF w (.cells #[.int .i64 m.id,.int .i64 m.n,.slice A.ra m.rows.length A.rc,.slice A.sa m.au.length A.sc,.bool m.done] 47);have a1:=aF (w.alloc (.cells #[.int .i64 m.id,.int .i64 m.n,.slice A.ra m.rows.length A.rc,.slice A.sa m.au.length A.sc,.bool m.done] 47)) (.cells #[.int .i64 0,.int .i64 0,.slice none 0 0,.slice none 0 0,.bool false] 47);have hb1:Below w.heap.size w ((w.alloc (.cells #[.int .i64 m.id,.int .i64 m.n,.slice A.ra m.rows.length A.rc,.slice A.sa m.au.length A.sc,.bool m.done] 47)).alloc (.cells #[.int .i64 0,.int .i64 0,.slice none 0 0,.slice none 0 0,.bool false] 47)):=a0.trans (a1.mono a0.size);have hx0:Bx ((w.alloc (.cells #[.int .i64 m.id,.int .i64 m.n,.slice A.ra m.rows.length A.rc,.slice A.sa m.au.length A.sc,.bool m.done] 47)).alloc (.cells #[.int .i64 0,.int .i64 0,.slice none 0 0,.slice none 0 0,.bool false] 47)) w.heap.size 47 #[.int .i64 m.id,.int .i64 m.n,.slice A.ra m.rows.length A.rc,.slice A.sa m.au.length A.sc,.bool m.done]:=(Bx.new w _ _).alloc _
 have hx1:Bx ((w.alloc (.cells #[.int .i64 m.id,.int .i64 m.n,.slice A.ra m.rows.length A.rc,.slice A.sa m.au.length A.sc,.bool m.done] 47)).alloc (.cells #[.int .i64 0,.int .i64 0,.slice none 0 0,.slice none 0 0,.bool false] 47)) (w.heap.size+1) 47 #[.int .i64 0,.int .i64 0,.slice none 0 0,.slice none 0 0,.bool false]:=by
  have:=Bx.new (w.alloc (.cells #[.int .i64 m.id,.int .i64 m.n,.slice A.ra m.rows.length A.rc,.slice A.sa m.au.length A.sc,.bool m.done] 47)) 47 #[.int .i64 0,.int .i64 0,.slice none 0 0,.slice none 0 0,.bool false];simp only[World.size_alloc] at this;exact this
 have mV:=C9 109 #[] A m (bJ m) true ((w.alloc (.cells #[.int .i64 m.id,.int .i64 m.n,.slice A.ra m.rows.length A.rc,.slice A.sa m.au.length A.sc,.bool m.done] 47)).alloc (.cells #[.int .i64 0,.int .i64 0,.slice none 0 0,.slice none 0 0,.bool false] 47)) (hv.below hb1) (fun _ _=>enters_of Tryz.func109 (by kernel_rfl) rfl _ _)
  (fun hok _ => by
   obtain⟨i,n,ok⟩:=je.1 hok;exact XO ok)
  (fun X B fp i n hX hpl ok hd=>(ai1 B m i n fp X hpl ok hd (by have:=gU (je.2 ⟨i,n,ok⟩);rw[ok.own] at this;exact this)).mono (fun e w' h=>.inl ⟨rfl,h.1,h.2⟩))
 have HZ:=aj (XM m);unfold eG dZ at mV;have HR0:=aj hx1;have HB0:=aj hb1;obtain⟨c0,c1,c2,c3,c4⟩:=Bx.r5 hx0;clear a0 a1 hb1 hx0 hx1 hv gU;unfold eG dZ;generalize mJ m (bJ m) true=pp at *;obtain⟨pm,pf⟩:=pp;simp only at mV HZ
 go_enter Tryz.func70,Tryz.ntmps70
 go_wp2_with fail
 generalize (w.alloc (.cells #[.int .i64 m.id,.int .i64 m.n,.slice A.ra m.rows.length A.rc,.slice A.sa m.au.length A.sc,.bool m.done] 47)).alloc (.cells #[.int .i64 0,.int .i64 0,.slice none 0 0,.slice none 0 0,.bool false] 47)=W0 at *;refine mV.mono ?_;rintro e w1 ⟨A2,rfl,fp,hl,hf,hb⟩;have hba:=aF w1 (.cells #[.int .i64 pm.id,.int .i64 pm.n,.slice A2.ra pm.rows.length A2.rc,.slice A2.sa pm.au.length A2.sc,.bool pm.done] 47);have hx2:=Bx.new w1 47 #[.int .i64 pm.id,.int .i64 pm.n,.slice A2.ra pm.rows.length A2.rc,.slice A2.sa pm.au.length A2.sc,.bool pm.done];have hR:=(HR0.out.below hb).below hba
 have HN:Hid (∀ {z0 z1 z2 z3 z4:Value},iL w ((((((w1.alloc (.cells #[.int .i64 pm.id,.int .i64 pm.n,.slice A2.ra pm.rows.length A2.rc,.slice A2.sa pm.au.length A2.sc,.bool pm.done] 47)).setCell ⟨w.heap.size+1,0,none⟩ z0).setCell ⟨w.heap.size+1,1,none⟩ z1).setCell ⟨w.heap.size+1,2,none⟩ z2).setCell ⟨w.heap.size+1,3,none⟩ z3).setCell ⟨w.heap.size+1,4,none⟩ z4) (fD pm) (fE A2 pm)):=fun {z0 z1 z2 z3 z4}=>by
  have hB1:=HB0.out.trans (hb.mono HB0.out.size);have hB2:=hB1.trans (hba.mono hB1.size);have h0:=HR0.out.lt;exact⟨fp,bP (bM hl hba) (kX _ (w.heap.size+1)) (fun x hx e=>by have:=hf x hx;omega),fun x hx=>by have:=hf x hx;omega,(kX _ (w.heap.size+1)).below hB2 hB2.size (fun x e=>by omega)⟩
 obtain⟨z0,z1,z2,z3,z4⟩:=Bx.r5 hR;obtain⟨r0,r1,r2,r3,r4⟩:=hR.f5;clear c0 c1 c2 c3 c4;obtain⟨c0,c1,c2,c3,c4⟩:=Bx.r5 hx2;clear mV hl hf hb hR hba hx2;unfold eG dZ;go_upto_region 2 with fail
 generalize w1.alloc (.cells #[.int .i64 pm.id,.int .i64 pm.n,.slice A2.ra pm.rows.length A2.rc,.slice A2.sa pm.au.length A2.sc,.bool pm.done] 47)=W2 at *;go_wp2;refine bodyPost_ret (v:=eG A2 pm) (by simp[results,Tryz.results70,go_sem,eG,dZ, *]) rfl ?_
 rw[HZ.out];exact⟨_,rfl,HN.out⟩
theorem UM (m:Mb) (who:Int):Gl m who=mJ m (aW m who).1 (aW m who).2:=by
 unfold Gl mJ
 split
 ·by_cases hd:m.done=true
  ·rw[if_pos hd,aW,if_pos (.inr (.inr (.inr (.inl hd))))]
  ·rw[if_neg hd]
   cases hf:(aW m who).2 with
   | true=>rw[if_pos rfl,← hf]
   | false =>
    rw[if_neg (by decide)]
    unfold aW at hf ⊢
    split at hf
    ·rename_i h;rw[if_pos h]
    ·cases hf
 ·rfl
theorem XP (B:Nat) (who:Int) (b1:Nat) (X:World) (R:Ending→World→Prop) (hc:X.cell? ⟨b1,0,none⟩=some (.int .i64 who)) (hS:Calls Tryz.prog 161 #[.pointer (some ⟨B,0,none⟩),.int .i64 who] X R) (hR:∀ e w',R e w'→e=.returned (.tuple #[])∨Gu e) :
  Calls Tryz.prog 160 #[.pointer (some ⟨B,0,none⟩),.pointer (some ⟨b1,0,none⟩)] X R:=by
 have HR:=aj hR;clear hR;go_enter Tryz.func160,Tryz.ntmps160
 go_wp2_with fail
 refine hS.mono ?_;intro e w1 hRe;rcases HR.out e w1 hRe with rfl|⟨T,v,rfl⟩
 ·have Bl:Hid (R (.returned (.tuple #[])) w1):=hRe
  clear hRe hS;go_wp2
  first|go_end0|go_ret
  exact Bl.out
 ·exact⟨rfl,hRe⟩
theorem UN:TI:=by
 intro A m who w hv h6;have hmf:∀ (fn:Fn) (first cap:Array Value) (w:World),(Instr.makeFunc fn first cap).run Tryz.prog w=.ok (.func fn first cap) w:=fun _ _ _ _=>rfl
 have a0:=aF w (.cells #[.int .i64 m.id,.int .i64 m.n,.slice A.ra m.rows.length A.rc,.slice A.sa m.au.length A.sc,.bool m.done] 47);have hb0:=a0;have a1:=aF (w.alloc (.cells #[.int .i64 m.id,.int .i64 m.n,.slice A.ra m.rows.length A.rc,.slice A.sa m.au.length A.sc,.bool m.done] 47)) (.cells #[.int .i64 who] 2);have hb1:=hb0.trans (a1.mono hb0.size);have a2:=aF ((w.alloc (.cells #[.int .i64 m.id,.int .i64 m.n,.slice A.ra m.rows.length A.rc,.slice A.sa m.au.length A.sc,.bool m.done] 47)).alloc (.cells #[.int .i64 who] 2)) (.cells #[.int .i64 0,.int .i64 0,.slice none 0 0,.slice none 0 0,.bool false] 47);have hb2:=hb1.trans (a2.mono hb1.size)
 have hx0:Bx (((w.alloc (.cells #[.int .i64 m.id,.int .i64 m.n,.slice A.ra m.rows.length A.rc,.slice A.sa m.au.length A.sc,.bool m.done] 47)).alloc (.cells #[.int .i64 who] 2)).alloc (.cells #[.int .i64 0,.int .i64 0,.slice none 0 0,.slice none 0 0,.bool false] 47)) (w.heap.size) 47 #[.int .i64 m.id,.int .i64 m.n,.slice A.ra m.rows.length A.rc,.slice A.sa m.au.length A.sc,.bool m.done]:=by
  have:=((Bx.new w 47 #[.int .i64 m.id,.int .i64 m.n,.slice A.ra m.rows.length A.rc,.slice A.sa m.au.length A.sc,.bool m.done]).alloc (.cells #[.int .i64 who] 2)).alloc (.cells #[.int .i64 0,.int .i64 0,.slice none 0 0,.slice none 0 0,.bool false] 47);try simp only[World.size_alloc] at this
  exact this
 have hx1:Bx (((w.alloc (.cells #[.int .i64 m.id,.int .i64 m.n,.slice A.ra m.rows.length A.rc,.slice A.sa m.au.length A.sc,.bool m.done] 47)).alloc (.cells #[.int .i64 who] 2)).alloc (.cells #[.int .i64 0,.int .i64 0,.slice none 0 0,.slice none 0 0,.bool false] 47)) (w.heap.size+1) 2 #[.int .i64 who]:=by
  have:=(Bx.new (w.alloc (.cells #[.int .i64 m.id,.int .i64 m.n,.slice A.ra m.rows.length A.rc,.slice A.sa m.au.length A.sc,.bool m.done] 47)) 2 #[.int .i64 who]).alloc (.cells #[.int .i64 0,.int .i64 0,.slice none 0 0,.slice none 0 0,.bool false] 47);try simp only[World.size_alloc] at this
  exact this
 have hx2:Bx (((w.alloc (.cells #[.int .i64 m.id,.int .i64 m.n,.slice A.ra m.rows.length A.rc,.slice A.sa m.au.length A.sc,.bool m.done] 47)).alloc (.cells #[.int .i64 who] 2)).alloc (.cells #[.int .i64 0,.int .i64 0,.slice none 0 0,.slice none 0 0,.bool false] 47)) (w.heap.size+1+1) 47 #[.int .i64 0,.int .i64 0,.slice none 0 0,.slice none 0 0,.bool false]:=by
  have:=Bx.new ((w.alloc (.cells #[.int .i64 m.id,.int .i64 m.n,.slice A.ra m.rows.length A.rc,.slice A.sa m.au.length A.sc,.bool m.done] 47)).alloc (.cells #[.int .i64 who] 2)) 47 #[.int .i64 0,.int .i64 0,.slice none 0 0,.slice none 0 0,.bool false];try simp only[World.size_alloc] at this
  exact this
 have hP:=hv.below hb2
 have mV:=C9 160 #[.pointer (some ⟨w.heap.size+1,0,none⟩)] A m (aW m who).1 (aW m who).2 (((w.alloc (.cells #[.int .i64 m.id,.int .i64 m.n,.slice A.ra m.rows.length A.rc,.slice A.sa m.au.length A.sc,.bool m.done] 47)).alloc (.cells #[.int .i64 who] 2)).alloc (.cells #[.int .i64 0,.int .i64 0,.slice none 0 0,.slice none 0 0,.bool false] 47)) hP (fun _ _=>enters_of Tryz.func160 (by kernel_rfl) rfl _ _)
  (fun hok hf => by
   obtain⟨i,n,ok⟩:=je.1 hok;have:=(AX ok who).1;rw[this.hn,this.len])
  (fun X B fp i n hX hpl ok hd => XP B who (w.heap.size + 1) X _ ((hx1.below hX).at 0 rfl) (ag2 B m i n who fp X hpl ok hd) (fun e w' h => by
   rcases h with ⟨_,h,_⟩|⟨_,h,_⟩
   ·exact .inl h
   ·exact .inr h))
 have HZ0:=UM m who;unfold eG dZ at mV;have hWl:=hx2.lt;obtain⟨c0,c1,c2,c3,c4⟩:=Bx.r5 hx0;have HR0:=aj hx2;have HB0:=aj hb2;have HZ:=aj HZ0;clear a0 a1 a2 hb0 hb1 hb2 hx0 hx1 hx2 hP hv HZ0;unfold eG dZ;generalize mJ m (aW m who).1 (aW m who).2=pm at *;go_enter Tryz.func126,Tryz.ntmps126
 go_wp2_with fail
 generalize (((w.alloc (.cells #[.int .i64 m.id,.int .i64 m.n,.slice A.ra m.rows.length A.rc,.slice A.sa m.au.length A.sc,.bool m.done] 47)).alloc (.cells #[.int .i64 who] 2)).alloc (.cells #[.int .i64 0,.int .i64 0,.slice none 0 0,.slice none 0 0,.bool false] 47))=W0 at *;refine mV.mono ?_;rintro e w1 ⟨A2,rfl,fp,hl,hf,hb⟩;have hR:=HR0.out.below hb;have hsz:=hb.size
 have HN:Hid (∀ {z0 z1 z2 z3 z4:Value},iL w (((((w1.setCell ⟨w.heap.size+1+1,0,none⟩ z0).setCell ⟨w.heap.size+1+1,1,none⟩ z1).setCell ⟨w.heap.size+1+1,2,none⟩ z2).setCell ⟨w.heap.size+1+1,3,none⟩ z3).setCell ⟨w.heap.size+1+1,4,none⟩ z4) (fD pm.1) (fE A2 pm.1)):=fun {z0 z1 z2 z3 z4}=>by
  have hB1:=HB0.out.trans (hb.mono HB0.out.size);exact⟨fp,bP hl (kX w1 (w.heap.size+1+1)) (fun x hx e=>by have:=hf x hx;omega),fun x hx=>by have:=hf x hx;omega,(kX w1 (w.heap.size+1+1)).below hB1 hB1.size (fun x e=>by omega)⟩
 obtain⟨z0,z1,z2,z3,z4⟩:=Bx.r5 hR;obtain⟨r0,r1,r2,r3,r4⟩:=hR.f5;clear mV hl hf hb hR c0 c1 c2 c3 c4;unfold eG dZ;go_wp2;refine bodyPost_ret (v:=.tuple #[eG A2 pm.1,.bool pm.2]) (by simp[results,Tryz.results126,go_sem,eG,dZ, *]) rfl ?_
 rw[HZ.out];exact⟨_,rfl,HN.out⟩
end Go.Proofs.YtafimeakbdmkjaaGreat