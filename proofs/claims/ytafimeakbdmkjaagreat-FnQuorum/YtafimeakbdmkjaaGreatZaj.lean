/-
  Texts in one.
-/
import Derived.Test.YtafimeakbdmkjaaGreatZai
import Derived.Test.YtafimeakbdmkjaaGreatZac
import Derived.Test.YtafimeakbdmkjaaGreatZaa
namespace Go.Proofs.YtafimeakbdmkjaaGreat
set_option linter.unusedVariables false
set_option linter.unusedSimpArgs false
open Go.RowKit Go.Sort
set_option maxRecDepth 100000
set_option maxHeartbeats 12800000
theorem SS (B o:Nat) (m:Mb) (i n:Nat) (L:List Nat) (la:Option Addr) (lc:Nat) (fl fp:Fp) (w:World) (h:dN w B o (gW m) fp) (ok:dO m i n) (hw:(ah m.rows i).wed=true) (hl:aI.ow w (bQ (lN L)) (.slice la L.length lc) fl) (hfl:∀ b,fl b→¬ fp b∧b≠B) (hL:∀ k∈L,k<n) (hne:0<L.length) (hLn:L.length≤n) :
  Calls Tryz.prog 119 #[.pointer (some ⟨B,o,none⟩),.slice la L.length lc] w fun e w'=>e=.returned (.tuple #[])∧Mk w w' B o { m with rows:=m.rows.set i (lead m.rows i (ah m.rows i) L) } fp:=by
 have bH:=dH;have hil:i<m.rows.length:=by rw[ok.len];exact ok.lt
 obtain⟨g,off,c,M0⟩:=Mw.start h (by omega)
 obtain⟨c0,c1,c4⟩:=M0.id';have c2:=M0.rws;rw[ok.hid] at c0;have i0:(0:Int)≤(i:Int):=by omega
 have i1:(i:Int)<(m.rows.length:Int):=by omega
 have p0:∀ q:Bk w,q.w.cell? ⟨B,o,none⟩=_:=fun q=>(q.h.cell (World.block_lt_of_cell? _ _ c0)).trans c0
 have p2:∀ q:Bk w,q.w.cell? ⟨B,o+2,none⟩=_:=fun q=>(q.h.cell (World.block_lt_of_cell? _ _ c2)).trans c2
 have HC2:=aj M0.rws;have ig:=aj M0;have hr:=ok.ok i ok.lt;have fG:=hr.n5;have HNO:Hid (({ m with rows:=m.rows.set i (ah m.rows i) }:Mb)=m):=by rw[Hid,lg (dW hil)]
 have Dw:Hid (∀ X,Below w.heap.size w X→Vec X la (lN L).length (lN L)):=fun X hX=>jo (by rw[eP];exact aI.cZ hl hX) (sW hL (by omega))
 have HL:=aj hL;clear c0 c1 c4 c2 M0 h hl hL;go_enter Tryz.func119,Tryz.ntmps119
 go_wp2_with fail
 refine eU ?_;repeat (go_big_quiet_step ((first|rfl)))
 refine wpQuiet_nil (dK fun wE aJ=>?_)
 clear p0 p2;have bF:=aj (ig.out.step aJ);have HB1:=aj aJ;obtain⟨c0,c1,c4⟩:=bF.out.id';rw[ok.hid] at c0;obtain⟨Ao,⟨⟨o0,o1,o2,o3⟩,o4,o5,o6,o7⟩,_⟩:=bF.out.row ok.fit hil;have T:∀ {x v},wE.cell? x=some v→∀ q:Bk wE,q.w.cell? x=some v:=fun h q=>(q.h.cell (World.block_lt_of_cell? _ _ h)).trans h
 have p0:=T c0;have Kv:=T o5;have po6:=T o6;obtain⟨d,hd⟩:∃ d:Bool,Hid (d=decide ((ah m.rows i).aB=true∧(i:Int)≤(ah m.rows i).aC)):=⟨_,rfl⟩
 have J4:Hid (lead m.rows i (ah m.rows i) L=if d=true then ah m.rows i else if iH m.rows (ah m.rows i) L=true then { ah m.rows i with aB:=true,aC:=(i:Int),aA:=endOf m.rows L } else ah m.rows i):=by
  rw[Hid,lead,hd.out];simp only[decide_eq_true_eq]
 clear c0 c1 c4 o0 o1 o2 o3 o4 o5 o6 o7 T aJ ig;go_upto_region 1 with fail
 go_cut [33] from 19 to 33 (fun v X=>v=.bool d∧Below wE.heap.size wE X)
 case first =>
  by_cases a1:(ah m.rows i).aB=true;rotate_left
  ·have a1':(ah m.rows i).aB=false:=by simpa using a1
   have hd0:Hid (d=false):=by rw[Hid,hd.out];simp[a1']
   rw[a1'] at Kv;clear a1 a1';refine eU ?_;repeat (go_big_quiet_step ((first|rfl)))
   refine wpQuiet_nil (dK fun wE aJ=>?_)
   try go_wp2_with fail
   go_meet
   case rel=>exact⟨by rw[hd0.out],aJ⟩
  rw[a1] at Kv;by_cases a5:(i:Int)≤(ah m.rows i).aC
  ·have hd0:Hid (d=true):=by rw[Hid,hd.out];simp[a1,a5]
   have g5:decide ((i:Int)≤(ah m.rows i).aC)=true:=by simpa using a5
   clear a1;refine eU ?_;repeat (go_big_quiet_step ((first|rfl)))
   refine wpQuiet_nil (dK fun wE aJ=>?_)
   try go_wp2_with fail
   go_meet
   case rel=>exact⟨by rw[hd0.out],aJ⟩
  have hd0:Hid (d=false):=by rw[Hid,hd.out];simp;intro _;omega
  have g5:decide ((i:Int)≤(ah m.rows i).aC)=false:=by simpa using a5
  clear a1;refine eU ?_;repeat (go_big_quiet_step ((first|rfl)))
  refine wpQuiet_nil (dK fun wE aJ=>?_)
  try go_wp2_with fail
  go_meet
  case rel=>exact⟨by rw[hd0.out],aJ⟩
 case rest =>
  obtain⟨rfl,hBc⟩:=hcut;clear p0 Kv po6;have eF:=aj (bF.out.step hBc);have HB2:=aj (HB1.out.trans (hBc.mono HB1.out.size));clear hBc;generalize wc=V at *
  cases d with
  | true =>
   have HE:Hid (lead m.rows i (ah m.rows i) L=ah m.rows i):=by rw[Hid,J4.out];rfl
   go_wp2
   (try simp only[Exit.inBlock,Exit.then])
   refine bodyPost_ret (results_none rfl _ _ _) rfl ?_;rw[HE.out,HNO.out];exact⟨rfl,eF.out.mk' HC2.out rfl⟩
  | false =>
   have HE:Hid (lead m.rows i (ah m.rows i) L=if iH m.rows (ah m.rows i) L=true then { ah m.rows i with aB:=true,aC:=(i:Int),aA:=endOf m.rows L } else ah m.rows i):=by rw[Hid,J4.out];rfl
   have hba:=aF V (.cells #[] 2);have iQ:=aj (eF.out.step hba);have HB3:=aj (HB2.out.trans (hba.mono HB2.out.size))
   have hgV:g<V.heap.size:=by
    obtain⟨dD,hp,_⟩:=eF.out.bU.next;obtain⟨g',off',c',f,h1,_,hfg,_⟩:=hp.el (F:=eY) gI (by omega) (j:=2) (L:=m.rows) rfl (dW hil)
    have e:=Option.some.inj (h1.symm.trans eF.out.rws)
    cases e
    exact hp.flt _ hfg
   clear hba J4;go_wp2_with fail
   generalize hV3:V.alloc (.cells #[] 2)=V3 at *;clear hV3
   go_loopw [5,6,7] (fun b tr v wr=>∃ (k:Nat) (x:Int) (ta:Option Addr) (tc:Nat) (T:List Int),k≤L.length∧v=.int .i64 (k:Int)∧b=.int .i64 x∧tr=.slice ta T.length tc∧Hid (best m.rows (L.take k) (-1,[])=(x,T))∧Hid (iH m.rows (ah m.rows i) (L.take k)=true)∧oQ wr ta T g∧Below w.heap.size w wr∧Mw w wr B o m fp g off c) (fun _ _ v _=>L.length-(intOf v).toNat)
   case atStart=>exact⟨0,-1,some ⟨V.heap.size,0,none⟩,0,[],Nat.zero_le _,rfl,rfl,rfl,rfl,rfl,⟨⟨rfl,fun x hx=>absurd hx List.not_mem_nil,.inl rfl⟩,.inl rfl⟩,HB3.out,iQ.out⟩
   case round =>
    obtain⟨k,x,ta,tc,T,hk,rfl,rfl,rfl,Dx,hLo,hV,hBw,M⟩:=hrel;by_cases hlt:k<L.length
    ·have l9:L.getD k 0<n:=HL.out _ (jq hlt)
     have pK:L.getD k 0<m.rows.length:=by rw[ok.len];exact l9
     have nP:=Dw.out wr hBw;rcases nP.2.2 with hz|⟨lb,lo,hla,hlc⟩
     ·rw[eP] at hz;omega
     have hlk:=hlc k (by rw[eP];exact hlt)
     rw[rX hlt] at hlk;obtain⟨AJ,wJ,Og,Oh⟩:=M.KC ok.fit pK;have HBt:Hid (best m.rows (L.take (k+1)) (-1,[])=if (ah m.rows (L.getD k 0)).aB=true∧x<(ah m.rows (L.getD k 0)).aC then ((ah m.rows (L.getD k 0)).aC,(ah m.rows (L.getD k 0)).aA) else (x,T)):=by rw[Hid,SK hlt,Dx.out]
     have YR:Hid (iH m.rows (ah m.rows i) (L.take (k+1))=((ah m.rows (L.getD k 0)).wed&&(ah m.rows i).ak.all (fun x=>decide (x∈(ah m.rows (L.getD k 0)).ak)))):=by rw[Hid,Nl hlt,hLo.out];rfl
     have ay2:Hid (((ah m.rows (L.getD k 0)).wed&&(ah m.rows i).ak.all (fun x=>decide (x∈(ah m.rows (L.getD k 0)).ak)))=false→iH m.rows (ah m.rows i) L=false):=fun h=>SI hlt h
     have an3:=ok.ok _ l9;generalize L.getD k 0=J at *;obtain⟨Ao,⟨⟨o0,o1,o2,o3⟩,o4,o5,o6,o7⟩,Qu⟩:=M.row ok.fit hil;have k1:(k:Int)<(L.length:Int):=by omega
     have k0:(0:Int)≤(k:Int):=by omega
     have J0:(0:Int)≤(J:Int):=by omega
     have J1:(J:Int)<(m.rows.length:Int):=by omega
     have jP:=M.rws;obtain⟨⟨⟨d0,d1,d2,d3⟩,d4,d5,d6,d7⟩,wK⟩:=wJ;have Eh:=aj wK;have Qv:=aj Qu;have HO3:=aj o3;have HM:=aj M;have l7:=aj hBw;have HV:=aj hV;have HVm:=aj Oh;generalize hrr:ah m.rows J=r at *;have HRR:=aj hrr
     have KS:∀ X,Below wr.heap.size wr X→(X.cell? ⟨B,o+2,none⟩=some (.slice (some ⟨g,off,none⟩) m.rows.length c)∧X.cell? ⟨lb,lo+k,none⟩=some (.int .i64 (J:Int))∧X.cell? ⟨g,off+J*8,none⟩=some (.int .i64 r.ver)∧X.cell? ⟨g,off+J*8+1,none⟩=some (.slice AJ.ta r.txt.length AJ.tc)∧X.cell? ⟨g,off+J*8+2,none⟩=some (.slice AJ.ga r.got.length AJ.gc)∧X.cell? ⟨g,off+J*8+3,none⟩=some (.slice AJ.sa r.ak.length AJ.sc)∧X.cell? ⟨g,off+J*8+4,none⟩=some (.bool r.wed)∧X.cell? ⟨g,off+J*8+5,none⟩=some (.bool r.aB)∧X.cell? ⟨g,off+J*8+6,none⟩=some (.int .i64 r.aC)∧X.cell? ⟨g,off+J*8+7,none⟩=some (.slice AJ.ma r.aA.length AJ.mc)):=fun X hX=>by
      have t:∀ {x v},wr.cell? x=some v→X.cell? x=some v:=fun h=>(hX.cell (World.block_lt_of_cell? _ _ h)).trans h
      exact⟨t jP,t hlk,t d0,t d1,t d2,t d3,t d4,t d5,t d6,t d7⟩
     have hbd:=(Same.drewN wr 1).below;clear hrr M wK Qu hlc hlk jP d0 d1 d2 d3 d4 d5 d6 d7 o0 o1 o2 o3 o4 o5 o6 o7 hV Oh Og hBw nP;subst hla;go_wp2_with fail
     refine jE (S:=fun X:World=>X.cell? ⟨B,o+2,none⟩=some (.slice (some ⟨g,off,none⟩) m.rows.length c)∧X.cell? ⟨lb,lo+k,none⟩=some (.int .i64 (J:Int))∧X.cell? ⟨g,off+J*8,none⟩=some (.int .i64 r.ver)∧X.cell? ⟨g,off+J*8+1,none⟩=some (.slice AJ.ta r.txt.length AJ.tc)∧X.cell? ⟨g,off+J*8+2,none⟩=some (.slice AJ.ga r.got.length AJ.gc)∧X.cell? ⟨g,off+J*8+3,none⟩=some (.slice AJ.sa r.ak.length AJ.sc)∧X.cell? ⟨g,off+J*8+4,none⟩=some (.bool r.wed)∧X.cell? ⟨g,off+J*8+5,none⟩=some (.bool r.aB)∧X.cell? ⟨g,off+J*8+6,none⟩=some (.int .i64 r.aC)∧X.cell? ⟨g,off+J*8+7,none⟩=some (.slice AJ.ma r.aA.length AJ.mc)) 11 bH ((KS _ hbd)) fun hHeld=>?_
     refine aY (i:=0) rfl hHeld ?_;refine aY (i:=1) rfl hHeld ?_;refine aY (i:=2) rfl hHeld ?_;refine aY (i:=3) rfl hHeld ?_;refine aY (i:=4) rfl hHeld ?_;refine aY (i:=5) rfl hHeld ?_;refine aY (i:=6) rfl hHeld ?_;refine aY (i:=7) rfl hHeld ?_;refine aY (i:=8) rfl hHeld ?_;refine aY (i:=9) rfl hHeld ?_;refine dI (i:=10) rfl fun K hK=>?_
     go_simp;have hb2:Below wr.heap.size wr (wr.drew.alloc (.cells #[.int .i64 0,.slice none 0 0,.slice none 0 0,.slice none 0 0,.bool false,.bool false,.int .i64 0,.slice none 0 0] 44)):=hbd.trans ((aF wr.drew _).mono hbd.size);refine hK.out _ _ (KS _ hb2) (fun aK=>?_)
     clear hK hHeld;have hHeld:=aK;try simp only[dw]
     refine lQ rfl fun K hK=>?_
     go_simp;refine hK.out _ _ ?_;have hb5:Below wr.heap.size wr (wr.alloc (.cells #[.int .i64 r.ver,.slice AJ.ta r.txt.length AJ.tc,.slice AJ.ga r.got.length AJ.gc,.slice AJ.sa r.ak.length AJ.sc,.bool r.wed,.bool r.aB,.int .i64 r.aC,.slice AJ.ma r.aA.length AJ.mc] 44)).drew:=(aF wr _).trans ((Same.drewN _ 1).below.mono (aF wr _).size);have hx5:Bx (wr.alloc (.cells #[.int .i64 r.ver,.slice AJ.ta r.txt.length AJ.tc,.slice AJ.ga r.got.length AJ.gc,.slice AJ.sa r.ak.length AJ.sc,.bool r.wed,.bool r.aB,.int .i64 r.aC,.slice AJ.ma r.aA.length AJ.mc] 44)).drew wr.heap.size 44 #[.int .i64 r.ver,.slice AJ.ta r.txt.length AJ.tc,.slice AJ.ga r.got.length AJ.gc,.slice AJ.sa r.ak.length AJ.sc,.bool r.wed,.bool r.aB,.int .i64 r.aC,.slice AJ.ma r.aA.length AJ.mc]:=Bx.new wr _ _;generalize (wr.alloc (.cells #[.int .i64 r.ver,.slice AJ.ta r.txt.length AJ.tc,.slice AJ.ga r.got.length AJ.gc,.slice AJ.sa r.ak.length AJ.sc,.bool r.wed,.bool r.aB,.int .i64 r.aC,.slice AJ.ma r.aA.length AJ.mc] 44)).drew=W5 at *;clear hHeld KS hbd hb2 hK;have Dt:Hid (Bx W5 wr.heap.size 44 #[.int .i64 r.ver,.slice AJ.ta r.txt.length AJ.tc,.slice AJ.ga r.got.length AJ.gc,.slice AJ.sa r.ak.length AJ.sc,.bool r.wed,.bool r.aB,.int .i64 r.aC,.slice AJ.ma r.aA.length AJ.mc]):=hx5;have lS:Hid (Below wr.heap.size wr W5):=hb5;obtain⟨⟨x0,x1,x2,x3⟩,x4,x5,x6,x7⟩:=Bx.r8 hx5;have T5:∀ {x v},W5.cell? x=some v→∀ q:Bk W5,q.w.cell? x=some v:=fun h q=>(q.h.cell (World.block_lt_of_cell? _ _ h)).trans h
     have EW:=T5 x3;have Du:=T5 x4;have po3:=T5 ((hb5.cell (World.block_lt_of_cell? _ _ HO3.out)).trans HO3.out)
     have C2:∀ q:Bk W5,Calls Tryz.prog 151 #[.slice AJ.sa r.ak.length AJ.sc,.slice Ao.sa (ah m.rows i).ak.length Ao.sc] q.w fun e w'=>e=.returned (.bool ((ah m.rows i).ak.all (fun x=>decide (x∈r.ak))))∧Below q.w.heap.size q.w w':=fun q=>by
      have hq:=lS.out.trans (q.h.mono lS.out.size);exact (Vg AJ.sa Ao.sa AJ.sc Ao.sc r.ak (ah m.rows i).ak q.w ((Eh.out.below hq).ak) ((Qv.out.below hq).ak) Eh.out.ms Qv.out.ms).mono (fun e w' h=>⟨h.1,by rw[h.2];exact Below.refl _ _⟩)
     clear x0 x1 x2 x3 x4 x5 x6 x7 hx5 hb5 T5;obtain⟨dd,hdd⟩:∃ dd:Bool,Hid (dd=(r.wed&&(ah m.rows i).ak.all (fun x=>decide (x∈r.ak)))):=⟨_,rfl⟩
     go_upto_region 8 with fail
     go_cut [63] from 51 to 63 (fun v X=>v=.bool (!dd)∧Below W5.heap.size W5 X)
     case first =>
      rcases Bool.eq_false_or_eq_true r.wed with a1|a1
      ·rw[a1] at Du hdd
       clear a1;generalize (ah m.rows i).ak.all (fun x=>decide (x∈r.ak))=al at *
       cases al
       ·have hd0:Hid (dd=false):=hdd.out
        refine eU ?_;repeat (go_big_quiet_step ((first|(go_at_call 151;exact aQ _ (C2 _))|rfl)))
        refine wpQuiet_nil (dK fun wE aJ=>?_)
        try go_wp2_with fail
        go_meet
        case rel=>exact⟨by rw[hd0.out];rfl,aJ⟩
       ·have hd0:Hid (dd=true):=hdd.out
        refine eU ?_;repeat (go_big_quiet_step ((first|(go_at_call 151;exact aQ _ (C2 _))|rfl)))
        refine wpQuiet_nil (dK fun wE aJ=>?_)
        try go_wp2_with fail
        go_meet
        case rel=>exact⟨by rw[hd0.out];rfl,aJ⟩
      ·have hd0:Hid (dd=false):=by rw[Hid,hdd.out,a1];rfl
       rw[a1] at Du;clear a1;refine eU ?_;repeat (go_big_quiet_step ((first|(go_at_call 151;exact aQ _ (C2 _))|rfl)))
       refine wpQuiet_nil (dK fun wE aJ=>?_)
       try go_wp2_with fail
       go_meet
       case rel=>exact⟨by rw[hd0.out];rfl,aJ⟩
     case rest =>
      obtain⟨rfl,hBc⟩:=hcut;have E5:=lS.out.trans (hBc.mono lS.out.size);have gJ:=aj (HM.out.step E5);have vg:=aj (l7.out.trans (E5.mono l7.out.size));have HV6:=aj (HV.out.below E5);have ay3:=aj (HVm.out.below E5);obtain⟨⟨x0,x1,x2,x3⟩,x4,x5,x6,x7⟩:=Bx.r8 (Dt.out.below hBc);clear EW Du po3 C2 hBc E5
      cases dd with
      | false =>
       have HZ:Hid (lead m.rows i (ah m.rows i) L=ah m.rows i):=by rw[Hid,HE.out,ay2.out hdd.out.symm];rfl
       go_wp2
       (try simp only[Exit.inBlock,Exit.then])
       refine bodyPost_ret (results_none rfl _ _ _) rfl ?_;rw[HZ.out,HNO.out];exact⟨rfl,gJ.out.mk' HC2.out rfl⟩
      | true =>
       have VP:Hid (iH m.rows (ah m.rows i) (L.take (k+1))=true):=by rw[Hid,YR.out];exact hdd.out.symm
       by_cases a1:r.aB=true;rotate_left
       ·have a1':r.aB=false:=by simpa using a1
        have KF:Hid (best m.rows (L.take (k+1)) (-1,[])=(x,T)):=by rw[Hid,HBt.out,if_neg (fun h=>a1 h.1)]
        rw[a1'] at x5;clear a1 a1';go_wp2;go_roundw
        case rel=>exact⟨k+1,x,ta,tc,T,by omega,by go_num,rfl,rfl,KF,VP,HV6.out,vg.out,gJ.out⟩
        case measure=>simp[intOf];omega
       by_cases a2:x<r.aC
       ·have KF:Hid (best m.rows (L.take (k+1)) (-1,[])=(r.aC,r.aA)):=by rw[Hid,HBt.out,if_pos ⟨a1,a2⟩]
        rw[a1] at x5;clear a1;go_wp2;go_roundw
        case rel=>exact⟨k+1,r.aC,AJ.ma,AJ.mc,r.aA,by omega,by go_num,rfl,rfl,KF,VP,ay3.out,vg.out,gJ.out⟩
        case measure=>simp[intOf];omega
       ·have KF:Hid (best m.rows (L.take (k+1)) (-1,[])=(x,T)):=by rw[Hid,HBt.out,if_neg (fun h=>a2 h.2)]
        rw[a1] at x5;clear a1;go_wp2;go_roundw
        case rel=>exact⟨k+1,x,ta,tc,T,by omega,by go_num,rfl,rfl,KF,VP,HV6.out,vg.out,gJ.out⟩
        case measure=>simp[intOf];omega
    ·have k1:¬ ((k:Int)<(L.length:Int)):=by omega
     have HBe:Hid (best m.rows L (-1,[])=(x,T)):=by rw[Hid,← Dx.out,List.take_of_length_le (by omega)]
     have KH:Hid (iH m.rows (ah m.rows i) L=true):=by rw[Hid,← hLo.out,List.take_of_length_le (by omega)]
     have HM:=aj M;have l7:=aj hBw;have HV:=aj hV;clear M hBw hV Dx hLo;by_cases hx0:x<0;rotate_left
     ·have Dy:Hid (T=endOf m.rows L):=by rw[Hid,endOf,HBe.out,if_neg hx0]
      have HT:=aj Dy;have zV:=aj HM.out;have HVx:=aj HV.out;have HZ:Hid (lead m.rows i (ah m.rows i) L={ ah m.rows i with aB:=true,aC:=(i:Int),aA:=T }):=by rw[Hid,HE.out,KH.out,if_pos rfl,← HT.out]
      have hTl:T.length≤1000000:=by
       have e:=(zu (R:=m.rows) (i:=i) (o:=ah m.rows i) (L:=L) hr hw ok.lt (by intro e;rw[e] at hne;simp at hne) (fun k hk=>ok.ok k (HL.out k hk))).1.ml
       rw[HZ.out] at e;have e2:T.length≤n:=e;omega
      obtain⟨q1,q2,M8⟩:=zV.out.put hil (j:=5) (x:=.bool (ah m.rows i).aB) (y:=.bool true) (r':={ ah m.rows i with aB:=true }) rfl rfl
      have SV:Hid (oQ (wr.setCell ⟨g,off+i*8+5,none⟩ (.bool true)) ta T g):=HVx.out.set _ _;have lG:Hid (Mw w (wr.setCell ⟨g,off+i*8+5,none⟩ (.bool true)) B o { m with rows:=m.rows.set i { ah m.rows i with aB:=true } } fp g off c):=M8
      clear M8;go_upto_region 18 with fail
      go_upto_region 19 with fail
      generalize wr.setCell ⟨g,off+i*8+5,none⟩ (.bool true)=V1 at *;clear q1 q2;generalize hr1:({ ah m.rows i with aB:=true }:Rw)=r1 at *
      have hs1:ah (m.rows.set i r1) i=r1:=dM hil;have qJ:i<(m.rows.set i r1).length:=by rw[List.length_set];exact hil
      obtain⟨q1,q2,M9⟩:=lG.out.put qJ (j:=6) (x:=.int .i64 r1.aC) (y:=.int .i64 (i:Int)) (r':={ r1 with aC:=(i:Int) }) (by rw[hs1];rfl) (by rw[hs1];rfl)
      rw[List.set_set] at M9;have y0:=lG.out.id'.1;simp only at y0
      rw[ok.hid] at y0;have HV9:Hid (oQ (V1.setCell ⟨g,off+i*8+6,none⟩ (.int .i64 (i:Int))) ta T g):=SV.out.set _ _;have gu:Hid (Mw w (V1.setCell ⟨g,off+i*8+6,none⟩ (.int .i64 (i:Int))) B o { m with rows:=m.rows.set i { r1 with aC:=(i:Int) } } fp g off c):=M9
      have HR1:Hid (({ ah m.rows i with aB:=true }:Rw)=r1):=hr1
      clear M9 hs1 hr1;go_upto_region 20 with fail
      generalize V1.setCell ⟨g,off+i*8+6,none⟩ (.int .i64 (i:Int))=V2 at *;clear q1 q2 y0;generalize hr2:({ r1 with aC:=(i:Int) }:Rw)=r2 at *
      have hs2:ah (m.rows.set i r2) i=r2:=dM hil;have nC:i<(m.rows.set i r2).length:=by rw[List.length_set];exact hil
      have hA:=rY (c:=tc) HV9.out.vec hTl;obtain⟨u,f,hu,hfz,how,sZ,hset⟩:=gu.out.at nC (j:=7) (cl:=bQ r2.aA) (by simp only[hs2];rfl)
      have HS:Hid (∀ (X1:World) (u':Value) (f':Fp),Below V2.heap.size V2 X1→aI.ow X1 (bQ T) u' f'→(∀ b,f' b→V2.heap.size≤b)→X1.cell? ⟨g,off+i*8+7,none⟩=some u∧X1.frozen? ⟨g,off+i*8+7,none⟩=false∧Mw w (X1.setCell ⟨g,off+i*8+7,none⟩ u') B o { m with rows:=m.rows.set i { r2 with aA:=T } } fp g off c):=fun X1 u' f' h1 h2 h3=>by
       have:=hset X1 (bQ T) u' f' { r2 with aA:=T } (by simp only[hs2];rfl) (aO.of_below h1) h2 (fun b hb=>.inr (h3 b hb))
       simp only[List.set_set] at this;exact⟨this.1,this.2.1,this.2.2.1⟩
      have HFin:Hid (({ r2 with aA:=T }:Rw)=lead m.rows i (ah m.rows i) L):=by rw[Hid,HZ.out,← hr2,← HR1.out]
      clear hset how sZ hu hfz hs2 hr2;go_wp2_with (at_builtin;refine aZ (by rfl) _ _ _ _ (by rfl) _ _ (by rfl) (by rfl) hA ⟨rfl,rfl,rfl,rfl⟩ ?_;rintro v1 w1 ⟨a1,e1,f1,rfl,q1,q2,q3⟩;obtain⟨z1,z2,M10⟩:=HS.out w1 _ f1 q3 q1 q2;have rZ:Hid (Mw w (w1.setCell ⟨g,off+i*8+7,none⟩ (.slice a1 T.length e1)) B o { m with rows:=m.rows.set i { r2 with aA:=T } } fp g off c):=M10;clear M10 q1 q2 q3 hA HS)
      go_end0;rw[← HFin.out];exact⟨rfl,rZ.out.mk' HC2.out (jD _)⟩
     ·have Dy:Hid (endOf m.rows L=meets m.rows L):=by rw[Hid,endOf,HBe.out,if_pos hx0]
      have l9:=HL.out _ (jq hne);have pK:L.getD 0 0<m.rows.length:=by rw[ok.len];exact l9
      have nP:=Dw.out wr l7.out;rcases nP.2.2 with hz|⟨lb,lo,hla,hlc⟩
      ·rw[eP] at hz;omega
      have hlk:=hlc 0 (by rw[eP];exact hne)
      rw[rX hne] at hlk;obtain⟨AJ,wJ,Og,Oh⟩:=HM.out.KC ok.fit pK;have HMt:Hid (tX m.rows L 1=(ah m.rows (L.getD 0 0)).got):=SL hne;have n1:(0:Int)<(L.length:Int):=by omega
      generalize L.getD 0 0=J at *;have J0:(0:Int)≤(J:Int):=by omega
      have J1:(J:Int)<(m.rows.length:Int):=by omega
      obtain⟨⟨⟨d0,d1,d2,d3⟩,d4,d5,d6,d7⟩,wK⟩:=wJ;have jP:=HM.out.rws;have T5:∀ {x v},wr.cell? x=some v→∀ q:Bk wr,q.w.cell? x=some v:=fun h q=>(q.h.cell (World.block_lt_of_cell? _ _ h)).trans h
      have p2:=T5 jP;have pl:=T5 hlk;have pg:=T5 d2;simp only[Nat.add_zero] at pl;have Oi:=aj Og;subst hla;clear d0 d1 d2 d3 d4 d5 d6 d7 wK jP hlk hlc Og Oh T5 nP;go_wp2_with fail
      refine eU ?_;repeat (go_big_quiet_step ((first|rfl)))
      refine wpQuiet_nil (dK fun wE aJ=>?_)
      have dJ:=aj (HM.out.step aJ);have lS:=aj (l7.out.trans (aJ.mono l7.out.size));have HV5:=aj (Oi.out.below aJ);have hgw:g<w.heap.size∨True:=.inr trivial;clear p2 pl pg aJ hgw;generalize (ah m.rows J).got=T1 at *;go_wp2_with fail
      go_loopw [6,9] (fun tr v wx=>∃ (k:Nat) (ta:Option Addr) (tc:Nat) (T:List Int),1≤k∧k≤L.length∧v=.int .i64 (k:Int)∧tr=.slice ta T.length tc∧Hid (tX m.rows L k=T)∧oQ wx ta T g∧Below w.heap.size w wx∧Mw w wx B o m fp g off c) (fun _ v _=>L.length-(intOf v).toNat)
      case atStart=>exact⟨1,AJ.ga,AJ.gc,T1,Nat.le_refl _,hne,rfl,rfl,HMt,HV5.out,lS.out,dJ.out⟩
      case round =>
       obtain⟨k,ta,tc,T,hk1,hk,rfl,rfl,hMe,hV,hBw,M⟩:=hrel;by_cases hlt:k<L.length
       ·have l9:L.getD k 0<n:=HL.out _ (jq hlt)
        have pK:L.getD k 0<m.rows.length:=by rw[ok.len];exact l9
        have nP:=Dw.out wr hBw;rcases nP.2.2 with hz|⟨lb2,lo2,hla,hlc⟩
        ·rw[eP] at hz;omega
        have hlk:=hlc k (by rw[eP];exact hlt)
        rw[rX hlt] at hlk;obtain⟨Oj,wJ,Og,Oh⟩:=M.KC ok.fit pK;have N7:Hid (tX m.rows L (k+1)=dU min T (ah m.rows (L.getD k 0)).got):=by rw[Hid,Qs (by omega) hlt,hMe.out]
        have an3:=ok.ok _ l9;generalize L.getD k 0=J2 at *;have k1:(k:Int)<(L.length:Int):=by omega
        have k0:(0:Int)≤(k:Int):=by omega
        have J20:(0:Int)≤(J2:Int):=by omega
        have J21:(J2:Int)<(m.rows.length:Int):=by omega
        have jP:=M.rws;obtain⟨⟨⟨d0,d1,d2,d3⟩,d4,d5,d6,d7⟩,wK⟩:=wJ
        cases hla
        have hbd:=(Same.drewN wr 1).below
        have hTl:T.length≤maxLen:=by
         have:T.length≤8∨T.length≤n:=by
          rw[← hMe.out];unfold tX
          cases et:L.take k with
          | nil=>exact .inl (by simp[meets])
          | cons x t =>
           refine SN (n:=n) (fun j hj=>?_)
           exact (ok.ok j (HL.out j (List.mem_of_mem_take (by rw[et];exact hj)))).gl
         unfold maxLen;omega
        have hM:=Je ta Oj.ga T.length tc (ah m.rows J2).got.length Oj.gc T (ah m.rows J2).got wr.drew (hV.vec.below hbd (Nat.le_refl _)) (wK.got.below hbd (Nat.le_refl _)) hTl wK.mg;have lT:=aj M;have Dz:=aj hBw
        have KS:∀ X,Below wr.heap.size wr X→(X.cell? ⟨B,o+2,none⟩=some (.slice (some ⟨g,off,none⟩) m.rows.length c)∧X.cell? ⟨lb,lo+k,none⟩=some (.int .i64 (J2:Int))∧X.cell? ⟨g,off+J2*8+2,none⟩=some (.slice Oj.ga (ah m.rows J2).got.length Oj.gc)):=fun X hX=>by
         have t:∀ {x v},wr.cell? x=some v→X.cell? x=some v:=fun h=>(hX.cell (World.block_lt_of_cell? _ _ h)).trans h
         exact⟨t jP,t hlk,t d2⟩
        have aC5:=World.block_lt_of_cell? _ _ d2;generalize (ah m.rows J2).got=T2 at *;clear d0 d1 d2 d3 d4 d5 d6 d7 wK jP hlk hlc Og Oh nP M hBw hV hMe;go_wp2_with fail
        refine jE (S:=fun X:World=>X.cell? ⟨B,o+2,none⟩=some (.slice (some ⟨g,off,none⟩) m.rows.length c)∧X.cell? ⟨lb,lo+k,none⟩=some (.int .i64 (J2:Int))∧X.cell? ⟨g,off+J2*8+2,none⟩=some (.slice Oj.ga T2.length Oj.gc)) 14 bH ((KS _ hbd)) fun hHeld=>?_
        refine kJ (i:=0) rfl hHeld ?_;refine kJ (i:=1) rfl hHeld ?_;refine kJ (i:=2) rfl hHeld ?_;refine kJ (i:=3) rfl hHeld ?_;refine kJ (i:=4) rfl hHeld ?_;refine kJ (i:=5) rfl hHeld ?_;refine kJ (i:=6) rfl hHeld ?_;refine kJ (i:=7) rfl hHeld ?_;refine kJ (i:=8) rfl hHeld ?_;refine kJ (i:=9) rfl hHeld ?_;refine kJ (i:=10) rfl hHeld ?_;refine kJ (i:=11) rfl hHeld ?_;refine dI (i:=12) rfl fun K hK=>?_
        go_simp
        go_at_call 152
        refine hM.mono ?_;rintro e w1 ⟨g1,cc1,rfl,hg1,Hz,hb1⟩;have hb2:Below wr.heap.size wr w1:=hbd.trans (hb1.mono hbd.size);have lG:Hid (Mw w w1 B o m fp g off c):=lT.out.step hb2;have HB8:Hid (Below w.heap.size w w1):=Dz.out.trans (hb2.mono Dz.out.size);have hg1':wr.heap.size≤g1:=hg1;have SV:Hid (oQ w1 (some ⟨g1,0,none⟩) (dU min T T2) g):=⟨Hz.vec (PX min (fun x y=>by omega) T T2),.inr (fun x hx=>by cases hx;show g1≠g;omega)⟩
        refine hK.out _ _ (KS _ hb2) (fun aK=>?_)
        clear hK hHeld;have hHeld:=aK;try simp only[dw]
        refine aS (i:=13) rfl ?_;refine pX (by kernel_rfl) ?_
        clear hM KS hbd hb2 hb1 Hz hg1 hHeld;generalize dU min T T2=T3 at *;go_wp2;go_roundw
        case rel=>exact⟨k+1,_,_,T3,by omega,by omega,by go_num,rfl,N7,SV.out,HB8.out,lG.out⟩
        case measure=>simp[intOf];omega
       ·have k1:¬ ((k:Int)<(L.length:Int)):=by omega
        have HT:Hid (T=endOf m.rows L):=by rw[Hid,Dy.out,← SQ,← hMe.out,show k=L.length by omega]
        have lT:=aj M;have Dz:=aj hBw;have HV7:=aj hV;clear M hBw hV hMe;have zV:=aj lT.out;have HVx:=aj HV7.out;have HZ:Hid (lead m.rows i (ah m.rows i) L={ ah m.rows i with aB:=true,aC:=(i:Int),aA:=T }):=by rw[Hid,HE.out,KH.out,if_pos rfl,← HT.out]
        have hTl:T.length≤1000000:=by
         have e:=(zu (R:=m.rows) (i:=i) (o:=ah m.rows i) (L:=L) hr hw ok.lt (by intro e;rw[e] at hne;simp at hne) (fun k hk=>ok.ok k (HL.out k hk))).1.ml
         rw[HZ.out] at e;have e2:T.length≤n:=e;omega
        obtain⟨q1,q2,M8⟩:=zV.out.put hil (j:=5) (x:=.bool (ah m.rows i).aB) (y:=.bool true) (r':={ ah m.rows i with aB:=true }) rfl rfl
        have SV:Hid (oQ (wr.setCell ⟨g,off+i*8+5,none⟩ (.bool true)) ta T g):=HVx.out.set _ _;have lG:Hid (Mw w (wr.setCell ⟨g,off+i*8+5,none⟩ (.bool true)) B o { m with rows:=m.rows.set i { ah m.rows i with aB:=true } } fp g off c):=M8
        clear M8;go_upto_region 18 with fail
        go_upto_region 19 with fail
        generalize wr.setCell ⟨g,off+i*8+5,none⟩ (.bool true)=V1 at *;clear q1 q2;generalize hr1:({ ah m.rows i with aB:=true }:Rw)=r1 at *
        have hs1:ah (m.rows.set i r1) i=r1:=dM hil;have qJ:i<(m.rows.set i r1).length:=by rw[List.length_set];exact hil
        obtain⟨q1,q2,M9⟩:=lG.out.put qJ (j:=6) (x:=.int .i64 r1.aC) (y:=.int .i64 (i:Int)) (r':={ r1 with aC:=(i:Int) }) (by rw[hs1];rfl) (by rw[hs1];rfl)
        rw[List.set_set] at M9;have y0:=lG.out.id'.1;simp only at y0
        rw[ok.hid] at y0;have HV9:Hid (oQ (V1.setCell ⟨g,off+i*8+6,none⟩ (.int .i64 (i:Int))) ta T g):=SV.out.set _ _;have gu:Hid (Mw w (V1.setCell ⟨g,off+i*8+6,none⟩ (.int .i64 (i:Int))) B o { m with rows:=m.rows.set i { r1 with aC:=(i:Int) } } fp g off c):=M9
        have HR1:Hid (({ ah m.rows i with aB:=true }:Rw)=r1):=hr1
        clear M9 hs1 hr1;go_upto_region 20 with fail
        generalize V1.setCell ⟨g,off+i*8+6,none⟩ (.int .i64 (i:Int))=V2 at *;clear q1 q2 y0;generalize hr2:({ r1 with aC:=(i:Int) }:Rw)=r2 at *
        have hs2:ah (m.rows.set i r2) i=r2:=dM hil;have nC:i<(m.rows.set i r2).length:=by rw[List.length_set];exact hil
        have hA:=rY (c:=tc) HV9.out.vec hTl;obtain⟨u,f,hu,hfz,how,sZ,hset⟩:=gu.out.at nC (j:=7) (cl:=bQ r2.aA) (by simp only[hs2];rfl)
        have HS:Hid (∀ (X1:World) (u':Value) (f':Fp),Below V2.heap.size V2 X1→aI.ow X1 (bQ T) u' f'→(∀ b,f' b→V2.heap.size≤b)→X1.cell? ⟨g,off+i*8+7,none⟩=some u∧X1.frozen? ⟨g,off+i*8+7,none⟩=false∧Mw w (X1.setCell ⟨g,off+i*8+7,none⟩ u') B o { m with rows:=m.rows.set i { r2 with aA:=T } } fp g off c):=fun X1 u' f' h1 h2 h3=>by
         have:=hset X1 (bQ T) u' f' { r2 with aA:=T } (by simp only[hs2];rfl) (aO.of_below h1) h2 (fun b hb=>.inr (h3 b hb))
         simp only[List.set_set] at this;exact⟨this.1,this.2.1,this.2.2.1⟩
        have HFin:Hid (({ r2 with aA:=T }:Rw)=lead m.rows i (ah m.rows i) L):=by rw[Hid,HZ.out,← hr2,← HR1.out]
        clear hset how sZ hu hfz hs2 hr2;go_wp2_with (at_builtin;refine aZ (by rfl) _ _ _ _ (by rfl) _ _ (by rfl) (by rfl) hA ⟨rfl,rfl,rfl,rfl⟩ ?_;rintro v1 w1 ⟨a1,e1,f1,rfl,q1,q2,q3⟩;obtain⟨z1,z2,M10⟩:=HS.out w1 _ f1 q3 q1 q2;have rZ:Hid (Mw w (w1.setCell ⟨g,off+i*8+7,none⟩ (.slice a1 T.length e1)) B o { m with rows:=m.rows.set i { r2 with aA:=T } } fp g off c):=M10;clear M10 q1 q2 q3 hA HS)
        go_end0;rw[← HFin.out];exact⟨rfl,rZ.out.mk' HC2.out (jD _)⟩
theorem wL {cs:List Int} (h:nV cs=true):okB cs=true∧∀ i,i<cs.length→0≤el cs i∧el cs i≤100000:=by
 simp only[nV,Bool.and_eq_true,List.all_eq_true,decide_eq_true_eq] at h;exact⟨h.1,fun i hi=>⟨(qZ h.1 hi).1,h.2 _ (iF hi)⟩⟩
theorem aa2 {cs:List Int} (h:okB cs=true) (hc:∀ i,i<cs.length→el cs i≤100000):nV cs=true:=by
 simp only[nV,Bool.and_eq_true,List.all_eq_true,decide_eq_true_eq]
 refine⟨h,fun c hm=>?_⟩
 obtain⟨i,hi,rfl⟩:=List.getElem_of_mem hm;have:=hc i hi
 rwa [o8 hi] at this
theorem Ol (cs:List Int) (k j:Nat):(iC cs k j).length≤j:=by
 unfold iC;rw[List.length_map];exact Nat.le_trans (List.length_filter_le _ _) (by simp)
theorem CY (cs:List Int) (M:Nat):(dh cs M).length≤M*cs.length:=by
 induction M with
 | zero=>simp[dh]
 | succ M ih =>
  rw[mM,List.length_append,Nat.succ_mul];have:=Ol cs M cs.length;omega
def nR (cs:List Int) (k:Nat):Int:=hiL 0 (cs.take k)
theorem Ei {cs:List Int} {k:Nat} (h:k<cs.length):nR cs (k+1)=max (nR cs k) (el cs k):=by
 unfold nR;rw[List.take_succ_eq_append_getElem h,I9,o8 h]
theorem SX {cs:List Int} (hc:∀ i,i<cs.length→0≤el cs i∧el cs i≤100000):∀ k,k≤cs.length→0≤nR cs k∧nR cs k≤100000∧∀ i,i<k→el cs i≤nR cs k:=by
 intro k
 induction k with
 | zero=>intro _;exact⟨by simp[nR,hiL],by simp[nR,hiL],fun i hi=>by omega⟩
 | succ k ih =>
  intro hk;obtain⟨h1,h2,h3⟩:=ih (by omega)
  have h4:=hc k (by omega)
  rw[Ei (by omega)]
  refine⟨by omega,by omega,fun i hi=>?_⟩
  by_cases e:i=k
  ·subst e;omega
  ·have:=h3 i (by omega);omega
def qU (cs Z:List Int):Prop:=(nV cs=true∧lH cs≤200∧CJ cs Z)∨((nV cs=false∨200<lH cs)∧Z=[])
theorem qU.unique {cs Z Y:List Int} (h:qU cs Z) (k:qU cs Y):Z=Y:=by
 rcases h with ⟨h1,h2,h3⟩|⟨h1,h2⟩<;>rcases k with ⟨k1,k2,k3⟩|⟨k1,k2⟩
 ·exact h3.unique k3
 ·rcases k1 with k1|k1
  ·rw[h1] at k1;cases k1
  ·omega
 ·rcases h1 with h1|h1
  ·rw[k1] at h1;cases h1
  ·omega
 ·rw[h2,k2]
theorem H6 {cs:List Int} {M:Nat} (hl:cs.length≤8) (hM:M≤100000):Fits (dh cs M):=fun q hq=>by
 obtain⟨k,i,hk,hi,_,rfl⟩:=sS.1 hq;have h1:(cs.length:Int)*(k:Int)≤8*100000:=Int.mul_le_mul (by omega) (by omega) (by omega) (by omega)
 have h0:0≤(cs.length:Int)*(k:Int):=Int.mul_nonneg (by omega) (by omega)
 omega
theorem Np (b off cap:Nat) (cs:List Int) (len:Nat) (w:World) (hl:cs.length=len) (hlen:len≤8) (hc:∀ i,i<len→w.cell? ⟨b,off+i,none⟩=some (.int .i64 (el cs i))) (hall:∀ i,i<cs.length→0≤el cs i∧el cs i≤100000) :
  Calls Tryz.prog 154 #[.slice (some ⟨b,off,none⟩) len cap] w fun e w'=>DX w w' e (dh cs (nR cs len).toNat):=by
 obtain⟨i0,hi0,hz0,hz1,hz2⟩:=gX Tryz.info2n;have HL:=aj hl;have HC:Hid (∀ X,Below w.heap.size w X→∀ i,i<len→X.cell? ⟨b,off+i,none⟩=some (.int .i64 (el cs i))):=fun X hX i hi=>(hX.cell (World.block_lt_of_cell? _ _ (hc i hi))).trans (hc i hi)
 have H7:Hid (∀ k,k≤len→0≤nR cs k∧nR cs k≤100000):=fun k hk=>by have:=SX hall k (by omega);exact⟨this.1,this.2.1⟩
 have B0:Hid (Below w.heap.size w (w.alloc (.cells #[] 2))):=(Below.refl _ _).alloc (Nat.le_refl _) _;have HMS:Hid (∀ k,k<len→nR cs (k+1)=max (nR cs k) (el cs k)):=fun k hk=>Ei (by omega)
 clear hc hall hl;go_enter Tryz.func154,Tryz.ntmps154
 go_wp2
 go_loop [5,6] (fun m i=>∃ k:Nat,k≤len∧i=.int .i64 k∧m=.int .i64 (nR cs k)) (fun _ i=>len-(intOf i).toNat)
 case atStart=>exact⟨0,Nat.zero_le _,rfl,rfl⟩
 case round =>
  obtain⟨k,hk,rfl,rfl⟩:=hrel;by_cases hlt:k<len
  ·have ck:=HC.out _ B0.out k hlt
   have HS':=aj (HMS.out k hlt);have k1:(k:Int)<(len:Int):=by omega
   have k0:(0:Int)≤(k:Int):=by omega
   generalize nR cs k=R at *;generalize el cs k=x at *;go_wp2_with (go_at_call 30;refine (Aw _ _ _).mono ?_;rintro e w' ⟨rfl,rfl⟩)
   go_round
   case rel=>exact⟨k+1,by omega,by go_num,by rw[HS'.out]⟩
   case measure=>simp[intOf];omega
  ·have hkl:k=len:=by omega
   subst hkl;obtain⟨hm0,hm1⟩:=H7.out k (Nat.le_refl _);obtain⟨M,hM⟩:∃ M:Nat,nR cs k=(M:Int):=⟨(nR cs k).toNat,by omega⟩
   have HM:Hid ((nR cs k).toNat=M):=by rw[Hid,hM];simp
   have hM1:M≤100000:=by omega
   rw[hM];clear hM hm0 hm1 hlt;go_wp2
   go_loopw [3,7] (fun v i wr=>∃ (p g og cg:Nat),p≤M∧i=.int .i64 p∧v=.slice (some ⟨g,og,none⟩) (dh cs p).length cg∧w.heap.size≤g∧OI wr g og (dh cs p).length cg (dh cs p)∧Below w.heap.size w wr) (fun _ i _=>M-(intOf i).toNat)
   case atStart=>exact⟨0,w.heap.size,0,0,Nat.zero_le _,rfl,rfl,Nat.le_refl _,jX w 2,B0.out⟩
   case round =>
    obtain⟨p,g,og,cg,hp,rfl,rfl,hg,hO,hB⟩:=hrel;have KO:=aj hO;have KB:=aj hB;have KG:=aj hg;clear hO hB hg;by_cases hpl:p<M
    ·have p1:(p:Int)<(M:Int):=by omega
     go_wp2
     go_loopw [3,8] (fun v i wx=>∃ (j g og cg:Nat),j≤k∧i=.int .i64 j∧v=.slice (some ⟨g,og,none⟩) (dh cs p++iC cs p j).length cg∧w.heap.size≤g∧OI wx g og (dh cs p++iC cs p j).length cg (dh cs p++iC cs p j)∧Below w.heap.size w wx) (fun _ i _=>k-(intOf i).toNat)
     case atStart=>exact⟨0,g,og,cg,Nat.zero_le _,rfl,by simp[iC],KG.out,by simpa[iC] using KO.out,KB.out⟩
     case round =>
      obtain⟨j,g,og,cg,hj,rfl,rfl,hg,hO,hB⟩:=hrel;have LO:=aj hO;have LB:=aj hB;have LG:=aj hg
      have LLE:(dh cs p++iC cs p j).length≤1000000:=by
       rw[List.length_append];have h1:=CY cs p;have h2:=Ol cs p j;rw[HL.out] at h1;have h3:p*k≤100000*8:=Nat.mul_le_mul (by omega) hlen
       omega
      clear hO hg KO KB KG;by_cases hjl:j<k
      ·have cj:=HC.out _ hB j hjl
       have j1:(j:Int)<(k:Int):=by omega
       have j0:(0:Int)≤(j:Int):=by omega
       have HR:Hid (dh cs p++iC cs p (j+1)=(dh cs p++iC cs p j)++(if (p:Int)<el cs j then [(k:Int)*(p:Int)+(j:Int)] else [])):=by rw[Hid,uz,List.append_assoc,HL.out]
       have m0:0≤(k:Int)*(p:Int):=Int.mul_nonneg (by omega) (by omega)
       have m1:(k:Int)*(p:Int)≤8*100000:=Int.mul_le_mul (by omega) (by omega) (by omega) (by omega)
       clear hB;generalize hW:dh cs p++iC cs p (j+1)=W1 at *;generalize dh cs p++iC cs p j=W0 at *;generalize el cs j=x at *;by_cases hx:(p:Int)<x
       ·rw[if_pos hx] at HR
        generalize hmm:(k:Int)*(p:Int)=m at *;have hO2:fA (wr.alloc (.cells #[.int .i64 (m+(j:Int))] 2)) 1 g og W0.length cg (W0.map (Value.int .i64)):=fA.below LO.out ((Below.refl _ _).alloc (Nat.le_refl _) _) LO.out.blk;go_wp2_with (at_builtin;refine dG _ rfl _ _ _ rfl 2 i0 _ 1 8 Tryz.underlying41 hi0 hz0 hz1 hz2 rfl (by omega) g og W0.length cg _ rfl hO2 ⟨wr.heap.size,0,none⟩ 1 1 [.int .i64 (m+(j:Int))] rfl rfl (World.news_of_block (cs:=#[.int .i64 (m+(j:Int))]) (t:=2) (fr:=(0,0)) (heap_alloc_new _ _)) (by simp[Value.oneCell']) (by unfold maxLen;omega) (by omega) ?_;intro g6 o6 c6 w6 yP vk tu)
        have NG:Hid (w.heap.size≤g6):=by
         rcases tu with h|h
         ·rw[h];exact LG.out
         ·rw[h];exact Nat.le_trans LB.out.size (by simp)
        have NL:Hid (W1.length=W0.length+1):=by rw[Hid,HR.out];simp
        have NO:Hid (OI w6 g6 o6 W1.length c6 W1):=by
         rw[Hid,NL.out,HR.out,OI,List.map_append];exact yP
        have NB:Hid (Below w.heap.size w w6):=kE (LB.out.alloc LB.out.size _) vk LG.out (Nat.le_trans LB.out.size (by simp))
        clear yP vk tu hO2;go_wp2;go_roundw
        case rel=>exact⟨j+1,g6,o6,c6,by omega,by go_num,by rw[hW,NL.out],NG.out,by rw[hW];exact NO.out,NB.out⟩
        case measure=>simp[intOf];omega
       ·rw[if_neg hx,List.append_nil] at HR
        have hd:decide ((p:Int)<x)=false:=by simpa using hx
        clear hx;go_wp2;go_roundw
        case rel=>exact⟨j+1,g,og,cg,by omega,by go_num,by rw[hW,HR.out],LG.out,by rw[hW,HR.out];exact LO.out,LB.out⟩
        case measure=>simp[intOf];omega
      ·have hjk:j=k:=by omega
       subst hjk;have HE:Hid (dh cs (p+1)=dh cs p++iC cs p j):=by rw[Hid,mM,HL.out]
       clear hB;go_wp2;go_roundw
       case rel=>exact⟨p+1,g,og,cg,by omega,by go_num,by rw[HE.out],LG.out,by rw[HE.out];exact LO.out,LB.out⟩
       case measure=>simp[intOf];omega
    ·have hpM:p=M:=by omega
     subst hpM;go_wp2;go_ret
     rw[HM.out];exact⟨g,og,cg,rfl,KG.out,KO.out,KB.out⟩
end Go.Proofs.YtafimeakbdmkjaaGreat