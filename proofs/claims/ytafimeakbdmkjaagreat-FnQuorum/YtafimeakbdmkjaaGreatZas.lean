/-
  Texts in one.
-/
import Derived.Test.YtafimeakbdmkjaaGreatZaa
import Derived.Test.YtafimeakbdmkjaaGreatZar
import Derived.Test.YtafimeakbdmkjaaGreatZah
import Derived.Test.YtafimeakbdmkjaaGreatZam
import Derived.Deep.LoopGhost
import Derived.Deep.RegionLaw
import Derived.Lib.SlicesDelete
namespace Go.Proofs.YtafimeakbdmkjaaGreat
set_option linter.unusedVariables false
set_option linter.unusedSimpArgs false
open Go.RowKit Go.Sort
set_option maxRecDepth 100000
set_option maxHeartbeats 12800000
section
attribute [local irreducible] sv
theorem Uf {m:Mb} {i n:Nat} (ok:dO m i n) (fr:Int) (r:Rw) (hd:m.done=false):(aX m fr r).2=(jM i n (ah m.rows i).ak fr&&(bI r m.n&&decide ((ah m.rows fr.toNat).ver<r.ver)))∧((aX m fr r).2=true→(aX m fr r).1={ m with rows:=m.rows.set fr.toNat r }):=by
 have e:m.i=i:=by unfold Mb.i;rw[ok.hid];rfl
 unfold aX jM;rw[Mb.own,e,hd,ok.hid,ok.hn]
 split
 ·rename_i h
  refine⟨?_,fun h=>by cases h⟩
  rcases h with h|h|h|h|h|h
  ·rw[h];simp
  ·rw[h];simp
  ·rw[decide_eq_false (p:=fr∉_) (by simpa using h)];simp
  ·cases h
  ·rw[h];simp
  ·rw[decide_eq_false (p:=_<r.ver) (by omega)];simp
 ·rename_i h
  refine⟨?_,fun _=>rfl⟩
  simp only[not_or,Bool.not_eq_false,Int.not_le] at h;obtain⟨h1,h2,h3,_,h5,h6⟩:=h;rw[h1,h5,decide_eq_true h2,decide_eq_true h3,decide_eq_true h6]
  rfl
theorem WY (B:Nat) (m:Mb) (i n:Nat) (fr:Int) (Ar:Ra) (r:Rw) (fp:Fp) (w:World) (h:dN w B 0 (iJ m) fp) (ok:dO m i n) (hd:m.done=false) (kV:iM w Ar r) :
  Calls Tryz.prog 150 #[.pointer (some ⟨B,0,none⟩),.int .i64 fr,bV Ar r] w fun e w'=>((aX m fr r).2=true∧e=.returned (.tuple #[])∧bC w w' B 0 (iJ (aX m fr r).1) fp)∨((aX m fr r).2=false∧Gu e∧∃ m1,bC w w' B 0 (iJ m1) fp):=by
 have bH:=dH;have hil:i<m.rows.length:=by rw[ok.len];exact ok.lt
 have fG:=ok.n5;obtain⟨g,off,c,M0⟩:=Iw.start h (by omega)
 have hba:=aF w (.cells #[.int .i64 r.ver,.slice Ar.ta r.txt.length Ar.tc,.slice Ar.ga r.got.length Ar.gc,.slice Ar.sa r.ak.length Ar.sc,.bool r.wed,.bool r.aB,.int .i64 r.aC,.slice Ar.ma r.aA.length Ar.mc] 44);have hxr:=Bx.new w 44 #[.int .i64 r.ver,.slice Ar.ta r.txt.length Ar.tc,.slice Ar.ga r.got.length Ar.gc,.slice Ar.sa r.ak.length Ar.sc,.bool r.wed,.bool r.aB,.int .i64 r.aC,.slice Ar.ma r.aA.length Ar.mc];have M1:=M0.step hba;have WZ:=kV.below hba;obtain⟨HP1,HP2⟩:=Uf ok fr r hd;have HH1:=aj HP1;have HH2:=aj HP2;clear HP1 HP2 h M0;unfold bV bD;generalize xG:w.alloc (.cells #[.int .i64 r.ver,.slice Ar.ta r.txt.length Ar.tc,.slice Ar.ga r.got.length Ar.gc,.slice Ar.sa r.ak.length Ar.sc,.bool r.wed,.bool r.aB,.int .i64 r.aC,.slice Ar.ma r.aA.length Ar.mc] 44)=W1 at *;have HW:=aj hxr.lt;have bF:=aj M1;have mG:=aj hxr;have TV:=aj WZ;obtain⟨c0,c3⟩:=M1.id';have c1:=M1.rws;rw[ok.hid] at c0;obtain⟨Ak,⟨⟨d0,d1,d2,d3⟩,d4,d5,d6,d7⟩,hrs⟩:=M1.row ok.fit hil;have T:∀ {x v},W1.cell? x=some v→∀ q:Bk W1,q.w.cell? x=some v:=fun h q=>(q.h.cell (World.block_lt_of_cell? _ _ h)).trans h
 have hO:∀ q:Bk W1,Calls Tryz.prog 177 #[.pointer (some ⟨B,0,none⟩),.int .i64 fr] q.w fun e w'=>e=.returned (.bool (jM i n (ah m.rows i).ak fr))∧Below q.w.heap.size q.w w':=fun q=>Gq B i n g off c Ak.sa Ak.sc (ah m.rows i).ak fr q.w (T c0 q) (by rw[← ok.len];exact T c1 q) ok.lt fG.2 (T d3 q) (hrs.ak.below q.h (Nat.le_refl _)) hrs.ms
 have hC:∀ q:Bk W1,Calls Tryz.prog 166 #[.pointer (some ⟨B,0,none⟩)] q.w fun e w'=>e=.returned (.int .i64 m.n)∧Below q.w.heap.size q.w w':=fun q=>(vT B (some ⟨g,off,none⟩) m.rows.length c q.w (T c1 q)).mono (fun e w' h=>⟨by rw[h.1,ok.hn,ok.len],by rw[h.2];exact Below.refl _ _⟩)
 have hR:∀ q:Bk W1,Calls Tryz.prog 51 #[.agg #[.int .i64 r.ver,.slice Ar.ta r.txt.length Ar.tc,.slice Ar.ga r.got.length Ar.gc,.slice Ar.sa r.ak.length Ar.sc,.bool r.wed,.bool r.aB,.int .i64 r.aC,.slice Ar.ma r.aA.length Ar.mc],.int .i64 m.n] q.w fun e w'=>e=.returned (.bool (bI r m.n))∧Below q.w.heap.size q.w w':=fun q=>zI Ar r m.n q.w (WZ.below q.h)
 have y1:=T c1;obtain⟨⟨x0,x1,x2,x3⟩,x4,x5,x6,x7⟩:=Bx.r8 hxr;have u0:=T x0;have u1:=T x1;have u2:=T x2;have u3:=T x3;have u4:=T x4;have u5:=T x5;have u6:=T x6;have u7:=T x7;have Ir:Hid (∀ wE,Below W1.heap.size W1 wE→∃ m1,bC w wE B 0 (iJ m1) fp):=fun wE hb=>⟨m,(bF.out.step hb).bU⟩
 have Ug:Hid (jM i n (ah m.rows i).ak fr=true→∃ F:Nat,fr=(F:Int)∧F<m.rows.length):=fun h=>by
  unfold jM at h;simp only[Bool.and_eq_true] at h;have:=dP.1 h.2.1;exact⟨fr.toNat,by omega,by rw[ok.len];omega⟩
 have HT:Hid (∀ {x v},W1.cell? x=some v→∀ q:Bk W1,q.w.cell? x=some v):=@T;clear kV hba hxr M1 WZ x0 x1 x2 x3 x4 x5 x6 x7 c0 c1 c3 d0 d1 d2 d3 d4 d5 d6 d7 hrs T;have hw0:=xG;clear xG
 cases e1:jM i n (ah m.rows i).ak fr with
 | false =>
  have HZ:Hid ((aX m fr r).2=false):=by rw[Hid,HH1.out,e1];rfl
  rw[e1] at hO;clear e1;go_enter Tryz.func150,Tryz.ntmps150
  go_wp2_with fail
  clear hw0;refine bK (C:=fun w'=>∃ p:Bk W1,w'=p.w) 25 bH (by kernel_rfl) ⟨⟨W1.drewN 1,bg (Below.refl _ _)⟩,rfl⟩ ?_
  simp only[List.take_succ_cons,List.take_zero]
  repeat (go_big_quiet_step ((first|(go_at_call 177;exact aQ _ (hO _))|rfl)))
  refine wpQuiet_nil (dK fun wE aJ=>?_)
  simp only[List.drop_succ_cons,List.drop_zero]
  have HG:=Ir.out wE aJ;have HG2:=aj HG;clear hO hC hR y1 u0 u1 u2 u3 u4 u5 u6 u7 aJ HG;go_wp2_with (go_at_call 86;refine (kT _).mono ?_;rintro e w' ⟨⟨T,v,rfl⟩,hw'⟩;rw[hw'];clear hw')
  exact⟨rfl,.inr ⟨HZ.out,⟨_,_,rfl⟩,HG2.out⟩⟩
 | true =>
 obtain⟨F,rfl,pJ⟩:=Ug.out e1;rw[e1] at hO
 cases e2:bI r m.n with
 | false =>
  have HZ:Hid ((aX m (F:Int) r).2=false):=by rw[Hid,HH1.out,e1,e2];rfl
  rw[e2] at hR;clear e1 e2;go_enter Tryz.func150,Tryz.ntmps150
  go_wp2_with fail
  clear hw0;refine bK (C:=fun w'=>∃ p:Bk W1,w'=p.w) 25 bH (by kernel_rfl) ⟨⟨W1.drewN 1,bg (Below.refl _ _)⟩,rfl⟩ ?_
  simp only[List.take_succ_cons,List.take_zero]
  repeat (go_big_quiet_step ((first|(go_at_call 177;exact aQ _ (hO _))|(go_at_call 166;exact aQ _ (hC _))|(go_at_call 51;exact aQ _ (hR _))|rfl)))
  refine wpQuiet_nil (dK fun wE aJ=>?_)
  simp only[List.drop_succ_cons,List.drop_zero]
  have HG:=Ir.out wE aJ;have HG2:=aj HG;clear hO hC hR y1 u0 u1 u2 u3 u4 u5 u6 u7 aJ HG;go_wp2_with (go_at_call 86;refine (kT _).mono ?_;rintro e w' ⟨⟨T,v,rfl⟩,hw'⟩;rw[hw'];clear hw')
  exact⟨rfl,.inr ⟨HZ.out,⟨_,_,rfl⟩,HG2.out⟩⟩
 | true =>
 rw[e2] at hR;obtain⟨Af,⟨⟨d0,d1,d2,d3⟩,d4,d5,d6,d7⟩,_⟩:=bF.out.row ok.fit pJ;have Dw:Hid ((aX m (F:Int) r).2=decide ((ah m.rows F).ver<r.ver)):=by rw[Hid,HH1.out,e1,e2];simp
 have v0:=HT.out d0;have v1:=HT.out d1;have v2:=HT.out d2;have v3:=HT.out d3;have v4:=HT.out d4;have v5:=HT.out d5;have v6:=HT.out d6;have v7:=HT.out d7;have hL:∀ q:Bk W1,Calls Tryz.prog 178 #[.agg #[.int .i64 r.ver,.slice Ar.ta r.txt.length Ar.tc,.slice Ar.ga r.got.length Ar.gc,.slice Ar.sa r.ak.length Ar.sc,.bool r.wed,.bool r.aB,.int .i64 r.aC,.slice Ar.ma r.aA.length Ar.mc],bV Af (ah m.rows F)] q.w fun e w'=>e=.returned (.bool (decide ((ah m.rows F).ver<r.ver)))∧Below q.w.heap.size q.w w':=fun q=>WL Ar Af r (ah m.rows F) q.w
 unfold bV bD at hL;have F0:(0:Int)≤(F:Int):=by omega
 have F1:(F:Int)<(m.rows.length:Int):=by omega
 have hokr:dL r n:=kG.1 (by rw[← ok.hn];exact e2)
 clear e1 e2 d0 d1 d2 d3 d4 d5 d6 d7
 cases e3:decide ((ah m.rows F).ver<r.ver) with
 | false =>
  have HZ:Hid ((aX m (F:Int) r).2=false):=by rw[Hid,Dw.out,e3]
  rw[e3] at hL;clear e3;go_enter Tryz.func150,Tryz.ntmps150
  go_wp2_with fail
  clear hw0;refine bK (C:=fun w'=>∃ p:Bk W1,w'=p.w) 25 bH (by kernel_rfl) ⟨⟨W1.drewN 1,bg (Below.refl _ _)⟩,rfl⟩ ?_
  simp only[List.take_succ_cons,List.take_zero]
  repeat (go_big_quiet_step ((first|(go_at_call 177;exact aQ _ (hO _))|(go_at_call 166;exact aQ _ (hC _))|(go_at_call 51;exact aQ _ (hR _))|(go_at_call 178;exact aQ _ (hL _))|rfl)))
  refine wpQuiet_nil (dK fun wE aJ=>?_)
  simp only[List.drop_succ_cons,List.drop_zero]
  have HG:=Ir.out wE aJ;have HG2:=aj HG;clear hO hC hR hL y1 u0 u1 u2 u3 u4 u5 u6 u7 v0 v1 v2 v3 v4 v5 v6 v7 aJ HG;go_wp2_with (go_at_call 86;refine (kT _).mono ?_;rintro e w' ⟨⟨T,v,rfl⟩,hw'⟩;rw[hw'];clear hw')
  exact⟨rfl,.inr ⟨HZ.out,⟨_,_,rfl⟩,HG2.out⟩⟩
 | true =>
 have HZ:Hid ((aX m (F:Int) r).2=true):=by rw[Hid,Dw.out,e3]
 rw[e3] at hL;clear e3;go_enter Tryz.func150,Tryz.ntmps150
 go_wp2_with fail
 clear hw0;refine bK (C:=fun w'=>∃ p:Bk W1,w'=p.w) 25 bH (by kernel_rfl) ⟨⟨W1.drewN 1,bg (Below.refl _ _)⟩,rfl⟩ ?_
 simp only[List.take_succ_cons,List.take_zero]
 repeat (go_big_quiet_step ((first|(go_at_call 177;exact aQ _ (hO _))|(go_at_call 166;exact aQ _ (hC _))|(go_at_call 51;exact aQ _ (hR _))|(go_at_call 178;exact aQ _ (hL _))|rfl)))
 refine wpQuiet_nil (dK fun wE aJ=>?_)
 simp only[List.drop_succ_cons,List.drop_zero]
 have M2:=bF.out.step aJ;have eF:=aj M2;have aq4:=TV.out.below aJ;have aq5:=mG.out.below aJ;clear hO hC hR hL y1 u0 u1 u2 u3 u4 u5 u6 u7 v0 v1 v2 v3 v4 v5 v6 v7
 have KS:∀ X,Below wE.heap.size wE X→X.cell? ⟨B,1,none⟩=some (.slice (some ⟨g,off,none⟩) m.rows.length c)∧X.cell? ⟨w.heap.size,0,none⟩=some (.int .i64 r.ver)∧X.cell? ⟨w.heap.size,1,none⟩=some (.slice Ar.ta r.txt.length Ar.tc)∧X.cell? ⟨w.heap.size,2,none⟩=some (.slice Ar.ga r.got.length Ar.gc)∧X.cell? ⟨w.heap.size,3,none⟩=some (.slice Ar.sa r.ak.length Ar.sc)∧X.cell? ⟨w.heap.size,4,none⟩=some (.bool r.wed)∧X.cell? ⟨w.heap.size,5,none⟩=some (.bool r.aB)∧X.cell? ⟨w.heap.size,6,none⟩=some (.int .i64 r.aC)∧X.cell? ⟨w.heap.size,7,none⟩=some (.slice Ar.ma r.aA.length Ar.mc):=fun X hX=>by
  obtain⟨⟨x0,x1,x2,x3⟩,x4,x5,x6,x7⟩:=Bx.r8 (aq5.below hX);exact⟨(hX.cell (World.block_lt_of_cell? _ _ M2.rws)).trans M2.rws,x0,x1,x2,x3,x4,x5,x6,x7⟩
 have hbd:=(Same.drewN wE 1).below;have hAn:=yX Ar r wE.drew (aq4.below hbd) (by rw[hokr.gl];omega) (by have:=hokr.c8.2;omega)
 unfold bV bD at hAn;clear aq4 aq5 aJ M2;go_upto_region 2 with (go_at_call 86;refine (qx _).mono ?_;rintro e w' ⟨rfl,hw'⟩;rw[hw'];clear hw')
 refine jE (S:=fun X:World=>X.cell? ⟨B,1,none⟩=some (.slice (some ⟨g,off,none⟩) m.rows.length c)∧X.cell? ⟨w.heap.size,0,none⟩=some (.int .i64 r.ver)∧X.cell? ⟨w.heap.size,1,none⟩=some (.slice Ar.ta r.txt.length Ar.tc)∧X.cell? ⟨w.heap.size,2,none⟩=some (.slice Ar.ga r.got.length Ar.gc)∧X.cell? ⟨w.heap.size,3,none⟩=some (.slice Ar.sa r.ak.length Ar.sc)∧X.cell? ⟨w.heap.size,4,none⟩=some (.bool r.wed)∧X.cell? ⟨w.heap.size,5,none⟩=some (.bool r.aB)∧X.cell? ⟨w.heap.size,6,none⟩=some (.int .i64 r.aC)∧X.cell? ⟨w.heap.size,7,none⟩=some (.slice Ar.ma r.aA.length Ar.mc)) 9 bH ((KS _ hbd)) fun hHeld=>?_
 refine aY (i:=0) rfl hHeld ?_;refine aY (i:=1) rfl hHeld ?_;refine aY (i:=2) rfl hHeld ?_;refine aY (i:=3) rfl hHeld ?_;refine aY (i:=4) rfl hHeld ?_;refine aY (i:=5) rfl hHeld ?_;refine aY (i:=6) rfl hHeld ?_;refine dI (i:=7) rfl fun K hK=>?_
 go_simp
 go_at_call 141
 refine hAn.mono ?_;rintro e V1 ⟨A2,rfl,f2,hl2,hf2,hb2⟩;have jU:=hbd.trans (hb2.mono hbd.size);have hd2:wE.drew.heap.size=wE.heap.size:=rfl;have M3:=eF.out.J3 pJ jU hl2 (fun b hb=>by have:=hf2 b hb;omega)
 have M4:=eF.out.step jU;obtain⟨Ag,⟨⟨k0,k1,k2,k3⟩,k4,k5,k6,k7⟩,_⟩:=M4.row ok.fit pJ;obtain⟨⟨j0,j1,j2,j3⟩,j4,j5,j6,j7⟩:=M4.free pJ;have iQ:Hid _:=M3;refine hK.out _ _ (KS _ jU) (fun aK=>?_)
 clear hK hHeld;have hHeld:=aK;try simp only[dw]
 refine dI (i:=8) rfl fun K hK=>?_
 go_simp;refine hK.out _ _ (KS _ jU) (fun aK=>?_)
 clear hK hHeld;have hHeld:=aK;try simp only[dw]
 unfold bV bD;refine lQ rfl fun K hK=>?_
 go_simp;refine hK.out _ _ ?_;clear hHeld hK M3 M4 hl2 hf2 hb2 k0 k1 k2 k3 k4 k5 k6 k7 j0 j1 j2 j3 j4 j5 j6 j7 KS hbd jU hAn;have HF2:Hid ((aX m (F:Int) r).1={ m with rows:=m.rows.set F r }):=by rw[Hid,HH2.out HZ.out];rfl
 go_wp2
 first|go_end0|go_ret
 exact .inl ⟨HZ.out,rfl,by rw[HF2.out];exact iQ.out.bU⟩
end
section
attribute [local irreducible] sv
theorem Uh (m:Mb) (fr:Int) (r:Rw):Gm m fr r=mJ m (aX m fr r).1 (aX m fr r).2:=by
 unfold Gm mJ
 split
 ·by_cases hd:m.done=true
  ·rw[if_pos hd,aX,if_pos (.inr (.inr (.inr (.inl hd))))]
  ·rw[if_neg hd]
   cases hf:(aX m fr r).2 with
   | true=>rw[if_pos rfl,← hf]
   | false =>
    rw[if_neg (by decide)]
    unfold aX at hf ⊢
    split at hf
    ·rename_i h;rw[if_pos h]
    ·cases hf
 ·rfl
theorem Xa (B:Nat) (fr:Int) (Ar:Ra) (r:Rw) (b1 b2:Nat) (X:World) (R:Ending→World→Prop) (hc:X.cell? ⟨b1,0,none⟩=some (.int .i64 fr)) (hx:Bx X b2 44 #[.int .i64 r.ver,.slice Ar.ta r.txt.length Ar.tc,.slice Ar.ga r.got.length Ar.gc,.slice Ar.sa r.ak.length Ar.sc,.bool r.wed,.bool r.aB,.int .i64 r.aC,.slice Ar.ma r.aA.length Ar.mc]) (hS:Calls Tryz.prog 150 #[.pointer (some ⟨B,0,none⟩),.int .i64 fr,.agg #[.int .i64 r.ver,.slice Ar.ta r.txt.length Ar.tc,.slice Ar.ga r.got.length Ar.gc,.slice Ar.sa r.ak.length Ar.sc,.bool r.wed,.bool r.aB,.int .i64 r.aC,.slice Ar.ma r.aA.length Ar.mc]] X R) (hR:∀ e w',R e w'→e=.returned (.tuple #[])∨Gu e) :
  Calls Tryz.prog 149 #[.pointer (some ⟨B,0,none⟩),.pointer (some ⟨b1,0,none⟩),.pointer (some ⟨b2,0,none⟩)] X R:=by
 have HR:=aj hR;clear hR;obtain⟨⟨x0,x1,x2,x3⟩,x4,x5,x6,x7⟩:=Bx.r8 hx;clear hx;go_enter Tryz.func149,Tryz.ntmps149
 go_wp2_with fail
 refine hS.mono ?_;intro e w1 hRe;rcases HR.out e w1 hRe with rfl|⟨T,v,rfl⟩
 ·have Bl:Hid (R (.returned (.tuple #[])) w1):=hRe
  clear hRe hS;go_wp2
  first|go_end0|go_ret
  exact Bl.out
 ·exact⟨rfl,hRe⟩
theorem Ui:TJ:=by
 intro A m fr Ar r w hv h6 kV;have hmf:∀ (fn:Fn) (first cap:Array Value) (w:World),(Instr.makeFunc fn first cap).run Tryz.prog w=.ok (.func fn first cap) w:=fun _ _ _ _=>rfl
 have a0:=aF w (.cells #[.int .i64 m.id,.int .i64 m.n,.slice A.ra m.rows.length A.rc,.slice A.sa m.au.length A.sc,.bool m.done] 47);have hb0:=a0;have a1:=aF (w.alloc (.cells #[.int .i64 m.id,.int .i64 m.n,.slice A.ra m.rows.length A.rc,.slice A.sa m.au.length A.sc,.bool m.done] 47)) (.cells #[.int .i64 fr] 2);have hb1:=hb0.trans (a1.mono hb0.size);have a2:=aF ((w.alloc (.cells #[.int .i64 m.id,.int .i64 m.n,.slice A.ra m.rows.length A.rc,.slice A.sa m.au.length A.sc,.bool m.done] 47)).alloc (.cells #[.int .i64 fr] 2)) (.cells #[.int .i64 r.ver,.slice Ar.ta r.txt.length Ar.tc,.slice Ar.ga r.got.length Ar.gc,.slice Ar.sa r.ak.length Ar.sc,.bool r.wed,.bool r.aB,.int .i64 r.aC,.slice Ar.ma r.aA.length Ar.mc] 44);have hb2:=hb1.trans (a2.mono hb1.size);have a3:=aF (((w.alloc (.cells #[.int .i64 m.id,.int .i64 m.n,.slice A.ra m.rows.length A.rc,.slice A.sa m.au.length A.sc,.bool m.done] 47)).alloc (.cells #[.int .i64 fr] 2)).alloc (.cells #[.int .i64 r.ver,.slice Ar.ta r.txt.length Ar.tc,.slice Ar.ga r.got.length Ar.gc,.slice Ar.sa r.ak.length Ar.sc,.bool r.wed,.bool r.aB,.int .i64 r.aC,.slice Ar.ma r.aA.length Ar.mc] 44)) (.cells #[.int .i64 0,.int .i64 0,.slice none 0 0,.slice none 0 0,.bool false] 47);have hb3:=hb2.trans (a3.mono hb2.size)
 have hx0:Bx ((((w.alloc (.cells #[.int .i64 m.id,.int .i64 m.n,.slice A.ra m.rows.length A.rc,.slice A.sa m.au.length A.sc,.bool m.done] 47)).alloc (.cells #[.int .i64 fr] 2)).alloc (.cells #[.int .i64 r.ver,.slice Ar.ta r.txt.length Ar.tc,.slice Ar.ga r.got.length Ar.gc,.slice Ar.sa r.ak.length Ar.sc,.bool r.wed,.bool r.aB,.int .i64 r.aC,.slice Ar.ma r.aA.length Ar.mc] 44)).alloc (.cells #[.int .i64 0,.int .i64 0,.slice none 0 0,.slice none 0 0,.bool false] 47)) (w.heap.size) 47 #[.int .i64 m.id,.int .i64 m.n,.slice A.ra m.rows.length A.rc,.slice A.sa m.au.length A.sc,.bool m.done]:=by
  have:=(((Bx.new w 47 #[.int .i64 m.id,.int .i64 m.n,.slice A.ra m.rows.length A.rc,.slice A.sa m.au.length A.sc,.bool m.done]).alloc (.cells #[.int .i64 fr] 2)).alloc (.cells #[.int .i64 r.ver,.slice Ar.ta r.txt.length Ar.tc,.slice Ar.ga r.got.length Ar.gc,.slice Ar.sa r.ak.length Ar.sc,.bool r.wed,.bool r.aB,.int .i64 r.aC,.slice Ar.ma r.aA.length Ar.mc] 44)).alloc (.cells #[.int .i64 0,.int .i64 0,.slice none 0 0,.slice none 0 0,.bool false] 47);try simp only[World.size_alloc] at this
  exact this
 have hx1:Bx ((((w.alloc (.cells #[.int .i64 m.id,.int .i64 m.n,.slice A.ra m.rows.length A.rc,.slice A.sa m.au.length A.sc,.bool m.done] 47)).alloc (.cells #[.int .i64 fr] 2)).alloc (.cells #[.int .i64 r.ver,.slice Ar.ta r.txt.length Ar.tc,.slice Ar.ga r.got.length Ar.gc,.slice Ar.sa r.ak.length Ar.sc,.bool r.wed,.bool r.aB,.int .i64 r.aC,.slice Ar.ma r.aA.length Ar.mc] 44)).alloc (.cells #[.int .i64 0,.int .i64 0,.slice none 0 0,.slice none 0 0,.bool false] 47)) (w.heap.size+1) 2 #[.int .i64 fr]:=by
  have:=((Bx.new (w.alloc (.cells #[.int .i64 m.id,.int .i64 m.n,.slice A.ra m.rows.length A.rc,.slice A.sa m.au.length A.sc,.bool m.done] 47)) 2 #[.int .i64 fr]).alloc (.cells #[.int .i64 r.ver,.slice Ar.ta r.txt.length Ar.tc,.slice Ar.ga r.got.length Ar.gc,.slice Ar.sa r.ak.length Ar.sc,.bool r.wed,.bool r.aB,.int .i64 r.aC,.slice Ar.ma r.aA.length Ar.mc] 44)).alloc (.cells #[.int .i64 0,.int .i64 0,.slice none 0 0,.slice none 0 0,.bool false] 47);try simp only[World.size_alloc] at this
  exact this
 have hx2:Bx ((((w.alloc (.cells #[.int .i64 m.id,.int .i64 m.n,.slice A.ra m.rows.length A.rc,.slice A.sa m.au.length A.sc,.bool m.done] 47)).alloc (.cells #[.int .i64 fr] 2)).alloc (.cells #[.int .i64 r.ver,.slice Ar.ta r.txt.length Ar.tc,.slice Ar.ga r.got.length Ar.gc,.slice Ar.sa r.ak.length Ar.sc,.bool r.wed,.bool r.aB,.int .i64 r.aC,.slice Ar.ma r.aA.length Ar.mc] 44)).alloc (.cells #[.int .i64 0,.int .i64 0,.slice none 0 0,.slice none 0 0,.bool false] 47)) (w.heap.size+1+1) 44 #[.int .i64 r.ver,.slice Ar.ta r.txt.length Ar.tc,.slice Ar.ga r.got.length Ar.gc,.slice Ar.sa r.ak.length Ar.sc,.bool r.wed,.bool r.aB,.int .i64 r.aC,.slice Ar.ma r.aA.length Ar.mc]:=by
  have:=(Bx.new ((w.alloc (.cells #[.int .i64 m.id,.int .i64 m.n,.slice A.ra m.rows.length A.rc,.slice A.sa m.au.length A.sc,.bool m.done] 47)).alloc (.cells #[.int .i64 fr] 2)) 44 #[.int .i64 r.ver,.slice Ar.ta r.txt.length Ar.tc,.slice Ar.ga r.got.length Ar.gc,.slice Ar.sa r.ak.length Ar.sc,.bool r.wed,.bool r.aB,.int .i64 r.aC,.slice Ar.ma r.aA.length Ar.mc]).alloc (.cells #[.int .i64 0,.int .i64 0,.slice none 0 0,.slice none 0 0,.bool false] 47);try simp only[World.size_alloc] at this
  exact this
 have hx3:Bx ((((w.alloc (.cells #[.int .i64 m.id,.int .i64 m.n,.slice A.ra m.rows.length A.rc,.slice A.sa m.au.length A.sc,.bool m.done] 47)).alloc (.cells #[.int .i64 fr] 2)).alloc (.cells #[.int .i64 r.ver,.slice Ar.ta r.txt.length Ar.tc,.slice Ar.ga r.got.length Ar.gc,.slice Ar.sa r.ak.length Ar.sc,.bool r.wed,.bool r.aB,.int .i64 r.aC,.slice Ar.ma r.aA.length Ar.mc] 44)).alloc (.cells #[.int .i64 0,.int .i64 0,.slice none 0 0,.slice none 0 0,.bool false] 47)) (w.heap.size+1+1+1) 47 #[.int .i64 0,.int .i64 0,.slice none 0 0,.slice none 0 0,.bool false]:=by
  have:=Bx.new (((w.alloc (.cells #[.int .i64 m.id,.int .i64 m.n,.slice A.ra m.rows.length A.rc,.slice A.sa m.au.length A.sc,.bool m.done] 47)).alloc (.cells #[.int .i64 fr] 2)).alloc (.cells #[.int .i64 r.ver,.slice Ar.ta r.txt.length Ar.tc,.slice Ar.ga r.got.length Ar.gc,.slice Ar.sa r.ak.length Ar.sc,.bool r.wed,.bool r.aB,.int .i64 r.aC,.slice Ar.ma r.aA.length Ar.mc] 44)) 47 #[.int .i64 0,.int .i64 0,.slice none 0 0,.slice none 0 0,.bool false];try simp only[World.size_alloc] at this
  exact this
 have hP:=hv.below hb3
 have mV:=C9 149 #[.pointer (some ⟨w.heap.size+1,0,none⟩),.pointer (some ⟨w.heap.size+1+1,0,none⟩)] A m (aX m fr r).1 (aX m fr r).2 ((((w.alloc (.cells #[.int .i64 m.id,.int .i64 m.n,.slice A.ra m.rows.length A.rc,.slice A.sa m.au.length A.sc,.bool m.done] 47)).alloc (.cells #[.int .i64 fr] 2)).alloc (.cells #[.int .i64 r.ver,.slice Ar.ta r.txt.length Ar.tc,.slice Ar.ga r.got.length Ar.gc,.slice Ar.sa r.ak.length Ar.sc,.bool r.wed,.bool r.aB,.int .i64 r.aC,.slice Ar.ma r.aA.length Ar.mc] 44)).alloc (.cells #[.int .i64 0,.int .i64 0,.slice none 0 0,.slice none 0 0,.bool false] 47)) hP (fun _ _=>enters_of Tryz.func149 (by kernel_rfl) rfl _ _)
  (fun hok hf => by
   obtain⟨i,n,ok⟩:=je.1 hok;have:=(qQ ok fr r).1;rw[this.hn,this.len])
  (fun X B fp i n hX hpl ok hd => Xa B fr Ar r (w.heap.size + 1) (w.heap.size + 1 + 1) X _ ((hx1.below hX).at 0 rfl) (hx2.below hX) (WY B m i n fr Ar r fp X hpl ok hd ((kV.below hb3).below hX)) (fun e w' h => by
   rcases h with ⟨_,h,_⟩|⟨_,h,_⟩
   ·exact .inl h
   ·exact .inr h))
 have HZ0:=Uh m fr r;clear kV;unfold eG dZ at mV;have hWl:=hx3.lt;obtain⟨c0,c1,c2,c3,c4⟩:=Bx.r5 hx0;have HR0:=aj hx3;have HB0:=aj hb3;have HZ:=aj HZ0;clear a0 a1 a2 a3 hb0 hb1 hb2 hb3 hx0 hx1 hx2 hx3 hP hv HZ0;unfold eG dZ bV bD;generalize mJ m (aX m fr r).1 (aX m fr r).2=pm at *;go_enter Tryz.func111,Tryz.ntmps111
 go_wp2_with fail
 generalize ((((w.alloc (.cells #[.int .i64 m.id,.int .i64 m.n,.slice A.ra m.rows.length A.rc,.slice A.sa m.au.length A.sc,.bool m.done] 47)).alloc (.cells #[.int .i64 fr] 2)).alloc (.cells #[.int .i64 r.ver,.slice Ar.ta r.txt.length Ar.tc,.slice Ar.ga r.got.length Ar.gc,.slice Ar.sa r.ak.length Ar.sc,.bool r.wed,.bool r.aB,.int .i64 r.aC,.slice Ar.ma r.aA.length Ar.mc] 44)).alloc (.cells #[.int .i64 0,.int .i64 0,.slice none 0 0,.slice none 0 0,.bool false] 47))=W0 at *;refine mV.mono ?_;rintro e w1 ⟨A2,rfl,fp,hl,hf,hb⟩;have hR:=HR0.out.below hb;have hsz:=hb.size
 have HN:Hid (∀ {z0 z1 z2 z3 z4:Value},iL w (((((w1.setCell ⟨w.heap.size+1+1+1,0,none⟩ z0).setCell ⟨w.heap.size+1+1+1,1,none⟩ z1).setCell ⟨w.heap.size+1+1+1,2,none⟩ z2).setCell ⟨w.heap.size+1+1+1,3,none⟩ z3).setCell ⟨w.heap.size+1+1+1,4,none⟩ z4) (fD pm.1) (fE A2 pm.1)):=fun {z0 z1 z2 z3 z4}=>by
  have hB1:=HB0.out.trans (hb.mono HB0.out.size);exact⟨fp,bP hl (kX w1 (w.heap.size+1+1+1)) (fun x hx e=>by have:=hf x hx;omega),fun x hx=>by have:=hf x hx;omega,(kX w1 (w.heap.size+1+1+1)).below hB1 hB1.size (fun x e=>by omega)⟩
 obtain⟨z0,z1,z2,z3,z4⟩:=Bx.r5 hR;obtain⟨r0,r1,r2,r3,r4⟩:=hR.f5;clear mV hl hf hb hR c0 c1 c2 c3 c4;unfold eG dZ;go_wp2;refine bodyPost_ret (v:=.tuple #[eG A2 pm.1,.bool pm.2]) (by simp[results,Tryz.results111,go_sem,eG,dZ, *]) rfl ?_
 rw[HZ.out];exact⟨_,rfl,HN.out⟩
end
def Fr5 (w:World) (b o:Nat):Prop:=w.frozen? ⟨b,o,none⟩=false∧w.frozen? ⟨b,o+1,none⟩=false∧w.frozen? ⟨b,o+2,none⟩=false∧w.frozen? ⟨b,o+3,none⟩=false∧w.frozen? ⟨b,o+4,none⟩=false
theorem Gw.LW {w X:World} {B o:Nat} {g:Gr} {fp:Fp} {b off c:Nat} (h:Gw w X B o g fp b off c) {n:Nat} (ok:OkG g n) {k:Nat} (hk:k<g.mem.length):∃ A:Ma,C5 X b (off+k*5) (.int .i64 (aN g k).id) (.int .i64 (aN g k).n) (.slice A.ra (aN g k).rows.length A.rc) (.slice A.sa (aN g k).au.length A.sc) (.bool (aN g k).done)∧Fr5 X b (off+k*5)∧nS X A (aN g k):=by
 obtain⟨f,⟨vs,hpc,hov,_⟩,_⟩:=h.mb hk;obtain⟨A,rfl,hl⟩:=EL hov;have hl5:(dZ A (aN g k)).toList.length=5:=rfl;have q:=hpc.cell;have z:=hpc.free;have om:=ok.mem k (by rw[← ok.ml];exact hk)
 exact⟨A,⟨q 0 (by rw[hl5];omega),q 1 (by rw[hl5];omega),q 2 (by rw[hl5];omega),q 3 (by rw[hl5];omega),q 4 (by rw[hl5];omega)⟩,⟨z 0 (by rw[hl5];omega),z 1 (by rw[hl5];omega),z 2 (by rw[hl5];omega),z 3 (by rw[hl5];omega),z 4 (by rw[hl5];omega)⟩,⟨f,hl⟩,om.fit,FH om,Nat.le_trans (LJ (wV hk)) (Nat.le_trans ok.small.2.2.2.2 (by decide))⟩
theorem Gw.FI {w X X1:World} {B o:Nat} {g:Gr} {fp:Fp} {b off c:Nat} (h:Gw w X B o g fp b off c) {k:Nat} (hk:k<g.mem.length) (hb:Below X.heap.size X X1) {m':Mb} {A':Ma} {f':Fp} (hr:bG X1 (fD m') (fE A' m') f') (hf:∀ b,f' b→X.heap.size≤b) :
  Gw w (((((X1.setCell ⟨b,off+k*5,none⟩ (.int .i64 m'.id)).setCell ⟨b,off+k*5+1,none⟩ (.int .i64 m'.n)).setCell ⟨b,off+k*5+2,none⟩ (.slice A'.ra m'.rows.length A'.rc)).setCell ⟨b,off+k*5+3,none⟩ (.slice A'.sa m'.au.length A'.sc)).setCell ⟨b,off+k*5+4,none⟩ (.bool m'.done)) B o { g with mem:=g.mem.set k m' } fp b off c:=by
 obtain⟨f,hpl,hput⟩:=h.mb hk;have hA:=hpl.all hb (EK hr) rfl hf;exact hput _ m' hA
def zJ (g:Gr) (x:Ml):Gr:=if nM g x.to.toNat=true then { g with mem:=g.mem.set x.to.toNat (aX (aN g x.to.toNat) x.fr x.row).1 } else g
theorem ae7 (B:Nat) (g:Gr) (n a b:Nat) (r:Rw) (Ak:Ra) (fp:Fp) (w:World) (h:dN w B 0 (dB g) fp) (ok:OkG g n) (hb:b<n) (han:a<n) (hv:iM w Ak r) :
  Calls Tryz.prog 72 #[.pointer (some ⟨B,0,none⟩),.agg #[.int .i64 (a:Int),.int .i64 (b:Int),.int .i64 r.ver,.slice Ak.ta r.txt.length Ak.tc,.slice Ak.ga r.got.length Ak.gc,.slice Ak.sa r.ak.length Ak.sc,.bool r.wed,.bool r.aB,.int .i64 r.aC,.slice Ak.ma r.aA.length Ak.mc]] w fun e w'=>e=.returned (.tuple #[])∧bC w w' B 0 (dB (zJ g ⟨(a:Int),(b:Int),r⟩)) fp:=by
 have bH:=dH;have hbl:b<g.mem.length:=by rw[ok.ml];exact hb
 have zQ:b<g.up.length:=by rw[ok.ul];exact hb
 obtain⟨bb,off,c,G0⟩:=Gw.start h (by omega)
 have hba:=aF w (.cells #[.int .i64 (a:Int),.int .i64 (b:Int),.int .i64 r.ver,.slice Ak.ta r.txt.length Ak.tc,.slice Ak.ga r.got.length Ak.gc,.slice Ak.sa r.ak.length Ak.sc,.bool r.wed,.bool r.aB,.int .i64 r.aC,.slice Ak.ma r.aA.length Ak.mc] 68);have hxm:=Bx.new w 68 #[.int .i64 (a:Int),.int .i64 (b:Int),.int .i64 r.ver,.slice Ak.ta r.txt.length Ak.tc,.slice Ak.ga r.got.length Ak.gc,.slice Ak.sa r.ak.length Ak.sc,.bool r.wed,.bool r.aB,.int .i64 r.aC,.slice Ak.ma r.aA.length Ak.mc];have G1:=G0.step hba;obtain⟨ub,uo,uc,u1,u2,_,_⟩:=G1.bit zQ;obtain⟨A,⟨m0,m1,m2,m3,m4⟩,hf5,hmp⟩:=G1.LW ok hbl;have c0:=G1.mem;have kU:=aj G1;have HX:=aj hxm;have LX:=aj hmp;have TV:=aj (hv.below hba);have kQ:Hid (C5 (w.alloc (.cells #[.int .i64 (a:Int),.int .i64 (b:Int),.int .i64 r.ver,.slice Ak.ta r.txt.length Ak.tc,.slice Ak.ga r.got.length Ak.gc,.slice Ak.sa r.ak.length Ak.sc,.bool r.wed,.bool r.aB,.int .i64 r.aC,.slice Ak.ma r.aA.length Ak.mc] 68)) bb (off+b*5) (.int .i64 (aN g b).id) (.int .i64 (aN g b).n) (.slice A.ra (aN g b).rows.length A.rc) (.slice A.sa (aN g b).au.length A.sc) (.bool (aN g b).done)):=⟨m0,m1,m2,m3,m4⟩;have nO:=aj hf5;obtain⟨⟨y0,y1,y2,y3,y4⟩,y5,y6,y7,y8,y9⟩:=Bx.yC hxm;have om:=ok.mem b hb;have yD:Hid (fO (aN g b)=true):=je.2 ⟨b,n,om⟩;have HZ:Hid (zJ g ⟨(a:Int),(b:Int),r⟩=if nM g b=true then { g with mem:=g.mem.set b (aX (aN g b) (a:Int) r).1 } else g):=by rw[Hid,zJ];simp only[Int.toNat_natCast]
 have cO:=aj ok;have fG:=ok.n5;have b0:(0:Int)≤(b:Int):=by omega
 have b1:(b:Int)<(g.mem.length:Int):=by omega
 have b2:(b:Int)<(g.up.length:Int):=by omega
 simp only[Nat.zero_add] at u1;clear h ok G0 G1 hba hxm hmp hv om m0 m1 m2 m3 m4 hf5;go_enter Tryz.func72,Tryz.ntmps72
 go_upto_region 1 with fail
 generalize w.alloc (.cells #[.int .i64 (a:Int),.int .i64 (b:Int),.int .i64 r.ver,.slice Ak.ta r.txt.length Ak.tc,.slice Ak.ga r.got.length Ak.gc,.slice Ak.sa r.ak.length Ak.sc,.bool r.wed,.bool r.aB,.int .i64 r.aC,.slice Ak.ma r.aA.length Ak.mc] 68)=W1 at *;have TT:∀ {x v},W1.cell? x=some v→∀ q:Bk W1,q.w.cell? x=some v:=fun h q=>(q.h.cell (World.block_lt_of_cell? _ _ h)).trans h
 have c0':=c0;have t1:=TT u1;have t2:=TT u2;have t3:=TT y1;clear TT u1 u2 c0 y0 y1 y2 y3 y4 y5 y6 y7 y8 y9;refine eU ?_;repeat (go_big_quiet_step ((first|rfl)))
 refine wpQuiet_nil (dK fun wE aJ=>?_)
 clear t1 t2 t3
 cases hup:nM g b with
 | false =>
  have HN:Hid (zJ g ⟨(a:Int),(b:Int),r⟩=g):=by rw[Hid,HZ.out,if_neg (by rw[hup];decide)]
  clear hup;go_wp2_with fail
  first|go_end0|go_ret
  exact⟨rfl,by rw[HN.out];exact (kU.out.step aJ).bU⟩
 | true =>
  have HN:Hid (zJ g ⟨(a:Int),(b:Int),r⟩={ g with mem:=g.mem.set b (aX (aN g b) (a:Int) r).1 }):=by rw[Hid,HZ.out,if_pos hup]
  clear hup;have hbd:=aJ.trans ((Same.drewN wE 1).below.mono aJ.size);have sF:=Ui A (aN g b) (a:Int) Ak r wE.drew (LX.out.below hbd) ⟨by omega,by omega⟩ (TV.out.below hbd)
  have HH:Hid (Gm (aN g b) (a:Int) r=aX (aN g b) (a:Int) r):=by rw[Hid,Gm,if_pos yD.out]
  rw[HH.out] at sF;generalize (aX (aN g b) (a:Int) r).2=hf2 at *;generalize (aX (aN g b) (a:Int) r).1=m2 at *;generalize hmm:aN g b=m at *
  have KS:∀ Z,Below W1.heap.size W1 Z→Z.cell? ⟨B,0,none⟩=some (.slice (some ⟨bb,off,none⟩) g.mem.length c)∧Z.cell? ⟨w.heap.size,0,none⟩=some (.int .i64 (a:Int))∧Z.cell? ⟨w.heap.size,1,none⟩=some (.int .i64 (b:Int))∧Z.cell? ⟨w.heap.size,2,none⟩=some (.int .i64 r.ver)∧Z.cell? ⟨w.heap.size,3,none⟩=some (.slice Ak.ta r.txt.length Ak.tc)∧Z.cell? ⟨w.heap.size,4,none⟩=some (.slice Ak.ga r.got.length Ak.gc)∧Z.cell? ⟨w.heap.size,5,none⟩=some (.slice Ak.sa r.ak.length Ak.sc)∧Z.cell? ⟨w.heap.size,6,none⟩=some (.bool r.wed)∧Z.cell? ⟨w.heap.size,7,none⟩=some (.bool r.aB)∧Z.cell? ⟨w.heap.size,8,none⟩=some (.int .i64 r.aC)∧Z.cell? ⟨w.heap.size,9,none⟩=some (.slice Ak.ma r.aA.length Ak.mc)∧Z.cell? ⟨bb,off+b*5,none⟩=some (.int .i64 m.id)∧Z.cell? ⟨bb,off+b*5+1,none⟩=some (.int .i64 m.n)∧Z.cell? ⟨bb,off+b*5+2,none⟩=some (.slice A.ra m.rows.length A.rc)∧Z.cell? ⟨bb,off+b*5+3,none⟩=some (.slice A.sa m.au.length A.sc)∧Z.cell? ⟨bb,off+b*5+4,none⟩=some (.bool m.done):=fun Z hZ=>by
   obtain⟨⟨y0,y1,y2,y3,y4⟩,y5,y6,y7,y8,y9⟩:=Bx.yC (HX.out.below hZ);obtain⟨m0,m1,m2,m3,m4⟩:=kQ.out;have t:∀ {x v},W1.cell? x=some v→Z.cell? x=some v:=fun h=>(hZ.cell (World.block_lt_of_cell? _ _ h)).trans h
   exact⟨t c0',y0,y1,y2,y3,y4,y5,y6,y7,y8,y9,t m0,t m1,t m2,t m3,t m4⟩
  unfold eG dZ bV bD at sF;go_upto_region 2 with fail
  refine jE (S:=fun Z:World=>Z.cell? ⟨B,0,none⟩=some (.slice (some ⟨bb,off,none⟩) g.mem.length c)∧Z.cell? ⟨w.heap.size,0,none⟩=some (.int .i64 (a:Int))∧Z.cell? ⟨w.heap.size,1,none⟩=some (.int .i64 (b:Int))∧Z.cell? ⟨w.heap.size,2,none⟩=some (.int .i64 r.ver)∧Z.cell? ⟨w.heap.size,3,none⟩=some (.slice Ak.ta r.txt.length Ak.tc)∧Z.cell? ⟨w.heap.size,4,none⟩=some (.slice Ak.ga r.got.length Ak.gc)∧Z.cell? ⟨w.heap.size,5,none⟩=some (.slice Ak.sa r.ak.length Ak.sc)∧Z.cell? ⟨w.heap.size,6,none⟩=some (.bool r.wed)∧Z.cell? ⟨w.heap.size,7,none⟩=some (.bool r.aB)∧Z.cell? ⟨w.heap.size,8,none⟩=some (.int .i64 r.aC)∧Z.cell? ⟨w.heap.size,9,none⟩=some (.slice Ak.ma r.aA.length Ak.mc)∧Z.cell? ⟨bb,off+b*5,none⟩=some (.int .i64 m.id)∧Z.cell? ⟨bb,off+b*5+1,none⟩=some (.int .i64 m.n)∧Z.cell? ⟨bb,off+b*5+2,none⟩=some (.slice A.ra m.rows.length A.rc)∧Z.cell? ⟨bb,off+b*5+3,none⟩=some (.slice A.sa m.au.length A.sc)∧Z.cell? ⟨bb,off+b*5+4,none⟩=some (.bool m.done)) 23 bH ((KS _ hbd)) fun hHeld=>?_
  refine aS (i:=0) rfl ?_;refine aS (i:=1) rfl ?_;refine aS (i:=2) rfl ?_;refine aY (i:=3) rfl hHeld ?_;refine aS (i:=4) rfl ?_;refine aY (i:=5) rfl hHeld ?_;refine aS (i:=6) rfl ?_;refine aS (i:=7) rfl ?_;refine aS (i:=8) rfl ?_;refine aY (i:=9) rfl hHeld ?_;refine aS (i:=10) rfl ?_;refine aY (i:=11) rfl hHeld ?_;refine aS (i:=12) rfl ?_;refine aY (i:=13) rfl hHeld ?_;refine aS (i:=14) rfl ?_;refine aY (i:=15) rfl hHeld ?_;refine aS (i:=16) rfl ?_;refine aY (i:=17) rfl hHeld ?_;refine dI (i:=18) rfl fun K hK=>?_
  go_simp
  go_at_call 111
  refine sF.mono ?_;rintro e w1 ⟨A2,rfl,fr,hr1,hr2,hr3⟩;have hbw:=hbd.trans (hr3.mono hbd.size);have xW:=kU.out.FI hbl hbw hr1 (fun b h=>Nat.le_trans hbd.size (hr2 b h))
  have FK:=aj xW;obtain⟨k0,k1,k2,k3,k4⟩:=kQ.out;have t:∀ {x v},W1.cell? x=some v→w1.cell? x=some v:=fun h=>(hbw.cell (World.block_lt_of_cell? _ _ h)).trans h
  replace k0:=t k0;replace k1:=t k1;replace k2:=t k2;replace k3:=t k3;replace k4:=t k4;obtain⟨z0,z1,z2,z3,z4⟩:=nO.out
  have tz:∀ {x v},W1.cell? x=some v→W1.frozen? x=false→w1.frozen? x=false:=fun {x v} h hz=>by
   have e:=hbw.block x.block (World.block_lt_of_cell? _ _ h);simpa only[World.frozen?,e] using hz
  replace z0:=tz kQ.out.1 z0;replace z1:=tz kQ.out.2.1 z1;replace z2:=tz kQ.out.2.2.1 z2;replace z3:=tz kQ.out.2.2.2.1 z3;replace z4:=tz kQ.out.2.2.2.2 z4;unfold eG dZ;refine hK.out _ _ (KS _ hbw) (fun aK=>?_)
  clear hK hHeld;have hHeld:=aK;try simp only[dw]
  refine aS (i:=19) rfl ?_;refine aS (i:=20) rfl ?_;refine aS (i:=21) rfl ?_;refine aS (i:=22) rfl ?_;refine lQ rfl fun K hK=>?_
  go_simp;refine hK.out _ _ ?_;clear hHeld hK xW k0 k1 k2 k3 k4 z0 z1 z2 z3 z4 t tz hr1 hr2 hr3 hbw hbd KS sF;generalize (((((w1.setCell ⟨bb,off+b*5,none⟩ (.int .i64 m2.id)).setCell ⟨bb,off+b*5+1,none⟩ (.int .i64 m2.n)).setCell ⟨bb,off+b*5+2,none⟩ (.slice A2.ra m2.rows.length A2.rc)).setCell ⟨bb,off+b*5+3,none⟩ (.slice A2.sa m2.au.length A2.sc)).setCell ⟨bb,off+b*5+4,none⟩ (.bool m2.done))=W9 at *;try go_wp2
  first|go_end0|go_ret
  exact⟨rfl,by rw[HN.out];exact FK.out.bU⟩
theorem fA.less {w:World} {s g off n n' c:Nat} {xs:List Value} (h:fA w s g off n c xs) (hn:n'≤n):fA w s g off n' c (xs.take (n'*s)):=by
 have h1:=Nat.mul_le_mul_right s hn;exact⟨by rw[List.length_take,h.len];omega,Nat.le_trans hn h.le,h.max,h.blk,fun i hi=>by rw[List.getElem?_take_of_lt hi];exact h.cell i (by omega),h.some,h.free⟩
theorem IW {P:Program} (w:World) (t e ty:TypeId) (z:Value) (Z:List Value) (ht:P.underlying t=some (.slice e)) (hv:∀ w,(zeroValue e).run P w=.ok z w) (hz:(Builtin.zeroCells z.cells 1).toList=Z) (h1:∀ v∈Z,v.oneCell'=true) (b o c:Nat)
  (hc:∀ j,j<Z.length→(w.cell? ⟨b,o+j,none⟩).isSome=true) (hf:∀ j,j<Z.length→w.frozen? ⟨b,o+j,none⟩=false) :
  (Builtin.clear_ #[t] ty #[.slice (some ⟨b,o,none⟩) 1 c]).run P w=.ok (.tuple #[]) (w.setCells b o Z):=by
 have hst:=run_storeCells_cells (P:=P) b o Z 0 w (by simpa using hc) (by simpa using hf) h1
 simp only[Nat.add_zero] at hst;simp[Builtin.clear_,run_underlying ht,hv,hz,hst]
theorem ae8 {w:World} {L:List Ml} {g off c:Nat} {fp:Fp} (h:aI.ow w (dA 10 gZ L) (.slice (some ⟨g,off,none⟩) L.length c) fp) {k:Nat} {x:Ml} (hx:L[k]?=some x) {Z:List Value} (hZ:Z.length=10) :
  ∃ us u2 u3 f2,fp g∧L.length≤c∧c≤maxLen∧(∀ b,f2 b→fp b∧b≠g)∧bG w (gZ x) u2 f2∧(∀ j y,u2[j]?=some y→w.cell? ⟨g,off+k*10+j,none⟩=some y)∧(∀ j y,u3[j]?=some y→w.cell? ⟨g,off+(k+1)*10+j,none⟩=some y) ∧
   u3.length=(L.length-(k+1))*10∧(∀ v∈u3,v.oneCell'=true)∧fA w 10 g off L.length c us ∧
   ∀ Y,Below w.heap.size w Y→∃ f',aI.ow ((Y.setCells g (off+k*10) u3).setCells g (off+(L.length-1)*10) Z) (dA 10 gZ (L.take k++L.drop (k+1))) (.slice (some ⟨g,off,none⟩) (L.length-1) c) f'∧∀ b,f' b→fp b∧¬ f2 b:=by
 have hkl:k<L.length:=by
  rcases Nat.lt_or_ge k L.length with h|h
  ·exact h
  ·rw[List.getElem?_eq_none h] at hx;cases hx
 obtain⟨a,cc,us,G,f,e,ho,hcs,hn,hf⟩:=h
 cases e
 have hle:=ho.le;have RU:=ho.len
 have e1:L=L.take k++([x]++L.drop (k+1)):=by
  have hx:L[k]=x:=by rw[List.getElem?_eq_getElem hkl] at hx;exact Option.some.inj hx
  rw[← hx,List.singleton_append,List.getElem_cons_drop,List.take_append_drop]
 have e2:L.flatMap gZ=(L.take k).flatMap gZ++(gZ x++(L.drop (k+1)).flatMap gZ):=by
  conv=>lhs;rw[e1]
  rw[List.flatMap_append,List.flatMap_append,List.flatMap_singleton]
 rw[e2] at hcs;obtain⟨u1,u23,f1,f23,rfl,l1,Rz,d1,i1⟩:=jl hcs;obtain⟨u2,u3,f2,f3,rfl,l2,l3,d2,i2⟩:=jl Rz;have n1:u1.length=k*10:=by rw[fJ l1,oG kK,List.length_take];congr 1;omega
 have n2:u2.length=10:=by rw[fJ l2,kK]
 have n3:u3.length=(L.length-(k+1))*10:=by rw[fJ l3,oG kK,List.length_drop]
 rcases ho with ⟨h0,_⟩|⟨g',off',e',hs,rfl⟩
 ·omega
 cases e'
 have hg:fp g:=(hf g).2 (.inl rfl);have uZ:¬ f g:=hn g rfl
 have cell:∀ j y,(u1++(u2++u3))[j]?=some y→w.cell? ⟨g,off+j,none⟩=some y:=fun j y hy=>by
  have hj:j<(u1++(u2++u3)).length:=by
   rcases Nat.lt_or_ge j (u1++(u2++u3)).length with h|h
   ·exact h
   ·rw[List.getElem?_eq_none h] at hy;cases hy
  rw[hs.cell j (by omega)]
  exact hy
 have s1:∀ b,f1 b→f b:=fun b hb=>(i1 b).2 (.inl hb)
 have s2:∀ b,f2 b→f b:=fun b hb=>(i1 b).2 (.inr ((i2 b).2 (.inl hb)))
 have s3:∀ b,f3 b→f b:=fun b hb=>(i1 b).2 (.inr ((i2 b).2 (.inr hb)))
 have lt:∀ {l:List Value} {j:Nat} {y:Value},l[j]?=some y→j<l.length:=fun {l j y} h=>by
  rcases Nat.lt_or_ge j l.length with k|k
  ·exact k
  ·rw[List.getElem?_eq_none k] at h;cases h
 refine⟨u1++(u2++u3),u2,u3,f2,hg,hle.1,hle.2,fun b hb=>⟨(hf b).2 (.inr (s2 b hb)),fun e=>uZ (e ▸ s2 b hb)⟩,l2,fun j y hy=>?_,fun j y hy=>?_,n3,oO l3 (JM wG _),hs,fun Y hY=>?_⟩
 ·have hj:=lt hy
  rw[Nat.add_assoc];refine cell (k*10+j) y ?_;rw[List.getElem?_append_right (by omega),n1,Nat.add_sub_cancel_left,List.getElem?_append_left hj]
  exact hy
 ·have hj:=lt hy
  rw[Nat.add_assoc];refine cell ((k+1)*10+j) y ?_;rw[List.getElem?_append_right (by omega),List.getElem?_append_right (by omega),n1,n2,show (k+1)*10+j-k*10-10=j by omega]
  exact hy
 ·have hs0:=hs.below hY hs.blk
  have hs1:=CG (vs:=u3) (k:=k*10) hs0 (by rw[n3];omega)
  have hs2:=CG (vs:=Z) (k:=(L.length-1)*10) hs1 (by rw[hZ];omega)
  have hs3:=fA.less hs2 (n':=L.length-1) (by omega)
  have t1:(u1++(u2++u3)).take (k*10)=u1:=by rw[List.take_append_of_le_length (by omega),List.take_of_length_le (by omega)]
  rw[t1] at hs3
  have t2:((((u1++u3++(u1++(u2++u3)).drop (k*10+u3.length))).take ((L.length-1)*10)++Z++((u1++u3++(u1++(u2++u3)).drop (k*10+u3.length))).drop ((L.length-1)*10+Z.length)).take ((L.length-1)*10))=u1++u3:=by
   have e0:(u1++u3).length=(L.length-1)*10:=by rw[List.length_append,n1,n3];omega
   rw[List.append_assoc ((u1++u3++_).take _),List.take_append_of_le_length (by rw[List.length_take,List.length_append,e0];omega),List.take_take,Nat.min_self,List.take_append_of_le_length (by omega),List.take_of_length_le (by omega)]
  rw[t2] at hs3;have hw:aO (fun b=>b=g) Y ((Y.setCells g (off+k*10) u3).setCells g (off+(L.length-1)*10) Z):=(aO.setCells g _ _ _).trans (aO.setCells g _ _ _) (fun _ _ h=>h)
  have l1':=bP (bM l1 hY) hw (fun b hb e=>uZ (e ▸ s1 b hb))
  have l3':=bP (bM l3 hY) hw (fun b hb e=>uZ (e ▸ s3 b hb))
  have d13:∀ b,f1 b→¬ f3 b:=fun b hb h2=>d1 b hb ((i2 b).2 (.inr h2))
  refine⟨fun b=>b=g∨f1 b∨f3 b,⟨some ⟨g,off,none⟩,c,u1++u3,some g,fun b=>f1 b∨f3 b, ?_, ?_, ?_,fun b hb h=>?_,fun b=>?_⟩,fun b hb=>?_⟩
  ·rw[List.length_append,List.length_take,List.length_drop,show min k L.length+(L.length-(k+1))=L.length-1 by omega]
  ·rw[List.length_append,List.length_take,List.length_drop,show min k L.length+(L.length-(k+1))=L.length-1 by omega]
   exact dR.of hs3
  ·rw[List.flatMap_append]
   exact kZ l1' l3' d13
  ·cases hb
   exact uZ (h.elim (s1 _) (s3 _))
  ·constructor
   ·rintro (h|h)
    ·exact .inl (by rw[h])
    ·exact .inr h
   ·rintro (h|h)
    ·exact .inl (Option.some.inj h).symm
    ·exact .inr h
  ·rcases hb with h|h|h
   ·exact⟨h ▸ hg,fun h2=>uZ (h ▸ s2 b h2)⟩
   ·exact⟨(hf b).2 (.inr (s1 b h)),fun h2=>d1 b h ((i2 b).2 (.inl h2))⟩
   ·exact⟨(hf b).2 (.inr (s3 b h)),fun h2=>d2 b h2 h⟩
def Iu:List Value:=[.int .i64 0,.int .i64 0,.int .i64 0,.slice none 0 0,.slice none 0 0,.slice none 0 0,.bool false,.bool false,.int .i64 0,.slice none 0 0]
theorem ae9 (n g off c k:Nat) (us u3:List Value) (w:World) (hk:k<n) (hnc:n≤c) (hcm:c≤maxLen) (h3:∀ j y,u3[j]?=some y→w.cell? ⟨g,off+(k+1)*10+j,none⟩=some y) (hl3:u3.length=(n-(k+1))*10) (ho3:∀ v∈u3,v.oneCell'=true) (hO:fA w 10 g off n c us) (hn:n≤1000000) :
  Calls Tryz.prog 159 #[.slice (some ⟨g,off,none⟩) n c,.int .i64 (k:Int),.int .i64 ((k:Int)+1)] w fun e w'=>e=.returned (.slice (some ⟨g,off,none⟩) (n-1) c)∧w'=(w.drew.setCells g (off+k*10) u3).setCells g (off+(n-1)*10) Iu:=by
 have bH:=dH;obtain⟨i0,hi0,hz0,hz1,hz2⟩:=nT Tryz.infoMl;have t0:Tryz.prog.underlying 26=some (.slice 68):=Tryz.underlying26;unfold maxLen at hcm
 obtain⟨A,hA,hsrc⟩:∃ A:Addr,(if c=k+1 then some (⟨g,off,none⟩:Addr) else some ⟨g,off+(k+1)*10,none⟩)=some A∧Hid (∀ t u,u3[t]?=some u→w.drew.cell? (A.add t)=some u):=by
  by_cases h:c=k+1
  ·refine⟨⟨g,off,none⟩,by simp[h],fun t u hu=>?_⟩
   have h0:u3.length=0:=by rw[hl3];omega
   rw[List.length_eq_zero_iff.1 h0] at hu;simp at hu
  ·exact⟨⟨g,off+(k+1)*10,none⟩,by simp[h],fun t u hu=>by rw[Addr.add_lit];exact h3 t u hu⟩
 have hbd:Below w.heap.size w w.drew:=(Same.drewN w 1).below;have Zv:=hO.below hbd hO.blk
 have s3:Hid (∀ t,t<u3.length→(w.drew.cell? ⟨g,off+k*10+t,none⟩).isSome=true∧w.drew.frozen? ⟨g,off+k*10+t,none⟩=false):=fun t ht=>by
  rw[hl3] at ht;rw[Nat.add_assoc];exact⟨Zv.some _ (by omega),Zv.free _ (by omega)⟩
 have hs1:=CG (vs:=u3) (k:=k*10) Zv (by rw[hl3];omega)
 obtain⟨W1,hW1⟩:∃ W1,W1=w.drew.setCells g (off+k*10) u3:=⟨_,rfl⟩;rw[← hW1] at hs1
 have hcl:∀ ty,(Builtin.clear_ #[26] ty #[.slice (some ⟨g,off+(k+(n-(k+1)))*10,none⟩) (n-(k+(n-(k+1)))) (c-(k+(n-(k+1))))]).run Tryz.prog W1=.ok (.tuple #[]) (W1.setCells g (off+(k+(n-(k+1)))*10) Iu) :=
  fun ty=>by
  rw[show k+(n-(k+1))=n-1 by omega,show n-(n-1)=1 by omega]
  exact IW W1 _ 68 ty _ Iu t0 Tryz.zeroValue68 (by kernel_rfl) (by decide) g _ _ (fun j hj=>by have hj:j<10:=hj;rw[Nat.add_assoc];exact hs1.some _ (by omega)) (fun j hj=>by have hj:j<10:=hj;rw[Nat.add_assoc];exact hs1.free _ (by omega))
 have hW:=aj hW1;have q1:(0:Int)≤(k:Int):=by omega
 have q2:(k:Int)≤(k:Int)+1:=by omega
 have q3:(k:Int)+1≤(n:Int):=by omega
 have q4:(n:Int)≤(c:Int):=by omega
 have q5:(k:Int)≤(c:Int):=by omega
 have q6:((k:Int)==(k:Int)+1)=false:=by rw[beq_eq_false_iff_ne];omega
 have q7:(0:Int)≤(k:Int)+1:=by omega
 have eT:((k:Int)+1).toNat=k+1:=by omega
 have H3:Hid (u3.length=(n-(k+1))*10∧∀ v∈u3,v.oneCell'=true):=⟨hl3,ho3⟩;clear hW1 hs1 Zv hO h3 hl3 ho3;go_enter Tryz.func159,Tryz.ntmps159
 go_wp2_with fail
 go_region_law_o (refine step_append_room rfl (.tmp 22) (.tmp 25) 26 rfl 68 i0 10 t0 hi0 hz1 g off k c (by simp[Act.eval,Act.put]) A (n-(k+1)) (c-(k+1)) u3 (by simp[Act.eval,Act.put]) H3.out.1 hsrc.out H3.out.2 (by omega) s3.out ?_;rw[← hW.out])
 go_wp2;go_ret
 exact⟨by rw[show n-1=k+(n-(k+1)) by omega];rfl,by rw[hW.out,show k+(n-(k+1))=n-1 by omega]⟩
def BU (w:World) (g o:Nat) (x:Ml) (A:Ra):Prop:=∀ i y,(xI x A).toList[i]?=some y→w.cell? ⟨g,o+i,none⟩=some y
theorem BU.below {w w':World} {g o:Nat} {x:Ml} {A:Ra} (h:BU w g o x A) (hb:Below w.heap.size w w'):BU w' g o x A:=fun i y hy=>(hb.cell (World.block_lt_of_cell? _ _ (h i y hy))).trans (h i y hy)
theorem af0 (a b:Int) (p1 p2:Nat) (q:Ml) (A:Ra) (X:World) (h1:X.cell? ⟨p1,0,none⟩=some (.int .i64 a)) (h2:X.cell? ⟨p2,0,none⟩=some (.int .i64 b)) :
  Calls Tryz.prog 158 #[.agg #[.int .i64 q.fr,.int .i64 q.to,.int .i64 q.row.ver,.slice A.ta q.row.txt.length A.tc,.slice A.ga q.row.got.length A.gc,.slice A.sa q.row.ak.length A.sc,.bool q.row.wed,.bool q.row.aB,.int .i64 q.row.aC,.slice A.ma q.row.aA.length A.mc],.pointer (some ⟨p1,0,none⟩),.pointer (some ⟨p2,0,none⟩)] X fun e w'=>e=.returned (.bool (decide (q.fr=a∧q.to=b)))∧Below X.heap.size X w':=by
 have hb:=aF X (.cells #[.int .i64 q.fr,.int .i64 q.to,.int .i64 q.row.ver,.slice A.ta q.row.txt.length A.tc,.slice A.ga q.row.got.length A.gc,.slice A.sa q.row.ak.length A.sc,.bool q.row.wed,.bool q.row.aB,.int .i64 q.row.aC,.slice A.ma q.row.aA.length A.mc] 68);have hx:=Bx.new X 68 #[.int .i64 q.fr,.int .i64 q.to,.int .i64 q.row.ver,.slice A.ta q.row.txt.length A.tc,.slice A.ga q.row.got.length A.gc,.slice A.sa q.row.ak.length A.sc,.bool q.row.wed,.bool q.row.aB,.int .i64 q.row.aC,.slice A.ma q.row.aA.length A.mc];obtain⟨⟨y0,y1,y2,y3,y4⟩,y5,y6,y7,y8,y9⟩:=Bx.yC hx;have k1:=(hb.cell (World.block_lt_of_cell? _ _ h1)).trans h1;have k2:=(hb.cell (World.block_lt_of_cell? _ _ h2)).trans h2;have HB:=aj hb;clear h1 h2 hx hb;by_cases e1:q.fr=a
 ·have g1:(q.fr==a)=true:=by simpa using e1
  by_cases e2:q.to=b
  ·have g2:(q.to==b)=true:=by simpa using e2
   have HR:Hid (decide (q.fr=a∧q.to=b)=true):=decide_eq_true ⟨e1,e2⟩;clear e1 e2;go_enter Tryz.func158,Tryz.ntmps158
   go_wp2;go_ret
   exact⟨aH (by rw[HR.out]),HB.out⟩
  ·have g2:(q.to==b)=false:=by simpa using e2
   have HR:Hid (decide (q.fr=a∧q.to=b)=false):=decide_eq_false (fun h=>e2 h.2)
   clear e1 e2;go_enter Tryz.func158,Tryz.ntmps158
   go_wp2;go_ret
   exact⟨aH (by rw[HR.out]),HB.out⟩
 ·have g1:(q.fr==a)=false:=by simpa using e1
  have HR:Hid (decide (q.fr=a∧q.to=b)=false):=decide_eq_false (fun h=>e1 h.1)
  clear e1;go_enter Tryz.func158,Tryz.ntmps158
  go_wp2;go_ret
  exact⟨aH (by rw[HR.out]),HB.out⟩
def BX (g:Gr) (x:Ac):Int:=match g.aG.findIdx? (mQ x) with|some i=>(i:Int)|none=>-1
theorem af2 (p1 p2:Nat) (la:Option Addr) (c:Nat) (g:Gr) (x:Ac) (w:World) (h1:w.cell? ⟨p1,0,none⟩=some (.int .i64 x.a)) (h2:w.cell? ⟨p2,0,none⟩=some (.int .i64 x.b)) (hm:g.aG.length≤1000000)
  (hc:0<g.aG.length→∃ lb lo,la=some ⟨lb,lo,none⟩∧∀ k,k<g.aG.length→∃ A,BU w lb (lo+k*10) (aU g k) A) :
  Calls Tryz.prog 157 #[.slice la g.aG.length c,.func (.func 158) #[] #[.pointer (some ⟨p1,0,none⟩),.pointer (some ⟨p2,0,none⟩)]] w fun e w'=>e=.returned (.int .i64 (BX g x))∧Below w.heap.size w w':=by
 have hE:∀ (args:Array Value) (w:World),(callFunc 158 args).run Tryz.prog w=.ok (.enter 158 args) w:=fun _ _=>enters_of Tryz.func158 (by kernel_rfl) rfl _ _
 have HC:Hid (∀ k,k<g.aG.length→∃ lb lo,la=some ⟨lb,lo,none⟩∧∃ A,BU w lb (lo+k*10) (aU g k) A):=fun k hk=>by
  obtain⟨lb,lo,e,h⟩:=hc (by omega)
  exact⟨lb,lo,e,h k hk⟩
 have HP:Hid (w.cell? ⟨p1,0,none⟩=some (.int .i64 x.a)∧w.cell? ⟨p2,0,none⟩=some (.int .i64 x.b)):=⟨h1,h2⟩;clear hc h1 h2;go_enter Tryz.func157,Tryz.ntmps157
 go_wp2
 go_loopw [8] (fun i wr=>∃ k:Nat,k≤g.aG.length∧i=.int .i64 (k:Int)∧(∀ j,j<k→mQ x (aU g j)=false)∧Below w.heap.size w wr) (fun i _=>g.aG.length-(intOf i).toNat)
 case atStart=>exact⟨0,Nat.zero_le _,rfl,fun j hj=>by omega,Below.refl _ _⟩
 case round =>
  obtain⟨k,hk,rfl,hall,hgr⟩:=hrel;have HA:=aj hall;have HG:=aj hgr;clear hall;by_cases hlt:k<g.aG.length
  ·obtain⟨lb,lo,rfl,A,hA⟩:=HC.out k hlt
   have hA':=hA.below hgr
   have HX:Hid (BX g x=if mQ x (aU g k)=true then (k:Int) else BX g x):=by
    by_cases e:mQ x (aU g k)=true
    ·rw[Hid,if_pos e,BX,Fh hlt HA.out e]
    ·rw[Hid,if_neg e]
   have HK:Hid (mQ x (aU g k)=false→∀ j,j<k+1→mQ x (aU g j)=false):=fun h j hj=>by
    by_cases e:j=k
    ·subst e;exact h
    ·exact HA.out j (by omega)
   have t1:=(hgr.cell (World.block_lt_of_cell? _ _ HP.out.1)).trans HP.out.1;have t2:=(hgr.cell (World.block_lt_of_cell? _ _ HP.out.2)).trans HP.out.2;have hFk:=af0 x.a x.b p1 p2 (aU g k) A wr t1 t2;have c0:=hA' 0 _ rfl;have c1:=hA' 1 _ rfl;have c2:=hA' 2 _ rfl;have c3:=hA' 3 _ rfl;have c4:=hA' 4 _ rfl;have c5:=hA' 5 _ rfl;have c6:=hA' 6 _ rfl;have c7:=hA' 7 _ rfl;have c8:=hA' 8 _ rfl;have c9:=hA' 9 _ rfl;simp only[Nat.add_zero] at c0;have HM:Hid (decide ((aU g k).fr=x.a∧(aU g k).to=x.b)=mQ x (aU g k)):=rfl;have k1:(k:Int)<(g.aG.length:Int):=by omega
   have k0:(0:Int)≤(k:Int):=by omega
   clear hgr hA hA' t1 t2;rw[HM.out] at hFk;go_wp2_with fail
   refine hFk.mono ?_;rintro e w1 ⟨rfl,hg1⟩;have kU:=aj (HG.out.trans (hg1.mono HG.out.size));clear hg1 c0 c1 c2 c3 c4 c5 c6 c7 c8 c9
   cases hp:mQ x (aU g k) with
   | true =>
    have HR:Hid (BX g x=(k:Int)):=by rw[Hid,HX.out,if_pos hp]
    clear hp;go_wp2;go_ret
    exact⟨by rw[HR.out];rfl,kU.out⟩
   | false =>
    have HR:=aj (HK.out hp);clear hp;go_wp2;go_roundw
    case rel=>exact⟨k+1,by omega,by go_num,HR.out,kU.out⟩
    case measure=>simp[intOf];omega
  ·have k1:¬ ((k:Int)<(g.aG.length:Int)):=by omega
   have HR:Hid (BX g x=-1):=by rw[Hid,BX,Ii (fun j hj=>HA.out j (by omega))]
   clear hgr;go_wp2;go_ret
   exact⟨by rw[HR.out];rfl,HG.out⟩
def BZ (g:Gr) (x:Ac):Gr×Bool:=match g.aG.findIdx? (mQ x) with|some i=>(iU g i,true)|none=>(g,false)
theorem af4 {g : Gr} {n i : Nat} (ok : OkG g n) : OkG { g with aG := g.aG.take i ++ g.aG.drop (i + 1) } n := ⟨ok.n5,ok.ml,ok.ul,by have := ok.lX;simp only [List.length_append,List.length_take,List.length_drop];omega,ok.mem,fun x hx => ok.iP x (by
 rcases List.mem_append.1 hx with h|h
 ·exact List.mem_of_mem_take h
 ·exact List.mem_of_mem_drop h)⟩
theorem Uj {g:Gr} {i:Nat}:iU g i=zJ { g with aG:=g.aG.take i++g.aG.drop (i+1) } (aU g i):=rfl
theorem LY {w:World} {g:Gr} {la:Option Addr} {lc:Nat} {f:Fp} (how:aI.ow w (dA 10 gZ g.aG) (.slice la g.aG.length lc) f) (h0:0<g.aG.length):∃ lb lo,la=some ⟨lb,lo,none⟩∧∀ k,k<g.aG.length→∃ A,BU w lb (lo+k*10) (aU g k) A:=by
 have H:∀ k,k<g.aG.length→∃ lb lo,la=some ⟨lb,lo,none⟩∧∃ A,BU w lb (lo+k*10) (aU g k) A:=fun k hk=>by
  obtain⟨lb,lo,lc',u1,u2,u3,f1,f2,f3,e,_,_,_,_,_,_,l1,l2,l3,_,_,_,k1,k2,k3⟩:=NW kK how (lK hk)
  cases e
  obtain⟨A,rfl,_⟩:=Gi l2;exact⟨lb,lo,rfl,A,k2⟩
 obtain⟨lb,lo,e,_⟩:=H 0 h0;refine⟨lb,lo,e,fun k hk=>?_⟩
 obtain⟨lb',lo',e',h⟩:=H k hk;rw[e] at e'
 cases e'
 exact h
theorem af5 (B:Nat) (g:Gr) (n a b:Nat) (x:Ac) (ea:x.a=(a:Int)) (eb:x.b=(b:Int)) (fp:Fp) (w:World) (h:dN w B 0 (dB g) fp) (ok:OkG g n) (ha:a<n) (hb:b<n) :
  Calls Tryz.prog 125 #[.pointer (some ⟨B,0,none⟩),.int .i64 (a:Int),.int .i64 (b:Int)] w fun e w'=>e=.returned (.bool (BZ g x).2)∧bC w w' B 0 (dB (BZ g x).1) fp:=by
 have hmf:∀ (fn:Fn) (first cap:Array Value) (w:World),(Instr.makeFunc fn first cap).run Tryz.prog w=.ok (.func fn first cap) w:=fun _ _ _ _=>rfl
 have Bd:=ok.lX;obtain⟨bb,off,c,G0⟩:=Gw.start h (by rw[ok.ml];have:=ok.n5;omega)
 obtain⟨u,f,f0,hu,hfz,how,hfB,hBl,hfl,hmem,hap,hput⟩:=G0.full;have how':=how;obtain⟨la,lc,_,_,_,rfl,_⟩:=how';simp only[Nat.zero_add] at hu;have hB1:=aF w (.cells #[.int .i64 (a:Int)] 2);have hB2:=hB1.trans ((aF (w.alloc (.cells #[.int .i64 (a:Int)] 2)) (.cells #[.int .i64 (b:Int)] 2)).mono hB1.size);have hx1:=(Bx.new w 2 #[.int .i64 (a:Int)]).alloc (.cells #[.int .i64 (b:Int)] 2)
 have hx2:Bx ((w.alloc (.cells #[.int .i64 (a:Int)] 2)).alloc (.cells #[.int .i64 (b:Int)] 2)) (w.heap.size+1) 2 #[.int .i64 (b:Int)]:=by
  have:=Bx.new (w.alloc (.cells #[.int .i64 (a:Int)] 2)) 2 #[.int .i64 (b:Int)];try simp only[World.size_alloc] at this
  exact this
 have t1:=hx1.at 0 rfl;have t2:=hx2.at 0 rfl
 have hIx := af2 w.heap.size (w.heap.size + 1) la lc g x ((w.alloc (.cells #[.int .i64 (a : Int)] 2)).alloc (.cells #[.int .i64 (b : Int)] 2)) (by rw [ea];exact t1) (by rw [eb];exact t2) (by omega) (fun h0 => by
  obtain⟨lb,lo,e,hA⟩:=LY how h0
  exact ⟨lb,lo,e,fun k hk => by
   obtain⟨A,hA⟩:=hA k hk;exact⟨A,hA.below hB2⟩⟩)
 have HB2:=aj hB2;have hu2:=(hB2.cell (World.block_lt_of_cell? _ _ hu)).trans hu;have mP:=aj G0;have cO:=aj ok;have wH:=aj hput;have HU:=aj hu;have kL:=aj how;have HF:Hid (¬ f B∧B<w.heap.size∧∀ b,f b→b<w.heap.size):=⟨hfB,hBl,hfl⟩;clear hput how hfl hap hmem h hfB hBl G0 ok hB1 hB2 hx1 hx2 t1 t2 hu hfz
 cases hfi:g.aG.findIdx? (mQ x) with
 | none =>
  have HX:Hid (BX g x=-1):=by rw[Hid,BX,hfi]
  have HZ:Hid (BZ g x=(g,false)):=by rw[Hid,BZ,hfi]
  rw[HX.out] at hIx;clear hfi;go_enter Tryz.func125,Tryz.ntmps125
  go_wp2_with fail
  refine hIx.mono ?_;rintro e w1 ⟨rfl,hg1⟩;have kU:=aj (mP.out.step (HB2.out.trans (hg1.mono HB2.out.size)));clear hg1 hu2;go_wp2;go_ret
  exact⟨aH (by rw[HZ.out]),by rw[HZ.out];exact kU.out.bU⟩
 | some i =>
  have HX:Hid (BX g x=(i:Int)):=by rw[Hid,BX,hfi]
  rw[HX.out] at hIx;obtain⟨hil,hpi,_⟩:=List.findIdx?_eq_some_iff_getElem.1 hfi;have Lu:mQ x (aU g i)=true:=by simpa[aU,List.getD,hil] using hpi
  obtain⟨lb,lo,rfl,_⟩:=LY kL.out (by omega)
  obtain⟨us,u2,u3,f2,hfb,hlc,hlm,hs2,l2,k2,k3,hl3,ho3,hO,hD⟩:=ae8 kL.out (lK hil) (Z:=Iu) rfl;obtain⟨A,rfl,N9⟩:=Gi l2;obtain⟨_,_,m1,m2,_,_,_,R⟩:=cO.out.iP _ (List.mem_of_getElem? (lK hil));clear m1 m2;have HZ:Hid (BZ g x=(zJ { g with aG:=g.aG.take i++g.aG.drop (i+1) } (aU g i),true)):=by rw[Hid,BZ,hfi,← Uj]
  clear hfi hpi;generalize aU g i=y at *;obtain⟨fr,tt,r⟩:=y;simp only[mQ,decide_eq_true_eq] at Lu;obtain⟨e1,e2⟩:=Lu;rw[ea] at e1;rw[eb] at e2;subst e1 e2;have HK2:=aj k2;have HK3:=aj k3;have HO:Hid (fA w 10 lb lo g.aG.length lc us∧u3.length=(g.aG.length-(i+1))*10∧(∀ v∈u3,v.oneCell'=true)∧g.aG.length≤lc∧lc≤maxLen∧f lb):=⟨hO,hl3,ho3,hlc,hlm,hfb⟩;have HD:=aj hD;have HL2:Hid (bG w (fM r) (fC A r) f2∧∀ b,f2 b→f b∧b≠lb):=⟨N9,hs2⟩;have HR:=aj R;have i0:(0:Int)≤(i:Int):=by omega
  have i1:(i:Int)<(g.aG.length:Int):=by omega
  have i2:¬ ((i:Int)<0):=by omega
  have hwi:IntKind.i64.wrap ((i:Int)+1)=(i:Int)+1:=wrap_one (by omega)
  clear k2 k3 hO hl3 ho3 hlc hlm hfb hD l2 N9 hs2 R;go_enter Tryz.func125,Tryz.ntmps125
  go_wp2_with fail
  refine hIx.mono ?_;rintro e w1 ⟨rfl,hg1⟩;have HB:=aj (HB2.out.trans (hg1.mono HB2.out.size));have c0:=(HB.out.cell (World.block_lt_of_cell? _ _ HU.out)).trans HU.out;have hA:=BU.below (w:=w) HK2.out HB.out;have x0:=hA 0 _ rfl;have x1:=hA 1 _ rfl;have x2:=hA 2 _ rfl;have x3:=hA 3 _ rfl;have x4:=hA 4 _ rfl;have x5:=hA 5 _ rfl;have x6:=hA 6 _ rfl;have x7:=hA 7 _ rfl;have x8:=hA 8 _ rfl;have x9:=hA 9 _ rfl;simp only[Nat.add_zero] at x0;have hb3:=aF w1 (.cells #[.int .i64 (a:Int),.int .i64 (b:Int),.int .i64 r.ver,.slice A.ta r.txt.length A.tc,.slice A.ga r.got.length A.gc,.slice A.sa r.ak.length A.sc,.bool r.wed,.bool r.aB,.int .i64 r.aC,.slice A.ma r.aA.length A.mc] 68);have hB3:=HB.out.trans (hb3.mono HB.out.size);have BR:=aj (Bx.new w1 68 #[.int .i64 (a:Int),.int .i64 (b:Int),.int .i64 r.ver,.slice A.ta r.txt.length A.tc,.slice A.ga r.got.length A.gc,.slice A.sa r.ak.length A.sc,.bool r.wed,.bool r.aB,.int .i64 r.aC,.slice A.ma r.aA.length A.mc]);have c3:=(hB3.cell (World.block_lt_of_cell? _ _ HU.out)).trans HU.out;have hDl:=ae9 g.aG.length lb lo lc i us u3 (w1.alloc (.cells #[.int .i64 (a:Int),.int .i64 (b:Int),.int .i64 r.ver,.slice A.ta r.txt.length A.tc,.slice A.ga r.got.length A.gc,.slice A.sa r.ak.length A.sc,.bool r.wed,.bool r.aB,.int .i64 r.aC,.slice A.ma r.aA.length A.mc] 68)) hil HO.out.2.2.2.1 HO.out.2.2.2.2.1 (fun j y hy=>(hB3.cell (World.block_lt_of_cell? _ _ (HK3.out j y hy))).trans (HK3.out j y hy)) HO.out.2.1 HO.out.2.2.1 (HO.out.1.below hB3 HO.out.1.blk) (by omega)
  have HB3:=aj hB3;clear hu2 hA hB3 hb3 hg1 hIx;go_wp2_with fail
  refine hDl.mono ?_;clear hDl c0 c3 x0 x1 x2 x3 x4 x5 x6 x7 x8 x9;generalize w1.alloc (.cells #[.int .i64 (a:Int),.int .i64 (b:Int),.int .i64 r.ver,.slice A.ta r.txt.length A.tc,.slice A.ga r.got.length A.gc,.slice A.sa r.ak.length A.sc,.bool r.wed,.bool r.aB,.int .i64 r.aC,.slice A.ma r.aA.length A.mc] 68)=W3 at *;rintro e w4 ⟨rfl,rfl⟩;have hdb:=HB3.out.trans ((Same.drewN W3 1).below.mono HB3.out.size);obtain⟨f',yA,hf2⟩:=HD.out W3.drew hdb;have hw3:aO (fun b=>b=lb) W3.drew ((W3.drew.setCells lb (lo+i*10) u3).setCells lb (lo+(g.aG.length-1)*10) Iu):=(aO.setCells lb _ _ _).trans (aO.setCells lb _ _ _) (fun _ _ h=>h)
  have Sz:Hid (Bx ((W3.drew.setCells lb (lo+i*10) u3).setCells lb (lo+(g.aG.length-1)*10) Iu) w1.heap.size 68 #[.int .i64 (a:Int),.int .i64 (b:Int),.int .i64 r.ver,.slice A.ta r.txt.length A.tc,.slice A.ga r.got.length A.gc,.slice A.sa r.ak.length A.sc,.bool r.wed,.bool r.aB,.int .i64 r.aC,.slice A.ma r.aA.length A.mc]):=(BR.out.below (Same.drewN W3 1).below).wrt hw3 (fun h=>by have:=HF.out.2.2 lb HO.out.2.2.2.2.2;have:=HB.out.size;omega)
  have l4:=bP (bM HL2.out.1 hdb) hw3 (fun b hb e=>(HL2.out.2 b hb).2 e)
  have hww:aO f w ((W3.drew.setCells lb (lo+i*10) u3).setCells lb (lo+(g.aG.length-1)*10) Iu):=(aO.of_below (f:=f) hdb).trans hw3 (fun b _ h=>h ▸ HO.out.2.2.2.2.2)
  generalize ((W3.drew.setCells lb (lo+i*10) u3).setCells lb (lo+(g.aG.length-1)*10) Iu)=W4 at *;obtain⟨q1,q2,hG⟩:=wH.out W4 _ _ f' hww yA (fun b hb=>.inl (hf2 b hb).1)
  simp only[Nat.zero_add] at q1 q2 hG;have BA:=Sz.out.far (g:=B) (i:=2) (by have:=HF.out.2.1;have:=HB.out.size;omega) (.slice (some ⟨lb,lo,none⟩) (g.aG.length-1) lc)
  have hRp:iM (W4.setCell ⟨B,2,none⟩ (.slice (some ⟨lb,lo,none⟩) (g.aG.length-1) lc)) A r:=by
   have o2:=bP l4 (aO.set W4 B 2 (.slice (some ⟨lb,lo,none⟩) (g.aG.length-1) lc)) (fun b hb e=>HF.out.1 (e ▸ (HL2.out.2 b hb).1))
   have r64:=OT HR.out;exact yI (wP o2 (lo:=0) (fun b _=>Nat.zero_le b)) HR.out.fit r64.1 (by have:=r64.2;omega)
  obtain⟨dD,hp,_,hgo⟩:=hG.bU.next;have hHe:=ae7 B { g with aG:=g.aG.take i++g.aG.drop (i+1) } n a b r A dD _ hp (af4 cO.out) hb ha hRp
  have DR:=aj hgo;obtain⟨⟨y0,y1,y2,y3,y4⟩,y5,y6,y7,y8,y9⟩:=Bx.yC BA;clear hgo hp hG hRp BA l4 hww hw3 yA hf2 hdb;go_wp2_with fail
  refine hHe.mono ?_;rintro e w6 ⟨rfl,hb6⟩;have vg:Hid (bC w w6 B 0 (dB (zJ { g with aG:=g.aG.take i++g.aG.drop (i+1) } ⟨(a:Int),(b:Int),r⟩)) fp):=DR.out _ _ rfl hb6
  clear hb6 hHe y0 y1 y2 y3 y4 y5 y6 y7 y8 y9 q1 q2;go_wp2;go_ret
  exact⟨aH (by rw[HZ.out]),by rw[HZ.out];exact vg.out⟩
end Go.Proofs.YtafimeakbdmkjaaGreat