/-
  Texts in one: Pgb Qaa Avg Lsq Irs Cln Nmq Nmr Qab.
-/
import Derived.Test.YtlnmdfgcpfbleaaJag
import Derived.Test.YtlnmdfgcpfbleaaJaf
import Derived.Test.YtlnmdfgcpfbleaaJaa
import Derived.Test.YtlnmdfgcpfbleaaJad
import Derived.Test.YtlnmdfgcpfbleaaJab
import Derived.Test.YtlnmdfgcpfbleaaJac
import Derived.Laws.IdiomCopy
import Derived.Shelf.Strconv.Clone
import Derived.Shelf.SlGeneric
namespace Go.Proofs.Ytlnmdfgcpfbleaa
set_option linter.unusedVariables false
set_option linter.unusedSimpArgs false
open Go.RowKit Go.Sort
theorem Bx.r10p {w : World} {B : Nat} {T : TypeId} {x0 x1 x2 x3 x4 x5 x6 x7 x8 x9 : Value} (h : Bx w B T #[x0,x1,x2,x3,x4,x5,x6,x7,x8,x9]) : (w.cell? ⟨B,0,none⟩ = some x0 ∧ w.cell? ⟨B,1,none⟩ = some x1 ∧ w.cell? ⟨B,2,none⟩ = some x2 ∧ w.cell? ⟨B,3,none⟩ = some x3 ∧ w.cell? ⟨B,4,none⟩ = some x4) ∧ w.cell? ⟨B,5,none⟩ = some x5 ∧ w.cell? ⟨B,6,none⟩ = some x6 ∧ w.cell? ⟨B,7,none⟩ = some x7 ∧ w.cell? ⟨B,8,none⟩ = some x8 ∧ w.cell? ⟨B,9,none⟩ = some x9 :=
 ⟨⟨h.at 0 rfl,h.at 1 rfl,h.at 2 rfl,h.at 3 rfl,h.at 4 rfl⟩,h.at 5 rfl,h.at 6 rfl,h.at 7 rfl,h.at 8 rfl,h.at 9 rfl⟩
theorem okMl_split (x : Ml) (n : Int) : okMl x n = (belN n [x.fr,x.to] && okRw x.row n) := by
 rw [belN_two,okMl]
 cases inB x.fr 0 (n - 1) <;> cases inB x.to 0 (n - 1) <;> simp
theorem vec_pair (w : World) (x y : Int) (hx : I64v x) (hy : I64v y) : Vec (w.alloc (.cells #[.int .i64 x,.int .i64 y] 2)) (some ⟨w.heap.size,0,none⟩) [x,y].length [x,y] := by
 refine ⟨rfl,fun z hz => ?_,.inr ⟨w.heap.size,0,rfl,fun k hk => ?_⟩⟩
 ·rcases List.mem_cons.1 hz with h | h
  ·rw [h];exact hx
  ·rw [List.mem_singleton.1 h];exact hy
 ·have hb := Bx.new w 2 #[.int .i64 x,.int .i64 y]
  match k,hk with
  | 0,_ => exact hb.at 0 rfl
  | 1,_ => exact hb.at 1 rfl
set_option maxRecDepth 100000 in
set_option maxHeartbeats 3200000 in
theorem gokI_any (A : Ga) (g : Gr) (w : World) (hv : GrP w A g) :
  Calls Try.prog 98 #[grV A g] w fun e w' => e = .returned (.bool (okGr g)) ∧ Below w.heap.size w w' := by
 have hb0 := oneA16 w (.cells #[.slice A.ma g.mem.length A.mc,.slice A.ua g.up.length A.uc,.slice A.la g.mail.length A.lc] 61)
 have hx0 := Bx.new w 61 #[.slice A.ma g.mem.length A.mc,.slice A.ua g.up.length A.uc,.slice A.la g.mail.length A.lc]
 have HV : Hid (GrP (w.alloc (.cells #[.slice A.ma g.mem.length A.mc,.slice A.ua g.up.length A.uc,.slice A.la g.mail.length A.lc] 61)) A g) := hv.below hb0
 have HX : Hid (Bx (w.alloc (.cells #[.slice A.ma g.mem.length A.mc,.slice A.ua g.up.length A.uc,.slice A.la g.mail.length A.lc] 61)) w.heap.size 61 #[.slice A.ma g.mem.length A.mc,.slice A.ua g.up.length A.uc,.slice A.la g.mail.length A.lc]) := hx0
 have HB0 : Hid (Below w.heap.size w (w.alloc (.cells #[.slice A.ma g.mem.length A.mc,.slice A.ua g.up.length A.uc,.slice A.la g.mail.length A.lc] 61))) := hb0
 have hI := isRl_any (g.mem.length : Int) (w.alloc (.cells #[.slice A.ma g.mem.length A.mc,.slice A.ua g.up.length A.uc,.slice A.la g.mail.length A.lc] 61))
 have hgs := hv.grs
 have hlm := hgs.lm
 have hlu := hgs.lu
 have hll := hgs.ll
 unfold maxLen at hlm hlu hll
 obtain ⟨c0,c1,c2⟩ := Bx.g3 hx0
 unfold grV grC
 clear hv hb0 hx0 hgs
 by_cases hn : inB (g.mem.length : Int) 1 5 = true
 rotate_left
 ·have hn' : inB (g.mem.length : Int) 1 5 = false := by simpa using hn
  have HZ : Hid (okGr g = false) := by
   by_cases h1 : 1 ≤ g.mem.length
   ·exact okGr_2 (fun h2 => hn (inB7.2 ⟨by omega,by omega⟩))
   ·exact okGr_1 h1
  rw [hn'] at hI
  clear hn hn'
  go_enter Try.func98,Try.ntmps98
  go_upto_region 1 with fail
  generalize w.alloc (.cells #[.slice A.ma g.mem.length A.mc,.slice A.ua g.up.length A.uc,.slice A.la g.mail.length A.lc] 61) = W0 at *
  go_wp2_with (go_at_call 84;refine hI.mono ?_;rintro e w' ⟨rfl,hw'⟩;rw [hw'];clear hw')
  go_ret
  exact ⟨ret_bool (by rw [HZ.out]),HB0.out⟩
 rw [hn] at hI
 have hn5 := inB7.1 hn
 clear hn
 by_cases hu : g.up.length = g.mem.length
 rotate_left
 ·have HZ : Hid (okGr g = false) := okGr_3 hu
  have e1 : ((g.up.length : Int) != (g.mem.length : Int)) = true := by simp;omega
  clear hu
  go_enter Try.func98,Try.ntmps98
  go_upto_region 1 with fail
  generalize w.alloc (.cells #[.slice A.ma g.mem.length A.mc,.slice A.ua g.up.length A.uc,.slice A.la g.mail.length A.lc] 61) = W0 at *
  go_wp2_with (go_at_call 84;refine hI.mono ?_;rintro e w' ⟨rfl,hw'⟩;rw [hw'];clear hw')
  go_ret
  exact ⟨ret_bool (by rw [HZ.out]),HB0.out⟩
 have e1 : ((g.up.length : Int) != (g.mem.length : Int)) = false := by simp;omega
 have HU : Hid (g.up.length = g.mem.length) := hu
 clear hu
 by_cases hm : g.mail.length ≤ 200
 rotate_left
 ·have HZ : Hid (okGr g = false) := okGr_4 hm
  have e2 : (g.mail.length : Int) > 200 := by omega
  clear hm
  go_enter Try.func98,Try.ntmps98
  go_upto_region 1 with fail
  generalize w.alloc (.cells #[.slice A.ma g.mem.length A.mc,.slice A.ua g.up.length A.uc,.slice A.la g.mail.length A.lc] 61) = W0 at *
  go_wp2_with (go_at_call 84;refine hI.mono ?_;rintro e w' ⟨rfl,hw'⟩;rw [hw'];clear hw')
  go_ret
  exact ⟨ret_bool (by rw [HZ.out]),HB0.out⟩
 have e2 : ¬ (g.mail.length : Int) > 200 := by omega
 go_enter Try.func98,Try.ntmps98
 go_upto_region 1 with fail
 generalize w.alloc (.cells #[.slice A.ma g.mem.length A.mc,.slice A.ua g.up.length A.uc,.slice A.la g.mail.length A.lc] 61) = W0 at *
 go_wp2_with (go_at_call 84;refine hI.mono ?_;rintro e w' ⟨rfl,hw'⟩;rw [hw'];clear hw')
 clear c0 c1 c2 hI e1 e2
 go_loopw [32] (fun v wr => ∃ k : Nat,k ≤ g.mem.length ∧ v = .int .i64 (k : Int) ∧ Hid (∀ j,j < k → oneMb g j = true) ∧ Below W0.heap.size W0 wr) (fun v _ => g.mem.length - (intOf v).toNat)
 case atStart => exact ⟨0,Nat.zero_le _,rfl,fun j hj => by omega,Below.refl _ _⟩
 case round =>
  obtain ⟨k,hk,rfl,HA,hb⟩ := hrel
  have HB : Hid (Below W0.heap.size W0 wr) := hb
  by_cases hlt : k < g.mem.length
  ·obtain ⟨bb,off,Ak,hma,⟨d0,d1,d2,d3,d4⟩,hmp⟩ := (HV.out.below hb).member hlt
   have HF : Hid (oneMb g k = false → okGr g = false) := fun h => okGr_5 hlt h
   have HT : Hid (oneMb g k = true → ∀ j,j < k + 1 → oneMb g j = true) := fun h j hj => by
    rcases Nat.lt_succ_iff_lt_or_eq.1 hj with h1 | h1
    ·exact HA.out j h1
    ·rw [h1];exact h
   have HO : Hid (oneMb g k = (okMb (memN g k) && (decide ((memN g k).id = (k : Int)) && decide ((memN g k).n = (g.mem.length : Int))))) := rfl
   have k1 : (k : Int) < (g.mem.length : Int) := by omega
   have k0 : (0 : Int) ≤ (k : Int) := by omega
   generalize oneMb g k = on at *
   generalize memN g k = m at *
   rw [hma]
   have HMa : Hid (A.ma = some ⟨bb,off,none⟩) := hma
   have hba := oneA16 wr (.cells #[.int .i64 m.id,.int .i64 m.n,.slice Ak.ra m.rows.length Ak.rc,.slice Ak.sa m.sung.length Ak.sc,.bool m.done] 103)
   have hxm := Bx.new wr 103 #[.int .i64 m.id,.int .i64 m.n,.slice Ak.ra m.rows.length Ak.rc,.slice Ak.sa m.sung.length Ak.sc,.bool m.done]
   have HBa : Hid (Below W0.heap.size W0 (wr.alloc (.cells #[.int .i64 m.id,.int .i64 m.n,.slice Ak.ra m.rows.length Ak.rc,.slice Ak.sa m.sung.length Ak.sc,.bool m.done] 103))) := HB.out.trans (hba.mono HB.out.size)
   have hMk := memI_any Ak m (wr.alloc (.cells #[.int .i64 m.id,.int .i64 m.n,.slice Ak.ra m.rows.length Ak.rc,.slice Ak.sa m.sung.length Ak.sc,.bool m.done] 103)) (hmp.below hba)
   unfold mbV mbC at hMk
   obtain ⟨y0,y1,y2,y3,y4⟩ := Bx.r5 hxm
   clear hmp hb hba hxm hma
   go_upto_region 7 with fail
   clear d0 d1 d2 d3 d4
   generalize wr.alloc (.cells #[.int .i64 m.id,.int .i64 m.n,.slice Ak.ra m.rows.length Ak.rc,.slice Ak.sa m.sung.length Ak.sc,.bool m.done] 103) = W5 at *
   by_cases q1 : m.id = (k : Int)
   rotate_left
   ·have z1 : (m.id != (k : Int)) = true := by simp [q1]
    have HZ : Hid (okGr g = false) := HF.out (by rw [HO.out,decide_eq_false q1];simp)
    clear HF HT HO q1
    go_wp2_with fail
    go_ret
    exact ⟨ret_bool (by rw [HZ.out]),HB0.out.trans (HBa.out.mono HB0.out.size)⟩
   have z1 : (m.id != (k : Int)) = false := by simp [q1]
   by_cases q2 : m.n = (g.mem.length : Int)
   rotate_left
   ·have z2 : (m.n != (g.mem.length : Int)) = true := by simp [q2]
    have HZ : Hid (okGr g = false) := HF.out (by rw [HO.out,decide_eq_false q2];simp)
    clear HF HT HO q1 q2
    go_wp2_with fail
    go_ret
    exact ⟨ret_bool (by rw [HZ.out]),HB0.out.trans (HBa.out.mono HB0.out.size)⟩
   have z2 : (m.n != (g.mem.length : Int)) = false := by simp [q2]
   have HO2 : Hid (on = okMb m) := by rw [Hid,HO.out,decide_eq_true q1,decide_eq_true q2];simp
   clear HO q1 q2
   generalize okMb m = ob at *
   go_wp2_with fail
   refine hMk.mono ?_
   rintro e w6 ⟨rfl,hb6⟩
   have HB6 : Hid (Below W0.heap.size W0 w6) := HBa.out.trans (hb6.mono HBa.out.size)
   clear hMk hb6 y0 y1 y2 y3 y4 z1 z2
   cases ob with
   | false =>
    have HZ : Hid (okGr g = false) := HF.out HO2.out
    clear HF HT HO2
    go_wp2_with fail
    go_ret
    exact ⟨ret_bool (by rw [HZ.out]),HB0.out.trans (HB6.out.mono HB0.out.size)⟩
   | true =>
    have HZ : Hid (∀ j,j < k + 1 → oneMb g j = true) := HT.out HO2.out
    clear HF HT HO2
    go_wp2_with fail
    go_roundw
    case rel => exact ⟨k + 1,by omega,by go_num,HZ.out,HB6.out⟩
    case measure => simp [intOf];omega
  ·have k1 : ¬ ((k : Int) < (g.mem.length : Int)) := by omega
   have HM : Hid (∀ j,j < g.mem.length → oneMb g j = true) := fun j hj => HA.out j (by omega)
   obtain ⟨c0,c1,c2⟩ := Bx.g3 (HX.out.below hb)
   clear hb HA
   go_wp2_with fail
   clear c0 c1 c2 k1
   generalize wr = V at *
   go_loopw [56] (fun v wr => ∃ k : Nat,k ≤ g.mail.length ∧ v = .int .i64 (k : Int) ∧ Hid (∀ j,j < k → okMl (mailN g j) (g.mem.length : Int) = true) ∧ Below W0.heap.size W0 wr) (fun v _ => g.mail.length - (intOf v).toNat)
   case atStart => exact ⟨0,Nat.zero_le _,rfl,fun j hj => by omega,HB.out⟩
   case round =>
    obtain ⟨k,hk,rfl,HA,hb⟩ := hrel
    have HB2 : Hid (Below W0.heap.size W0 wr) := hb
    by_cases hlt : k < g.mail.length
    ·obtain ⟨bb,off,Ak,hla,d0,d1,⟨⟨d2,d3,d4,d5⟩,d6,d7,d8,d9⟩,hrp⟩ := (HV.out.below hb).letter hlt
     have hx64 := HV.out.i64.2 _ (mailN_mem hlt)
     have HF : Hid (okMl (mailN g k) (g.mem.length : Int) = false → okGr g = false) := fun h => okGr_6 hlt h
     have HT : Hid (okMl (mailN g k) (g.mem.length : Int) = true → ∀ j,j < k + 1 → okMl (mailN g j) (g.mem.length : Int) = true) := fun h j hj => by
      rcases Nat.lt_succ_iff_lt_or_eq.1 hj with h1 | h1
      ·exact HA.out j h1
      ·rw [h1];exact h
     have HO : Hid (okMl (mailN g k) (g.mem.length : Int) = (belN (g.mem.length : Int) [(mailN g k).fr,(mailN g k).to] && okRw (mailN g k).row (g.mem.length : Int))) := okMl_split _ _
     have k1 : (k : Int) < (g.mail.length : Int) := by omega
     have k0 : (0 : Int) ≤ (k : Int) := by omega
     generalize okMl (mailN g k) (g.mem.length : Int) = on at *
     generalize (mailN g k).row = r at *
     generalize (mailN g k).fr = fr at *
     generalize (mailN g k).to = tt at *
     rw [hla]
     have HLa : Hid (A.la = some ⟨bb,off,none⟩) := hla
     have hba := oneA16 wr (.cells #[.int .i64 fr,.int .i64 tt,.int .i64 r.ver,.slice Ak.ta r.txt.length Ak.tc,.slice Ak.ga r.got.length Ak.gc,.slice Ak.sa r.sus.length Ak.sc,.bool r.wed,.bool r.rdy,.int .i64 r.by_,.slice Ak.ma r.trm.length Ak.mc] 139)
     have hxm := Bx.new wr 139 #[.int .i64 fr,.int .i64 tt,.int .i64 r.ver,.slice Ak.ta r.txt.length Ak.tc,.slice Ak.ga r.got.length Ak.gc,.slice Ak.sa r.sus.length Ak.sc,.bool r.wed,.bool r.rdy,.int .i64 r.by_,.slice Ak.ma r.trm.length Ak.mc]
     have HBa : Hid (Below W0.heap.size W0 (wr.alloc (.cells #[.int .i64 fr,.int .i64 tt,.int .i64 r.ver,.slice Ak.ta r.txt.length Ak.tc,.slice Ak.ga r.got.length Ak.gc,.slice Ak.sa r.sus.length Ak.sc,.bool r.wed,.bool r.rdy,.int .i64 r.by_,.slice Ak.ma r.trm.length Ak.mc] 139))) := HB2.out.trans (hba.mono HB2.out.size)
     have hrp5 := hrp.below hba
     have HRp : Hid (RwP (wr.alloc (.cells #[.int .i64 fr,.int .i64 tt,.int .i64 r.ver,.slice Ak.ta r.txt.length Ak.tc,.slice Ak.ga r.got.length Ak.gc,.slice Ak.sa r.sus.length Ak.sc,.bool r.wed,.bool r.rdy,.int .i64 r.by_,.slice Ak.ma r.trm.length Ak.mc] 139)) Ak r) := hrp5
     have HXm : Hid (Bx (wr.alloc (.cells #[.int .i64 fr,.int .i64 tt,.int .i64 r.ver,.slice Ak.ta r.txt.length Ak.tc,.slice Ak.ga r.got.length Ak.gc,.slice Ak.sa r.sus.length Ak.sc,.bool r.wed,.bool r.rdy,.int .i64 r.by_,.slice Ak.ma r.trm.length Ak.mc] 139)) wr.heap.size 139 #[.int .i64 fr,.int .i64 tt,.int .i64 r.ver,.slice Ak.ta r.txt.length Ak.tc,.slice Ak.ga r.got.length Ak.gc,.slice Ak.sa r.sus.length Ak.sc,.bool r.wed,.bool r.rdy,.int .i64 r.by_,.slice Ak.ma r.trm.length Ak.mc]) := hxm
     obtain ⟨⟨y0,y1,_,_,_⟩,_⟩ := Bx.r10p hxm
     clear hrp hrp5 hb hba hxm hla
     go_upto_region 13 with fail
     clear d0 d1 d2 d3 d4 d5 d6 d7 d8 d9
     generalize wr.alloc (.cells #[.int .i64 fr,.int .i64 tt,.int .i64 r.ver,.slice Ak.ta r.txt.length Ak.tc,.slice Ak.ga r.got.length Ak.gc,.slice Ak.sa r.sus.length Ak.sc,.bool r.wed,.bool r.rdy,.int .i64 r.by_,.slice Ak.ma r.trm.length Ak.mc] 139) = W5 at *
     have hb7 := oneA16 W5 (.cells #[.int .i64 fr,.int .i64 tt] 2)
     have hAb := anb_any (g.mem.length : Int) W5.heap.size 0 2 [fr,tt] (W5.alloc (.cells #[.int .i64 fr,.int .i64 tt] 2)) (vec_pair W5 fr tt hx64.1 hx64.2.1) (by simp) (by simp) (by unfold maxLen;omega) (by omega)
     have HB7 : Hid (Below W0.heap.size W0 (W5.alloc (.cells #[.int .i64 fr,.int .i64 tt] 2))) := HBa.out.trans (hb7.mono HBa.out.size)
     have hRo := implRowOk Ak r (g.mem.length : Int) (W5.alloc (.cells #[.int .i64 fr,.int .i64 tt] 2)) (HRp.out.below hb7) (by unfold I64v;omega)
     obtain ⟨_,y5,y6,y7,y8,y9⟩ := Bx.r10p (HXm.out.below hb7)
     obtain ⟨⟨_,_,y2,y3,y4⟩,_⟩ := Bx.r10p (HXm.out.below hb7)
     unfold rwV rwC at hRo
     simp only [List.length_cons,List.length_nil,Nat.zero_add,Nat.reduceAdd] at hAb
     generalize belN (g.mem.length : Int) [fr,tt] = p at *
     clear hb7 hx64
     cases p with
     | false =>
      have HZ : Hid (okGr g = false) := HF.out (by rw [HO.out];rfl)
      clear HF HT HO hRo y2 y3 y4 y5 y6 y7 y8 y9
      go_wp2_with (go_at_call 128;refine hAb.mono ?_;rintro e w' ⟨rfl,hw'⟩;rw [hw'];clear hw')
      go_ret
      exact ⟨ret_bool (by rw [HZ.out]),HB0.out.trans (HB7.out.mono HB0.out.size)⟩
     | true =>
      have HO2 : Hid (on = okRw r (g.mem.length : Int)) := by rw [Hid,HO.out,Bool.true_and]
      clear HO
      generalize okRw r (g.mem.length : Int) = ob at *
      go_wp2_with (go_at_call 128;refine hAb.mono ?_;rintro e w' ⟨rfl,hw'⟩;rw [hw'];clear hw')
      refine hRo.mono ?_
      rintro e w6 ⟨rfl,hb6⟩
      have HB6 : Hid (Below W0.heap.size W0 w6) := HB7.out.trans (hb6.mono HB7.out.size)
      clear hRo hb6 hAb y0 y1 y2 y3 y4 y5 y6 y7 y8 y9
      cases ob with
      | false =>
       have HZ : Hid (okGr g = false) := HF.out HO2.out
       clear HF HT HO2
       go_wp2_with fail
       go_ret
       exact ⟨ret_bool (by rw [HZ.out]),HB0.out.trans (HB6.out.mono HB0.out.size)⟩
      | true =>
       have HZ : Hid (∀ j,j < k + 1 → okMl (mailN g j) (g.mem.length : Int) = true) := HT.out HO2.out
       clear HF HT HO2
       go_wp2_with fail
       go_roundw
       case rel => exact ⟨k + 1,by omega,by go_num,HZ.out,HB6.out⟩
       case measure => simp [intOf];omega
    ·have k1 : ¬ ((k : Int) < (g.mail.length : Int)) := by omega
     have HZ : Hid (okGr g = true) := okGr_yes (by omega) (by omega) HU.out hm HM.out (fun j hj => HA.out j (by omega))
     clear hb HA
     go_wp2_with fail
     go_ret
     exact ⟨ret_bool (by rw [HZ.out]),HB0.out.trans (HB2.out.mono HB0.out.size)⟩
end Go.Proofs.Ytlnmdfgcpfbleaa
namespace Go.Proofs.Ytlnmdfgcpfbleaa
set_option linter.unusedVariables false
set_option linter.unusedSimpArgs false
open Go.RowKit Go.Sort
end Go.Proofs.Ytlnmdfgcpfbleaa
namespace Go.Proofs.Ytlnmdfgcpfbleaa
set_option linter.unusedSimpArgs false
set_option linter.unusedVariables false
open Go.RowKit Go.Sort
def vA (n : Nat) (f : Nat → Value) : Array Value := ((List.range n).map f).toArray
theorem vA_size (n : Nat) (f : Nat → Value) : (vA n f).size = n := by simp [vA]
theorem vA_get {n : Nat} {f : Nat → Value} {j : Nat} (h : j < n) : (vA n f)[j]? = some (f j) := by simp [vA,h]
theorem vA_one {n : Nat} {f : Nat → Value} (h : ∀ j,j < n → (f j).oneCell' = true) : ∀ v ∈ (vA n f).toList,v.oneCell' = true := by
 intro v hv
 simp only [vA,List.mem_map,List.mem_range] at hv
 obtain ⟨j,hj,rfl⟩ := hv
 exact h j hj
structure VAt (w : World) (b off n : Nat) (f : Nat → Value) : Prop where
 cell : ∀ j,j < n → w.cell? ⟨b,off + j,none⟩ = some (f j)
 free : ∀ j,j < n → w.frozen? ⟨b,off + j,none⟩ = false
 blk : b < w.heap.size
theorem VAt.of_block {w w' : World} {b off n : Nat} {m : Nat → Value} (h : VAt w b off n m) (e : w'.heap[b]? = w.heap[b]?) (hs : b < w'.heap.size) : VAt w' b off n m :=
  ⟨fun j hj => by rw [World.cell?_of_block (w := w) e]; exact h.cell j hj,
   fun j hj => by rw [show w'.frozen? ⟨b, off + j, none⟩ = w.frozen? ⟨b, off + j, none⟩ from by simp only [World.frozen?, e]]; exact h.free j hj, hs⟩
theorem VAt.below {w w' : World} {b off n B : Nat} {m : Nat → Value} (h : VAt w b off n m) (hb : Below B w w') (hg : b < B) : VAt w' b off n m := h.of_block (hb.block b hg) (Nat.lt_of_lt_of_le h.blk hb.size)
def upA (f : Nat → Value) (i : Nat) (v : Value) : Nat → Value := fun j => if j = i then v else f j
theorem upA_same (f : Nat → Value) (i : Nat) (v : Value) : upA f i v i = v := by simp [upA]
theorem upA_other {f : Nat → Value} {i j : Nat} {v : Value} (h : j ≠ i) : upA f i v j = f j := by simp [upA,h]
theorem VAt.set {w : World} {b off n : Nat} {m : Nat → Value} (h : VAt w b off n m) {i : Nat} (hi : i < n) (v : Value) : VAt (w.setCell ⟨b,off + i,none⟩ v) b off n (upA m i v) := by
 refine ⟨fun j hj => ?_,fun j hj => by rw [World.frozen?_setCell];exact h.free j hj,by simp [World.setCell];exact h.blk⟩
 by_cases e : j = i
 ·subst e
  rw [World.cell?_setCell_same _ _ _ (h.cell j hj),upA_same]
 ·rw [World.cell?_setCell_other _ _ _ _ (by intro h;have := congrArg Addr.off h;simp only at this;omega),upA_other e];exact h.cell j hj
theorem VAt.sets {w : World} {b off n : Nat} {m : Nat → Value} (h : VAt w b off n m) (m' : Nat → Value) : VAt (w.setCells b off (vA n m').toList) b off n m' := by
 have hl : (vA n m').toList.length = n := by simp [vA]
 have hin := World.cell?_setCells_in b (vA n m').toList off w (fun j hj => by rw [hl] at hj;rw [h.cell j hj];rfl)
 refine ⟨fun j hj => ?_,fun j hj => by rw [World.frozen?_setCells];exact h.free j hj,by rw [size_setCells];exact h.blk⟩
 rw [hin j (by rw [hl];exact hj)]
 simp [vA,hj]
theorem va_alloc (w : World) (n : Nat) (m : Nat → Value) (T : TypeId) : VAt (w.alloc (.cells (vA n m) T)) w.heap.size 0 n m := by
 have hb := heap_alloc_new w (.cells (vA n m) T)
 refine ⟨fun j hj => ?_,fun j hj => ?_,by simp⟩
 ·simp only [World.cell?,hb,Nat.zero_add]
  simp [vA_get hj]
 ·unfold World.frozen?
  rw [hb]
  simp
theorem stX_run {w : World} {b off n : Nat} {m : Nat → Value} (h : VAt w b off n m) (m' : Nat → Value) (h1 : ∀ j,j < n → (m' j).oneCell' = true) : (storeCells ⟨b,off,none⟩ (vA n m').toList).run Try.prog w = .ok () (w.setCells b off (vA n m').toList) := by
 have hl : (vA n m').toList.length = n := by simp [vA]
 exact run_storeCells_cells (P := Try.prog) b off (vA n m').toList 0 w (fun j hj => by rw [hl] at hj;rw [Nat.add_zero,h.cell j hj];rfl) (fun j hj => by rw [hl] at hj;rw [Nat.add_zero];exact h.free j hj) (vA_one h1)
theorem allocX_run {T n b : Nat} {z : Nat → Value} (hi : (Try.prog.info? T).map (fun i => (i.zero,i.size,i.bytes)) = some (some (.agg (vA n z)),n,b)) (w : World) :
  (Instr.alloc T true (.tuple #[])).run Try.prog w = .ok (.pointer (some ⟨w.heap.size,0,none⟩)) (w.alloc (.cells (vA n z) T)) := by
 obtain ⟨i,hi0,hz,_,_⟩ := info_parts2n hi
 simp [Instr.alloc,zeroValue,typeInfo,hi0,hz,newVar,newRow,Value.cells]
theorem storeX_run {T n by_ : Nat} {z : Nat → Value} (hi : (Try.prog.info? T).map (fun i => (i.zero,i.size,i.bytes)) = some (some (.agg (vA n z)),n,by_)) {w : World} {b off : Nat} {m : Nat → Value} (h : VAt w b off n m) (m' : Nat → Value) (h1 : ∀ j,j < n → (m' j).oneCell' = true) :
  (Instr.storeAt T (.pointer (some ⟨b,off,none⟩)) (.agg (vA n m'))).run Try.prog w = .ok () (w.setCells b off (vA n m').toList) := by
 obtain ⟨i,hi0,_,hs,_⟩ := info_parts2n hi
 simp [Instr.storeAt,Instr.sureAddr,storeVar,sizeOf,typeInfo,hi0,hs,Value.cells,vA_size,stX_run h m' h1]
section
variable (w : World) {ops : Array Oper} {rest : List Oper} {o : Oper} {a : Act} {Q : Exit → Act → World → Prop}
theorem wpX_val (hgd : o.guard = none) (v : Value) (w' : World) (hrun : (execOp a.eval o).run Try.prog w = .ok (.value v) w') (h : wpList Try.prog ops Q rest (a.put o.dst v) w') : wpList Try.prog ops Q (o :: rest) a w :=
 wpList_plain hgd fun _ hK => by
  unfold Oper.wp
  rw [hrun]
  exact hK _ _ h
theorem wpX_alloc (hgd : o.guard = none) (T n by_ : Nat) (z : Nat → Value) (hop : o.op = .alloc T) (hi : (Try.prog.info? T).map (fun i => (i.zero,i.size,i.bytes)) = some (some (.agg (vA n z)),n,by_))
  (h : wpList Try.prog ops Q rest (a.put o.dst (.pointer (some ⟨w.heap.size,0,none⟩))) (w.alloc (.cells (vA n z) T))) : wpList Try.prog ops Q (o :: rest) a w :=
 wpX_val w hgd _ _ (by unfold execOp;simp only [hop,Sem.run_bind,allocX_run hi,Result.andThen_ok,Sem.run_pure]) h
theorem wpX_store (hgd : o.guard = none) (hd : o.dst = none) (T n by_ : Nat) (z : Nat → Value) (s x : Operand) (hop : o.op = .store T s x) (hi : (Try.prog.info? T).map (fun i => (i.zero,i.size,i.bytes)) = some (some (.agg (vA n z)),n,by_))
  (b off : Nat) (m m' : Nat → Value) (h1 : ∀ j,j < n → (m' j).oneCell' = true) (hs : a.eval s = .pointer (some ⟨b,off,none⟩)) (hx : a.eval x = .agg (vA n m')) (hb : VAt w b off n m)
  (h : wpList Try.prog ops Q rest a (w.setCells b off (vA n m').toList)) : wpList Try.prog ops Q (o :: rest) a w :=
 wpList_plain hgd fun _ hK => by
  unfold Oper.wp
  have : (execOp a.eval o).run Try.prog w = .ok .skip (w.setCells b off (vA n m').toList) := by
   unfold execOp;simp only [hop,hs,hx,Sem.run_bind,storeX_run hi hb m' h1,Result.andThen_ok,Sem.run_pure]
  rw [this]
  have e : a.put o.dst undef = a := by rw [hd];rfl
  exact hK (a.put o.dst undef) _ (by rw [e];exact h)
end
end Go.Proofs.Ytlnmdfgcpfbleaa
namespace Go.Proofs.Ytlnmdfgcpfbleaa
set_option linter.unusedVariables false
set_option linter.unusedSimpArgs false
open Go.RowKit Go.Sort
end Go.Proofs.Ytlnmdfgcpfbleaa
namespace Go.Proofs.Ytlnmdfgcpfbleaa
set_option linter.unusedVariables false
set_option linter.unusedSimpArgs false
open Go.RowKit Go.Sort
set_option maxHeartbeats 400000 in
theorem isW7_any (n last : Int) (w : World) : Calls Try.prog 114 #[.int .i64 n,.int .i64 last] w fun e w' => e = .returned (.bool (inB n 0 last)) ∧ w' = w := by
 by_cases h0 : (0 : Int) ≤ n
 ·have H : Hid (inB n 0 last = decide (n ≤ last)) := by rw [Hid,inB];simp [h0]
  go_enter Try.func114,Try.ntmps114
  go_wp2
  go_ret
  exact ⟨ret_bool (by rw [H.out]),rfl⟩
 ·have H : Hid (inB n 0 last = false) := by rw [Hid,inB];simp [h0]
  go_enter Try.func114,Try.ntmps114
  go_wp2
  go_ret
  exact ⟨ret_bool (by rw [H.out]),rfl⟩
set_option maxHeartbeats 400000 in
theorem senders_any (n : Int) (w : World) : Calls Try.prog 152 #[.int .i64 n] w fun e w' => e = .returned (.bool (inB n 1 8)) ∧ w' = w := by
 by_cases h0 : (1 : Int) ≤ n
 ·have H : Hid (inB n 1 8 = decide (n ≤ 8)) := by rw [Hid,inB];simp [h0]
  go_enter Try.func152,Try.ntmps152
  go_wp2
  go_ret
  exact ⟨ret_bool (by rw [H.out]),rfl⟩
 ·have H : Hid (inB n 1 8 = false) := by rw [Hid,inB];simp [h0]
  go_enter Try.func152,Try.ntmps152
  go_wp2
  go_ret
  exact ⟨ret_bool (by rw [H.out]),rfl⟩
set_option maxHeartbeats 400000 in
theorem turn_any (n q : Int) (w : World) : Calls Try.prog 150 #[.int .i64 n,.int .i64 q] w fun e w' => e = .returned (.bool (tellB n q)) ∧ w' = w := by
 cases e0 : inB n 1 8 with
 | false =>
  have H : Hid (tellB n q = false) := by rw [Hid,tellB,e0];rfl
  go_enter Try.func150,Try.ntmps150
  go_wp2_with (first | (go_at_call 152;refine (senders_any _ _).mono ?_;rintro e w' ⟨rfl,rfl⟩) | (go_at_call 114;refine (isW7_any _ _ _).mono ?_;rintro e w' ⟨rfl,rfl⟩))
  go_ret
  exact ⟨ret_bool (by rw [H.out]),rfl⟩
 | true =>
  have H : Hid (tellB n q = inB q 0 800000) := by rw [Hid,tellB,e0];rfl
  go_enter Try.func150,Try.ntmps150
  go_wp2_with (first | (go_at_call 152;refine (senders_any _ _).mono ?_;rintro e w' ⟨rfl,rfl⟩) | (go_at_call 114;refine (isW7_any _ _ _).mono ?_;rintro e w' ⟨rfl,rfl⟩))
  go_ret
  exact ⟨ret_bool (by rw [H.out]),rfl⟩
set_option maxHeartbeats 800000 in
theorem sndI_any (n q : Int) (w : World) : Calls Try.prog 147 #[.int .i64 n,.int .i64 q] w fun e w' => e = .returned (.int .i64 (sndL n q)) ∧ w' = w := by
 cases e0 : tellB n q with
 | false =>
  have HZ : Hid (sndL n q = -1) := by rw [Hid,sndL,e0];rfl
  go_enter Try.func147,Try.ntmps147
  go_wp2_with (go_at_call 150;refine (turn_any _ _ _).mono ?_;rintro e w' ⟨rfl,rfl⟩)
  go_ret
  exact ⟨ret_int (by rw [HZ.out]),rfl⟩
 | true =>
  have hk := tellB_iff.1 e0
  have HZ : Hid (sndL n q = q % n) := by rw [Hid,sndL,e0];rfl
  have hne : (n == 0) = false := by simp;omega
  have ht : q.tmod n = q % n := Int.tmod_eq_emod_of_nonneg hk.2.1
  have b0 : 0 ≤ q % n := Int.emod_nonneg _ (by omega)
  have b1 : q % n < n := Int.emod_lt_of_pos _ (by omega)
  go_enter Try.func147,Try.ntmps147
  go_wp2_with (go_at_call 150;refine (turn_any _ _ _).mono ?_;rintro e w' ⟨rfl,rfl⟩)
  go_ret
  exact ⟨ret_int (by rw [HZ.out]),rfl⟩
set_option maxHeartbeats 800000 in
theorem idxI_any (n q : Int) (w : World) : Calls Try.prog 148 #[.int .i64 n,.int .i64 q] w fun e w' => e = .returned (.int .i64 (idxL n q)) ∧ w' = w := by
 cases e0 : tellB n q with
 | false =>
  have HZ : Hid (idxL n q = -1) := by rw [Hid,idxL,e0];rfl
  go_enter Try.func148,Try.ntmps148
  go_wp2_with (go_at_call 150;refine (turn_any _ _ _).mono ?_;rintro e w' ⟨rfl,rfl⟩)
  go_ret
  exact ⟨ret_int (by rw [HZ.out]),rfl⟩
 | true =>
  have hk := tellB_iff.1 e0
  have HZ : Hid (idxL n q = q / n) := by rw [Hid,idxL,e0];rfl
  have hne : (n == 0) = false := by simp;omega
  have ht : q.tdiv n = q / n := Int.tdiv_eq_ediv_of_nonneg hk.2.1
  have b0 : 0 ≤ q / n := Int.ediv_nonneg hk.2.1 (by omega)
  have b1 : q / n ≤ q := Int.ediv_le_self n hk.2.1
  go_enter Try.func148,Try.ntmps148
  go_wp2_with (go_at_call 150;refine (turn_any _ _ _).mono ?_;rintro e w' ⟨rfl,rfl⟩)
  go_ret
  exact ⟨ret_int (by rw [HZ.out]),rfl⟩
end Go.Proofs.Ytlnmdfgcpfbleaa
namespace Go.Proofs.Ytlnmdfgcpfbleaa
set_option linter.unusedSimpArgs false
set_option linter.unusedVariables false
open Go.RowKit Go.Sort Go.Shelf
def Try.cloneL_ren : Go.Shelf.Ren := ⟨fun | 316 => 151 | n => n,fun | 9 => 9 | 3 => 3 | 4 => 4 | 37 => 22 | 0 => 0 | 127 => 167 | 5 => 5 | n => n,fun | n => n⟩
theorem Try.cloneL : Go.Proofs.LaysM.n316 Try.prog Try.cloneL_ren := {
 mixed := by kernel_rfl
 f316 := Try.func151.trans (congrArg some (by kernel_rfl))
 t0 := Try.underlying0
 a0 := Try.isAgg0
 z0 := Try.sizeOf0
 v0 := Try.zeroValue0
 t3 := Try.underlying3
 a3 := Try.isAgg3
 z3 := Try.sizeOf3
 v3 := Try.zeroValue3
 t4 := Try.underlying4
 a4 := Try.isAgg4
 z4 := Try.sizeOf4
 v4 := Try.zeroValue4
 t9 := Try.underlying9
 a9 := Try.isAgg9
 z9 := Try.sizeOf9
 v9 := Try.zeroValue9
 t37 := Try.underlying22
 a37 := Try.isAgg22
 z37 := Try.sizeOf22
 v37 := Try.zeroValue22
 t127 := Try.underlying167
 a127 := Try.isAgg167
 z127 := Try.sizeOf167
 v127 := Try.zeroValue167
 t5 := Try.underlying5
 a5 := Try.isAgg5
 z5 := Try.sizeOf5
 v5 := Try.zeroValue5
 i0 := by kernel_rfl
 i3 := by kernel_rfl
 i4 := by kernel_rfl
 i5 := by kernel_rfl
 i9 := by kernel_rfl
 i37 := by kernel_rfl
 i127 := by kernel_rfl }
set_option maxHeartbeats 400000 in
theorem clone_any (l : List UInt8) (w : World) (hl : l.length ≤ 1048576) :
  Calls Try.prog 149 #[.string (sv l)] w fun e w' => e = .returned (.string (sv l)) ∧ Below w.heap.size w w' := by
 have h := Any.stringslite_Clone Try.cloneL (sv l) w (by rw [sv_size];omega)
 go_enter Try.func149,Try.ntmps149
 go_wp2_with fail
 refine h.mono ?_
 rintro e w1 ⟨rfl,hb⟩
 have HB : Hid (Below w.heap.size w w1) := hb
 clear hb h
 go_wp2
 go_ret
 exact ⟨rfl,HB.out⟩
end Go.Proofs.Ytlnmdfgcpfbleaa
namespace Go.Proofs.Ytlnmdfgcpfbleaa
set_option linter.unusedVariables false
set_option linter.unusedSimpArgs false
open Go.RowKit Go.Sort
theorem snd_nat {n q : Nat} (hn : 1 ≤ n ∧ n ≤ 5) (hq : q ≤ 60) : sndL (n : Int) (q : Int) = ((q % n : Nat) : Int) ∧ idxL (n : Int) (q : Int) = ((q / n : Nat) : Int) := by
 have ht : tellB (n : Int) (q : Int) = true := tellB_iff.2 (by omega)
 unfold sndL idxL
 rw [ht]
 exact ⟨by simp,by simp⟩
attribute [local irreducible] sv
set_option maxRecDepth 100000 in
set_option maxHeartbeats 1600000 in
theorem txo_any (A : Ma) (m : Mb) (i n q : Nat) (w : World) (hv : MbP w A m) (ok : OkM m i n) (hq : q ≤ 60) :
  Calls Try.prog 141 #[mbV A m,.int .i64 (q : Int)] w fun e w' => ((hadB m.rows n (q : Int) = true ∧ e = .returned (.string (sv (txtOf m.rows n (q : Int))))) ∨ (hadB m.rows n (q : Int) = false ∧ Gu e)) ∧ Below w.heap.size w w' := by
 have hmix := mixed17
 have hba := oneA16 w (.cells #[.int .i64 m.id,.int .i64 m.n,.slice A.ra m.rows.length A.rc,.slice A.sa m.sung.length A.sc,.bool m.done] 103)
 have hx := Bx.new w 103 #[.int .i64 m.id,.int .i64 m.n,.slice A.ra m.rows.length A.rc,.slice A.sa m.sung.length A.sc,.bool m.done]
 have hv1 := hv.below hba
 unfold mbV mbC
 generalize hWW : w.alloc (.cells #[.int .i64 m.id,.int .i64 m.n,.slice A.ra m.rows.length A.rc,.slice A.sa m.sung.length A.sc,.bool m.done] 103) = W1 at *
 have hw0 : w.alloc (.cells #[.int .i64 m.id,.int .i64 m.n,.slice A.ra m.rows.length A.rc,.slice A.sa m.sung.length A.sc,.bool m.done] 103) = W1 := hWW
 have HB : Hid (Below w.heap.size w W1) := hba
 have hn5 := ok.n5
 obtain ⟨k,hk⟩ : ∃ k,k = q % n := ⟨_,rfl⟩
 have hkn : k < n := by rw [hk];exact Nat.mod_lt _ (by omega)
 have hkl : k < m.rows.length := by rw [ok.len];exact hkn
 obtain ⟨d,hd⟩ : ∃ d,d = q / n := ⟨_,rfl⟩
 have hdq : d ≤ 60 := by rw [hd];exact Nat.le_trans (Nat.div_le_self _ _) hq
 obtain ⟨e1,e2⟩ := snd_nat hn5 hq
 have hS : ∀ qq : Bk W1,Calls Try.prog 147 #[.int .i64 (n : Int),.int .i64 (q : Int)] qq.w fun e w' => e = .returned (.int .i64 (k : Int)) ∧ Below qq.w.heap.size qq.w w' := fun qq => (sndI_any (n : Int) (q : Int) qq.w).mono (fun e w' h => ⟨by rw [h.1,e1,hk],by rw [h.2];exact Below.refl _ _⟩)
 have hI : ∀ qq : Bk W1,Calls Try.prog 148 #[.int .i64 (n : Int),.int .i64 (q : Int)] qq.w fun e w' => e = .returned (.int .i64 (d : Int)) ∧ Below qq.w.heap.size qq.w w' := fun qq => (idxI_any (n : Int) (q : Int) qq.w).mono (fun e w' h => ⟨by rw [h.1,e2,hd],by rw [h.2];exact Below.refl _ _⟩)
 have HH : Hid (hadB m.rows n (q : Int) = decide (d < (rowN m.rows k).txt.length)) := by rw [Hid,hadB,hk,hd];rfl
 have HX : Hid (txtOf m.rows n (q : Int) = (rowN m.rows k).txt.getD d []) := by rw [Hid,txtOf,hk,hd];rfl
 obtain ⟨g,off,Ak,hra,⟨⟨d0,d1,d2,d3⟩,d4,d5,d6,d7⟩,hrp⟩ := hv1.row hkl
 have hr := ok.ok k hkn
 have HTx : Hid (∀ X,Below W1.heap.size W1 X → TxS X Ak.ta (rowN m.rows k).txt) := fun X hX => (hrp.below hX).txt.txs
 have HTl : Hid (∀ j,j < (rowN m.rows k).txt.length → ((rowN m.rows k).txt.getD j []).length ≤ 1048576) := fun j hj => Nat.le_trans (hr.ts _ (by rw [List.getD_eq_getElem?_getD,List.getElem?_eq_getElem hj];exact List.getElem_mem hj)) (by decide)
 have htl := hr.tl
 obtain ⟨c0,c1,c2,c3,c4⟩ := Bx.r5 hx
 rw [hra] at c2
 rw [ok.hn] at c1
 have T : ∀ {x v},W1.cell? x = some v → ∀ q : Bk W1,q.w.cell? x = some v := fun h q => (q.h.cell (World.block_lt_of_cell? _ _ h)).trans h
 have y1 := T c1
 have y2 := T c2
 have z1 := T d1
 have k0 : (0 : Int) ≤ (k : Int) := by omega
 have k1 : (k : Int) < (m.rows.length : Int) := by omega
 clear hra hv hba hx hv1 hWW e1 e2 c0 c1 c2 c3 c4 d0 d1 d2 d3 d4 d5 d6 d7 hrp T hk hd hr
 generalize rowN m.rows k = r at *
 have HRR : Hid (True) := trivial
 go_enter Try.func141,Try.ntmps141
 go_wp2_with fail
 clear hw0
 refine wp_region_bk (by kernel_rfl) (by kernel_rfl) ?_
 repeat (go_big_quiet_step ((first | (go_at_call 147;exact bk_call _ (hS _)) | (go_at_call 148;exact bk_call _ (hI _)) | rfl)))
 refine wpQuiet_nil ?_
 intro wE hw'
 obtain ⟨⟨w11,hb11⟩,hw''⟩ := hw'
 have hwe : wE = w11 := hw''
 clear hw''
 subst hwe
 have HB1 : Hid (Below w.heap.size w wE) := HB.out.trans (hb11.mono HB.out.size)
 have hTx := HTx.out wE hb11
 clear hS hI y1 y2 z1 hb11 HTx
 by_cases hlt : d < r.txt.length
 ·have HZ : Hid (hadB m.rows n (q : Int) = true) := by rw [Hid,HH.out,decide_eq_true hlt]
  rcases hTx with h0 | ⟨tb,tq,hta,htc⟩
  ·omega
  have hck := htc d hlt
  have l1 : (d : Int) < (r.txt.length : Int) := by omega
  have l0 : (0 : Int) ≤ (d : Int) := by omega
  have hC := clone_any (r.txt.getD d []) wE (HTl.out d hlt)
  clear htc
  rw [hta]
  have HX2 : Hid (txtOf m.rows n (q : Int) = r.txt.getD d []) := HX.out
  generalize r.txt.getD d [] = t at *
  go_wp2_with (first | (go_at_call 144;refine (wantT _).mono ?_;rintro e w' ⟨rfl,hw'⟩;rw [hw'];clear hw') | (go_at_call 149;refine hC.mono ?_;rintro e w2 ⟨rfl,hb2⟩;have HB2 : Hid (Below w.heap.size w w2) := HB1.out.trans (hb2.mono HB1.out.size);clear hb2))
  go_ret
  exact ⟨.inl ⟨HZ.out,by rw [HX2.out];rfl⟩,HB2.out⟩
 ·have HZ : Hid (hadB m.rows n (q : Int) = false) := by rw [Hid,HH.out,decide_eq_false hlt]
  have l1 : ¬ ((d : Int) < (r.txt.length : Int)) := by omega
  go_wp2_with (go_at_call 144;refine (wantF _).mono ?_;rintro e w' ⟨⟨T,v,rfl⟩,hw'⟩;rw [hw'];clear hw')
  exact ⟨rfl,.inr ⟨HZ.out,_,_,rfl⟩,HB1.out⟩
def VoR (m : Mb) (w0 : World) (b1 b2 : Nat) (e : Ending) (w' : World) : Prop := (okMb m = true ∧ m.sung.all (hadB m.rows m.k) = true ∧ e = .returned (.tuple #[]) ∧ ∃ a c f,w'.cell? ⟨b1,0,none⟩ = some (.slice a (m.sung.map (txtOf m.rows m.k)).length c) ∧ Cel.ow w' (scl (m.sung.map (txtOf m.rows m.k))) (.slice a (m.sung.map (txtOf m.rows m.k)).length c) f ∧ ∀ b,f b → w0.heap.size ≤ b ∧ b ≠ b1 ∧ b ≠ b2) ∨ (¬ (okMb m = true ∧ m.sung.all (hadB m.rows m.k) = true) ∧ Gu e)
set_option maxRecDepth 100000 in
set_option maxHeartbeats 1600000 in
theorem voi1_any (A : Ma) (m : Mb) (b0 b1 b2 : Nat) (a0 : Option Addr) (c0 : Nat) (f0 : Fp) (w0 X : World) (hv : MbP w0 A m) (hX : Below w0.heap.size w0 X) (h0 : Bx X b0 103 #[.int .i64 m.id,.int .i64 m.n,.slice A.ra m.rows.length A.rc,.slice A.sa m.sung.length A.sc,.bool m.done]) (h1 : Bx X b1 33 #[.slice a0 0 c0]) (hO : Cel.ow X (scl []) (.slice a0 0 c0) f0) (hf : ∀ b,f0 b → w0.heap.size ≤ b ∧ b ≠ b1 ∧ b ≠ b2) (hb : w0.heap.size ≤ b1) (hne : b0 ≠ b1) (hf0 : ¬ f0 b0) (h2 : b2 < X.heap.size) :
  Calls Try.prog 140 #[.pointer (some ⟨b0,0,none⟩),.pointer (some ⟨b1,0,none⟩)] X fun e w' => VoR m w0 b1 b2 e w' ∧ Wrt (fun x => x = b1 ∨ f0 x) X w' := by
 have hmix := mixed17
 have hCk := chk_any A m X (hv.below hX)
 have HX0 : Hid (Below w0.heap.size w0 X) := hX
 have HV : Hid (MbP w0 A m) := hv
 have H0 : Hid (Bx X b0 103 #[.int .i64 m.id,.int .i64 m.n,.slice A.ra m.rows.length A.rc,.slice A.sa m.sung.length A.sc,.bool m.done]) := h0
 have H1 : Hid (Bx X b1 33 #[.slice a0 0 c0]) := h1
 have HO : Hid (Cel.ow X (scl []) (.slice a0 0 c0) f0) := hO
 obtain ⟨d0,d1,d2,d3,d4⟩ := Bx.r5 h0
 have hb1X := h1.lt
 have hb0X := h0.lt
 unfold mbV mbC at hCk
 clear hv hX h0 h1 hO
 by_cases hok : okMb m = true
 case neg =>
  have HN : Hid (¬ (okMb m = true ∧ m.sung.all (hadB m.rows m.k) = true)) := fun h => hok h.1
  rw [Bool.eq_false_iff.2 hok] at hCk
  clear hok
  go_enter Try.func140,Try.ntmps140
  go_wp2_with fail
  refine hCk.mono ?_
  rintro e w1 ⟨(⟨h,_⟩ | ⟨_,T,v,rfl⟩),hb1⟩
  ·cases h
  ·exact ⟨rfl,.inr ⟨HN.out,_,_,rfl⟩,Wrt.of_below hb1⟩
 obtain ⟨i,n,ok⟩ := okMb_iff.1 hok
 have HOk : Hid (okMb m = true) := hok
 have HKn : Hid (m.k = n) := ok.k
 rw [hok] at hCk
 have hsl := ok.sl
 clear hok
 go_enter Try.func140,Try.ntmps140
 go_wp2_with fail
 refine hCk.mono ?_
 rintro e w1 ⟨(⟨_,rfl⟩ | ⟨h,_⟩),hbw⟩
 case inr => cases h
 have HW1 : Hid (Wrt (fun x => x = b1 ∨ f0 x) X w1) := Wrt.of_below hbw
 have HB1 : Hid (Below w0.heap.size w0 w1) := HX0.out.trans (hbw.mono HX0.out.size)
 have HE0 : Hid (Bx w1 b0 103 #[.int .i64 m.id,.int .i64 m.n,.slice A.ra m.rows.length A.rc,.slice A.sa m.sung.length A.sc,.bool m.done]) := H0.out.below hbw
 have HE1 : Hid (Bx w1 b1 33 #[.slice a0 0 c0]) := H1.out.below hbw
 have HEO : Hid (Cel.ow w1 (scl []) (.slice a0 0 c0) f0) := Cel.ow_below HO.out hbw
 have hbs := hbw.size
 clear d0 d1 d2 d3 d4 hCk hbw H0 H1 HO
 obtain ⟨d0,d1,d2,d3,d4⟩ := Bx.r5 HE0.out
 go_wp2_with fail
 clear d0 d1 d2 d3 d4
 go_loopw [9] (fun v wr => ∃ (k : Nat) (a : Option Addr) (c : Nat) (Z : List (List UInt8)) (f : Fp),k ≤ m.sung.length ∧ v = .int .i64 (k : Int) ∧ Hid (Z = (m.sung.take k).map (txtOf m.rows n)) ∧ Hid (∀ j,j < k → hadB m.rows n (el m.sung j) = true) ∧ Bx wr b0 103 #[.int .i64 m.id,.int .i64 m.n,.slice A.ra m.rows.length A.rc,.slice A.sa m.sung.length A.sc,.bool m.done] ∧ Bx wr b1 33 #[.slice a Z.length c] ∧ Cel.ow wr (scl Z) (.slice a Z.length c) f ∧ (∀ b,f b → (w0.heap.size ≤ b ∧ b ≠ b1 ∧ b ≠ b2 ∧ b ≠ b0) ∧ (f0 b ∨ X.heap.size ≤ b)) ∧ Wrt (fun x => x = b1 ∨ f0 x) X wr ∧ Below w0.heap.size w0 wr) (fun v _ => m.sung.length - (intOf v).toNat)
 case atStart => exact ⟨0,a0,c0,[],f0,Nat.zero_le _,rfl,rfl,(fun j hj => absurd hj (Nat.not_lt_zero _)),HE0.out,HE1.out,HEO.out,fun b hb => ⟨⟨(hf b hb).1,(hf b hb).2.1,(hf b hb).2.2,fun e => hf0 (e ▸ hb)⟩,.inl hb⟩,HW1.out,HB1.out⟩
 case round =>
  obtain ⟨k,a,c,Z,f,hk,rfl,hZ,hAll,hx0,hx1,hO,hff,hW,hB⟩ := hrel
  have HY0 : Hid (Bx wr b0 103 #[.int .i64 m.id,.int .i64 m.n,.slice A.ra m.rows.length A.rc,.slice A.sa m.sung.length A.sc,.bool m.done]) := hx0
  have HY1 : Hid (Bx wr b1 33 #[.slice a Z.length c]) := hx1
  have HO : Hid (Cel.ow wr (scl Z) (.slice a Z.length c) f) := hO
  have HW : Hid (Wrt (fun x => x = b1 ∨ f0 x) X wr) := hW
  have HB : Hid (Below w0.heap.size w0 wr) := hB
  clear HW1 HB1 HE0 HE1 HEO
  by_cases hlt : k < m.sung.length
  ·have hvec := (HV.out.below hB).mbs.sung
   rcases hvec.2.2 with h0 | ⟨sb,so,hsa,hsc⟩
   ·omega
   have hck := hsc k hlt
   have hel := ok.elem (el_mem hlt)
   obtain ⟨q,hq⟩ : ∃ q : Nat,el m.sung k = (q : Int) := ⟨(el m.sung k).toNat,by omega⟩
   rw [hq] at hck
   have hT := txo_any A m i n q wr.drew ((HV.out.below hB).below (Same.drewN wr 1).below) ok (by omega)
   have HZ1 : Hid ((m.sung.take (k + 1)).map (txtOf m.rows n) = Z ++ [txtOf m.rows n (q : Int)]) := by
    rw [Hid,hZ.out,← hq]
    exact map_next (by rw [List.getElem?_eq_getElem hlt];simp [el,hlt])
   have HA1 : Hid (hadB m.rows n (q : Int) = true → ∀ j,j < k + 1 → hadB m.rows n (el m.sung j) = true) := fun h j hj => by
    by_cases e : j = k
    ·rw [e,hq];exact h
    ·exact hAll.out j (by omega)
   have HNo : Hid (hadB m.rows n (q : Int) = false → ¬ (okMb m = true ∧ m.sung.all (hadB m.rows m.k) = true)) := fun h hh => by
    have := List.all_eq_true.1 hh.2 _ (el_mem hlt)
    rw [HKn.out,hq,h] at this
    cases this
   have HZl : Hid (Z.length ≤ 1000000) := Nat.le_trans (by rw [hZ.out,List.length_map,List.length_take];omega : Z.length ≤ 100) (by decide)
   have k0 : (0 : Int) ≤ (k : Int) := by omega
   have k1 : (k : Int) < (m.sung.length : Int) := by omega
   have hbd : Below wr.heap.size wr wr.drew := (Same.drewN wr 1).below
   have KS : ∀ X,Below wr.heap.size wr X → X.cell? ⟨b1,0,none⟩ = some (.slice a Z.length c) ∧ X.cell? ⟨b0,0,none⟩ = some (.int .i64 m.id) ∧ X.cell? ⟨b0,1,none⟩ = some (.int .i64 m.n) ∧ X.cell? ⟨b0,2,none⟩ = some (.slice A.ra m.rows.length A.rc) ∧ X.cell? ⟨b0,3,none⟩ = some (.slice (some ⟨sb,so,none⟩) m.sung.length A.sc) ∧ X.cell? ⟨b0,4,none⟩ = some (.bool m.done) := fun X hX => by
    obtain ⟨e0,e1,e2,e3,e4⟩ := Bx.r5 (HY0.out.below hX)
    rw [hsa] at e3
    exact ⟨(HY1.out.below hX).at 0 rfl,e0,e1,e2,e3,e4⟩
   have hl1 := hx1.lt
   have hl0 := hx0.lt
   have hfw := Cel.ow_lt hO
   have hws := hW.size
   unfold mbV mbC at hT
   rw [hsa] at hT ⊢
   have HSA : Hid (A.sa = some ⟨sb,so,none⟩) := hsa
   clear hsa
   clear hvec hsc hx0 hx1 hO hW hB hel hq
   cases hh : hadB m.rows n (q : Int) with
   | false =>
    have HN := HNo.out hh
    have HN2 : Hid (¬ (okMb m = true ∧ m.sung.all (hadB m.rows m.k) = true)) := HN
    rw [hh] at hT
    clear HN hh
    go_wp2_with fail
    refine gt_begin (S := fun X : World => X.cell? ⟨b1,0,none⟩ = some (.slice a Z.length c) ∧ X.cell? ⟨b0,0,none⟩ = some (.int .i64 m.id) ∧ X.cell? ⟨b0,1,none⟩ = some (.int .i64 m.n) ∧ X.cell? ⟨b0,2,none⟩ = some (.slice A.ra m.rows.length A.rc) ∧ X.cell? ⟨b0,3,none⟩ = some (.slice (some ⟨sb,so,none⟩) m.sung.length A.sc) ∧ X.cell? ⟨b0,4,none⟩ = some (.bool m.done)) 6 hmix (by kernel_rfl) ?_
    have hHeld : (fun X : World => X.cell? ⟨b1,0,none⟩ = some (.slice a Z.length c) ∧ X.cell? ⟨b0,0,none⟩ = some (.int .i64 m.id) ∧ X.cell? ⟨b0,1,none⟩ = some (.int .i64 m.n) ∧ X.cell? ⟨b0,2,none⟩ = some (.slice A.ra m.rows.length A.rc) ∧ X.cell? ⟨b0,3,none⟩ = some (.slice (some ⟨sb,so,none⟩) m.sung.length A.sc) ∧ X.cell? ⟨b0,4,none⟩ = some (.bool m.done)) wr.drew := (KS _ hbd)
    refine gt_take (i := 0) (v := ?_) rfl (by kernel_rfl) (by kernel_rfl) (by kernel_rfl) (by kernel_rfl) (fun _ _ _ h => h) (Or.inl ⟨by rfl, ?_⟩) hHeld ?_
    rotate_left
    ·(intro X hSX;(try dsimp only at hSX);obtain ⟨g0,g1,g2,g3,g4,g5⟩ := hSX;go_simp;try with_reducible rfl)
    try simp only [Act.put,List.setIfInBounds_toArray,List.set_cons_zero,List.set_cons_succ]
    refine gt_take (i := 1) (v := ?_) rfl (by kernel_rfl) (by kernel_rfl) (by kernel_rfl) (by kernel_rfl) (fun _ _ _ h => h) (Or.inl ⟨by rfl, ?_⟩) hHeld ?_
    rotate_left
    ·(intro X hSX;(try dsimp only at hSX);obtain ⟨g0,g1,g2,g3,g4,g5⟩ := hSX;go_simp;try with_reducible rfl)
    try simp only [Act.put,List.setIfInBounds_toArray,List.set_cons_zero,List.set_cons_succ]
    refine gt_take (i := 2) (v := ?_) rfl (by kernel_rfl) (by kernel_rfl) (by kernel_rfl) (by kernel_rfl) (fun _ _ _ h => h) (Or.inl ⟨by rfl, ?_⟩) hHeld ?_
    rotate_left
    ·(intro X hSX;(try dsimp only at hSX);obtain ⟨g0,g1,g2,g3,g4,g5⟩ := hSX;go_simp;try with_reducible rfl)
    try simp only [Act.put,List.setIfInBounds_toArray,List.set_cons_zero,List.set_cons_succ]
    refine gt_one (i := 3) rfl (by kernel_rfl) (by kernel_rfl) (fun K hK => ?_)
    go_simp
    go_at_call 141
    refine hT.mono ?_
    rintro e V1 ⟨(⟨h,_⟩ | ⟨_,T,v,rfl⟩),hb2⟩
    ·cases h
    ·exact ⟨rfl,.inr ⟨HN2.out,_,_,rfl⟩,HW.out.trans (Wrt.of_below (hbd.trans (hb2.mono hbd.size))) (fun _ _ h => h)⟩
   | true =>
    have HA2 : Hid (∀ j,j < k + 1 → hadB m.rows n (el m.sung j) = true) := HA1.out hh
    rw [hh] at hT
    clear hh
    generalize txtOf m.rows n (q : Int) = t at *
    go_wp2_with fail
    refine gt_begin (S := fun X : World => X.cell? ⟨b1,0,none⟩ = some (.slice a Z.length c) ∧ X.cell? ⟨b0,0,none⟩ = some (.int .i64 m.id) ∧ X.cell? ⟨b0,1,none⟩ = some (.int .i64 m.n) ∧ X.cell? ⟨b0,2,none⟩ = some (.slice A.ra m.rows.length A.rc) ∧ X.cell? ⟨b0,3,none⟩ = some (.slice (some ⟨sb,so,none⟩) m.sung.length A.sc) ∧ X.cell? ⟨b0,4,none⟩ = some (.bool m.done)) 6 hmix (by kernel_rfl) ?_
    have hHeld : (fun X : World => X.cell? ⟨b1,0,none⟩ = some (.slice a Z.length c) ∧ X.cell? ⟨b0,0,none⟩ = some (.int .i64 m.id) ∧ X.cell? ⟨b0,1,none⟩ = some (.int .i64 m.n) ∧ X.cell? ⟨b0,2,none⟩ = some (.slice A.ra m.rows.length A.rc) ∧ X.cell? ⟨b0,3,none⟩ = some (.slice (some ⟨sb,so,none⟩) m.sung.length A.sc) ∧ X.cell? ⟨b0,4,none⟩ = some (.bool m.done)) wr.drew := (KS _ hbd)
    refine gt_take (i := 0) (v := ?_) rfl (by kernel_rfl) (by kernel_rfl) (by kernel_rfl) (by kernel_rfl) (fun _ _ _ h => h) (Or.inl ⟨by rfl, ?_⟩) hHeld ?_
    rotate_left
    ·(intro X hSX;(try dsimp only at hSX);obtain ⟨g0,g1,g2,g3,g4,g5⟩ := hSX;go_simp;try with_reducible rfl)
    try simp only [Act.put,List.setIfInBounds_toArray,List.set_cons_zero,List.set_cons_succ]
    refine gt_take (i := 1) (v := ?_) rfl (by kernel_rfl) (by kernel_rfl) (by kernel_rfl) (by kernel_rfl) (fun _ _ _ h => h) (Or.inl ⟨by rfl, ?_⟩) hHeld ?_
    rotate_left
    ·(intro X hSX;(try dsimp only at hSX);obtain ⟨g0,g1,g2,g3,g4,g5⟩ := hSX;go_simp;try with_reducible rfl)
    try simp only [Act.put,List.setIfInBounds_toArray,List.set_cons_zero,List.set_cons_succ]
    refine gt_take (i := 2) (v := ?_) rfl (by kernel_rfl) (by kernel_rfl) (by kernel_rfl) (by kernel_rfl) (fun _ _ _ h => h) (Or.inl ⟨by rfl, ?_⟩) hHeld ?_
    rotate_left
    ·(intro X hSX;(try dsimp only at hSX);obtain ⟨g0,g1,g2,g3,g4,g5⟩ := hSX;go_simp;try with_reducible rfl)
    try simp only [Act.put,List.setIfInBounds_toArray,List.set_cons_zero,List.set_cons_succ]
    refine gt_one (i := 3) rfl (by kernel_rfl) (by kernel_rfl) (fun K hK => ?_)
    go_simp
    go_at_call 141
    refine hT.mono ?_
    rintro e V1 ⟨(⟨_,rfl⟩ | ⟨h,_⟩),hb2⟩
    case inr => cases h
    have hbV1 : Below wr.heap.size wr V1 := hbd.trans (hb2.mono hbd.size)
    obtain ⟨ta',tc',et,hA⟩ := ow_txt_app t (Cel.ow_below HO.out hbV1) HZl.out
    cases et
    have hba := oneA16 V1 (.cells #[.string (sv t)] 9)
    refine hK.out _ _ (KS _ hbV1) (fun hHeldN => ?_)
    clear hK hHeld
    have hHeld := hHeldN
    try simp only [Act.put,List.setIfInBounds_toArray,List.set_cons_zero,List.set_cons_succ]
    refine gt_one (i := 4) rfl (by kernel_rfl) (by kernel_rfl) (fun K hK => ?_)
    go_simp
    refine hK.out _ _ (KS _ (hbV1.trans (hba.mono hbV1.size))) (fun hHeldN => ?_)
    clear hK hHeld
    have hHeld := hHeldN
    try simp only [Act.put,List.setIfInBounds_toArray,List.set_cons_zero,List.set_cons_succ]
    refine gt_one (i := 5) rfl (by kernel_rfl) (by kernel_rfl) (fun K hK => ?_)
    refine step_append_of (by rfl) _ _ _ _ (by rfl) (.slice a Z.length c) _ (by rfl) (by rfl) hA ⟨rfl,rfl,rfl,rfl⟩ ?_
    rintro v9 w4 ⟨a9,c9,f9,rfl,o9,p9,q9⟩
    have hs1 := hbV1.size
    have hB0 : Bx w4 b0 103 #[.int .i64 m.id,.int .i64 m.n,.slice A.ra m.rows.length A.rc,.slice A.sa m.sung.length A.sc,.bool m.done] := (HY0.out.below hbV1).wrt q9 (fun kk => (hff _ kk).1.2.2.2 rfl)
    have hB1 : Bx w4 b1 33 #[.slice a Z.length c] := (HY1.out.below hbV1).wrt q9 (fun kk => (hff _ kk).1.2.1 rfl)
    have hk9 : w4.cell? ⟨b1,0,none⟩ = some (.slice a Z.length c) ∧ w4.cell? ⟨b0,0,none⟩ = some (.int .i64 m.id) ∧ w4.cell? ⟨b0,1,none⟩ = some (.int .i64 m.n) ∧ w4.cell? ⟨b0,2,none⟩ = some (.slice A.ra m.rows.length A.rc) ∧ w4.cell? ⟨b0,3,none⟩ = some (.slice (some ⟨sb,so,none⟩) m.sung.length A.sc) ∧ w4.cell? ⟨b0,4,none⟩ = some (.bool m.done) := by
     obtain ⟨e0,e1,e2,e3,e4⟩ := Bx.r5 hB0
     rw [HSA.out] at e3
     exact ⟨hB1.at 0 rfl,e0,e1,e2,e3,e4⟩
    have z1 := hB1.f 0
    refine hK.out _ _ hk9 (fun hHeldN => ?_)
    clear hK hHeld
    have hHeld := hHeldN
    try simp only [Act.put,List.setIfInBounds_toArray,List.set_cons_zero,List.set_cons_succ]
    refine gt_last rfl (by kernel_rfl) (by kernel_rfl) (fun K hK => ?_)
    go_simp
    refine hK.out _ _ ?_
    have hWs := Wrt.set w4 b1 0 (.slice a9 (Z.length + 1) c9)
    have HL : Hid ((Z ++ [t]).length = Z.length + 1) := by rw [Hid,List.length_append];rfl
    have HP0 : Hid (Bx (w4.setCell ⟨b1,0,none⟩ (.slice a9 (Z.length + 1) c9)) b0 103 #[.int .i64 m.id,.int .i64 m.n,.slice A.ra m.rows.length A.rc,.slice A.sa m.sung.length A.sc,.bool m.done]) := hB0.wrt hWs (fun e => hne e)
    have HP1 : Hid (Bx (w4.setCell ⟨b1,0,none⟩ (.slice a9 (Z.length + 1) c9)) b1 33 #[.slice a9 (Z ++ [t]).length c9]) := by
     rw [Hid,HL.out]
     simpa using hB1.setC 0 (.slice a9 (Z.length + 1) c9)
    have hf9 : ∀ b,f9 b → (w0.heap.size ≤ b ∧ b ≠ b1 ∧ b ≠ b2 ∧ b ≠ b0) ∧ (f0 b ∨ X.heap.size ≤ b) := fun b hb => by
     rcases p9 b hb with kk | kk
     ·exact hff b kk
     ·have := HB.out.size
      exact ⟨⟨by omega,by omega,by omega,by omega⟩,.inr (by omega)⟩
    have HP2 : Hid (Cel.ow (w4.setCell ⟨b1,0,none⟩ (.slice a9 (Z.length + 1) c9)) (scl (Z ++ [t])) (.slice a9 (Z ++ [t]).length c9) f9) := by
     rw [Hid,HL.out]
     exact Cel.ow_wrt o9 hWs (fun b hb e => (hf9 b hb).1.2.1 e)
    have HP3 : Hid (∀ b,f9 b → (w0.heap.size ≤ b ∧ b ≠ b1 ∧ b ≠ b2 ∧ b ≠ b0) ∧ (f0 b ∨ X.heap.size ≤ b)) := hf9
    have hW4 : Wrt (fun x => x = b1 ∨ f0 x) X w4 := (HW.out.trans (Wrt.of_below hbV1) (fun _ _ h => h)).trans q9 (fun b hbl hb => ((hff b hb).2).elim (fun h => .inr h) (fun h => absurd hbl (by omega)))
    have HP4 : Hid (Wrt (fun x => x = b1 ∨ f0 x) X (w4.setCell ⟨b1,0,none⟩ (.slice a9 (Z.length + 1) c9))) := hW4.trans hWs (fun _ _ h => .inl h)
    have HP5 : Hid (Below w0.heap.size w0 (w4.setCell ⟨b1,0,none⟩ (.slice a9 (Z.length + 1) c9))) := hWs.below (q9.below (HB.out.trans (hbV1.mono HB.out.size)) (HB.out.trans (hbV1.mono HB.out.size)).size (fun b hb => (hff b hb).1.1)) (q9.below (HB.out.trans (hbV1.mono HB.out.size)) (HB.out.trans (hbV1.mono HB.out.size)).size (fun b hb => (hff b hb).1.1)).size (fun b e => by omega)
    clear hHeld hK hk9 z1 hB0 hB1 o9 p9 q9 hA hW4 hWs hf9 KS hbd hbV1 hba hT
    generalize w4.setCell ⟨b1,0,none⟩ (.slice a9 (Z.length + 1) c9) = W9 at *
    go_wp2
    go_roundw
    case rel => exact ⟨k + 1,a9,c9,Z ++ [t],f9,by omega,by go_num,HZ1.out.symm,HA2,by rw [← HSA.out];exact HP0.out,HP1.out,HP2.out,HP3.out,HP4.out,HP5.out⟩
    case measure => simp [intOf];omega
  ·have k1 : ¬ ((k : Int) < (m.sung.length : Int)) := by omega
   have eZ : Z = m.sung.map (txtOf m.rows n) := by rw [hZ.out,show k = m.sung.length by omega,List.take_length]
   subst eZ
   have HAll : Hid (m.sung.all (hadB m.rows m.k) = true) := by
    rw [Hid,List.all_eq_true,HKn.out]
    intro x hx
    obtain ⟨j,hj,rfl⟩ := List.mem_iff_getElem.1 hx
    have := hAll.out j (by omega)
    simpa [el,hj] using this
   clear hx0 hO hW hB hZ hAll
   have c1 := hx1.at 0 (v := .slice a (m.sung.map (txtOf m.rows n)).length c) rfl
   have HC1 : Hid (wr.cell? ⟨b1,0,none⟩ = some (.slice a (m.sung.map (txtOf m.rows n)).length c)) := c1
   clear c1 hx1
   go_wp2
   first | go_end0 | go_ret
   refine ⟨.inl ⟨HOk.out,HAll.out,rfl,a,c,f, ?_⟩,HW.out⟩
   rw [HKn.out]
   exact ⟨HC1.out,HO.out,fun b hb => ⟨(hff b hb).1.1,(hff b hb).1.2.1,(hff b hb).1.2.2.1⟩⟩
end Go.Proofs.Ytlnmdfgcpfbleaa
namespace Go.Proofs.Ytlnmdfgcpfbleaa
set_option linter.unusedVariables false
set_option linter.unusedSimpArgs false
open Go.RowKit Go.Sort
attribute [local irreducible] sv
def VoQ (m : Mb) (w0 X0 : World) (b1 b2 : Nat) (b : Bool) (w' : World) : Prop := (b = true → (okMb m = true ∧ m.sung.all (hadB m.rows m.k) = true) ∧ ∃ a c f,w'.cell? ⟨b1,0,none⟩ = some (.slice a (m.sung.map (txtOf m.rows m.k)).length c) ∧ Cel.ow w' (scl (m.sung.map (txtOf m.rows m.k))) (.slice a (m.sung.map (txtOf m.rows m.k)).length c) f ∧ ∀ b,f b → w0.heap.size ≤ b ∧ b ≠ b1 ∧ b ≠ b2) ∧ (b = false → ¬ (okMb m = true ∧ m.sung.all (hadB m.rows m.k) = true)) ∧ Wrt (fun x => x = b1) X0 w'
theorem voi_yes {m : Mb} (h : okMb m = true ∧ m.sung.all (hadB m.rows m.k) = true) : voiM m = (m.sung.map (txtOf m.rows m.k)) := by rw [voiM,if_pos h.1,voiL,if_pos h.2]
theorem voi_no {m : Mb} (h : ¬ (okMb m = true ∧ m.sung.all (hadB m.rows m.k) = true)) : voiM m = [] := by
 unfold voiM voiL
 split
 ·rename_i h1
  rw [if_neg (fun h2 => h ⟨h1,h2⟩)]
 ·rfl
set_option maxRecDepth 100000 in
set_option maxHeartbeats 1600000 in
theorem implVoice : ImplVoice := by
 intro A m w hv
 have hmf : ∀ (fn : Fn) (first cap : Array Value) (w : World),(Instr.makeFunc fn first cap).run Try.prog w = .ok (.func fn first cap) w := fun _ _ _ _ => rfl
 have a1 := oneA16 w (.cells #[.int .i64 m.id,.int .i64 m.n,.slice A.ra m.rows.length A.rc,.slice A.sa m.sung.length A.sc,.bool m.done] 103)
 have a2 := oneA16 (w.alloc (.cells #[.int .i64 m.id,.int .i64 m.n,.slice A.ra m.rows.length A.rc,.slice A.sa m.sung.length A.sc,.bool m.done] 103)) (.cells #[] 9)
 have a3 := oneA16 ((w.alloc (.cells #[.int .i64 m.id,.int .i64 m.n,.slice A.ra m.rows.length A.rc,.slice A.sa m.sung.length A.sc,.bool m.done] 103)).alloc (.cells #[] 9)) (.cells #[.slice (some ⟨w.heap.size + 1,0,none⟩) 0 0] 33)
 have hb1 : Below w.heap.size w (w.alloc (.cells #[.int .i64 m.id,.int .i64 m.n,.slice A.ra m.rows.length A.rc,.slice A.sa m.sung.length A.sc,.bool m.done] 103)) := a1
 have hb2 : Below w.heap.size w ((w.alloc (.cells #[.int .i64 m.id,.int .i64 m.n,.slice A.ra m.rows.length A.rc,.slice A.sa m.sung.length A.sc,.bool m.done] 103)).alloc (.cells #[] 9)) := hb1.trans (a2.mono hb1.size)
 have hb3 : Below w.heap.size w (((w.alloc (.cells #[.int .i64 m.id,.int .i64 m.n,.slice A.ra m.rows.length A.rc,.slice A.sa m.sung.length A.sc,.bool m.done] 103)).alloc (.cells #[] 9)).alloc (.cells #[.slice (some ⟨w.heap.size + 1,0,none⟩) 0 0] 33)) := hb2.trans (a3.mono hb2.size)
 have hx0 : Bx (((w.alloc (.cells #[.int .i64 m.id,.int .i64 m.n,.slice A.ra m.rows.length A.rc,.slice A.sa m.sung.length A.sc,.bool m.done] 103)).alloc (.cells #[] 9)).alloc (.cells #[.slice (some ⟨w.heap.size + 1,0,none⟩) 0 0] 33)) w.heap.size 103 #[.int .i64 m.id,.int .i64 m.n,.slice A.ra m.rows.length A.rc,.slice A.sa m.sung.length A.sc,.bool m.done] := ((Bx.new w 103 #[.int .i64 m.id,.int .i64 m.n,.slice A.ra m.rows.length A.rc,.slice A.sa m.sung.length A.sc,.bool m.done]).alloc (.cells #[] 9)).alloc (.cells #[.slice (some ⟨w.heap.size + 1,0,none⟩) 0 0] 33)
 have hx1 : Bx (((w.alloc (.cells #[.int .i64 m.id,.int .i64 m.n,.slice A.ra m.rows.length A.rc,.slice A.sa m.sung.length A.sc,.bool m.done] 103)).alloc (.cells #[] 9)).alloc (.cells #[.slice (some ⟨w.heap.size + 1,0,none⟩) 0 0] 33)) (w.heap.size + 1 + 1) 33 #[.slice (some ⟨w.heap.size + 1,0,none⟩) 0 0] := by
  have := Bx.new ((w.alloc (.cells #[.int .i64 m.id,.int .i64 m.n,.slice A.ra m.rows.length A.rc,.slice A.sa m.sung.length A.sc,.bool m.done] 103)).alloc (.cells #[] 9)) 33 #[.slice (some ⟨w.heap.size + 1,0,none⟩) 0 0]
  simp only [World.size_alloc] at this
  exact this
 have hsz : (((w.alloc (.cells #[.int .i64 m.id,.int .i64 m.n,.slice A.ra m.rows.length A.rc,.slice A.sa m.sung.length A.sc,.bool m.done] 103)).alloc (.cells #[] 9)).alloc (.cells #[.slice (some ⟨w.heap.size + 1,0,none⟩) 0 0] 33)).heap.size = w.heap.size + 1 + 1 + 1 := by simp only [World.size_alloc]
 have a4 := oneA16 (((w.alloc (.cells #[.int .i64 m.id,.int .i64 m.n,.slice A.ra m.rows.length A.rc,.slice A.sa m.sung.length A.sc,.bool m.done] 103)).alloc (.cells #[] 9)).alloc (.cells #[.slice (some ⟨w.heap.size + 1,0,none⟩) 0 0] 33)) (.cells #[.bool false] 4)
 have hb4 : Below w.heap.size w ((((w.alloc (.cells #[.int .i64 m.id,.int .i64 m.n,.slice A.ra m.rows.length A.rc,.slice A.sa m.sung.length A.sc,.bool m.done] 103)).alloc (.cells #[] 9)).alloc (.cells #[.slice (some ⟨w.heap.size + 1,0,none⟩) 0 0] 33)).alloc (.cells #[.bool false] 4)) := hb3.trans (a4.mono hb3.size)
 have hO0 : Cel.ow ((((w.alloc (.cells #[.int .i64 m.id,.int .i64 m.n,.slice A.ra m.rows.length A.rc,.slice A.sa m.sung.length A.sc,.bool m.done] 103)).alloc (.cells #[] 9)).alloc (.cells #[.slice (some ⟨w.heap.size + 1,0,none⟩) 0 0] 33)).alloc (.cells #[.bool false] 4)) (scl []) (.slice (some ⟨w.heap.size + 1,0,none⟩) 0 0) (fun _ => False) := ow_scl.2 ⟨_,0,none,rfl,OSo.nil _ _ (plainS _ _),fun b => by simp⟩
 have hT := told_any 140 #[] #[.pointer (some ⟨w.heap.size,0,none⟩),.pointer (some ⟨w.heap.size + 1 + 1,0,none⟩)] (((w.alloc (.cells #[.int .i64 m.id,.int .i64 m.n,.slice A.ra m.rows.length A.rc,.slice A.sa m.sung.length A.sc,.bool m.done] 103)).alloc (.cells #[] 9)).alloc (.cells #[.slice (some ⟨w.heap.size + 1,0,none⟩) 0 0] 33)) (fun b X => VoQ m w ((((w.alloc (.cells #[.int .i64 m.id,.int .i64 m.n,.slice A.ra m.rows.length A.rc,.slice A.sa m.sung.length A.sc,.bool m.done] 103)).alloc (.cells #[] 9)).alloc (.cells #[.slice (some ⟨w.heap.size + 1,0,none⟩) 0 0] 33)).alloc (.cells #[.bool false] 4)) (w.heap.size + 1 + 1) (((w.alloc (.cells #[.int .i64 m.id,.int .i64 m.n,.slice A.ra m.rows.length A.rc,.slice A.sa m.sung.length A.sc,.bool m.done] 103)).alloc (.cells #[] 9)).alloc (.cells #[.slice (some ⟨w.heap.size + 1,0,none⟩) 0 0] 33)).heap.size b X) (fun _ _ => enters_of Try.func140 (by kernel_rfl) rfl _ _)
  ((voi1_any A m w.heap.size (w.heap.size + 1 + 1) (((w.alloc (.cells #[.int .i64 m.id,.int .i64 m.n,.slice A.ra m.rows.length A.rc,.slice A.sa m.sung.length A.sc,.bool m.done] 103)).alloc (.cells #[] 9)).alloc (.cells #[.slice (some ⟨w.heap.size + 1,0,none⟩) 0 0] 33)).heap.size (some ⟨w.heap.size + 1,0,none⟩) 0 (fun _ => False) w _ hv hb4 (hx0.below a4) (hx1.below a4) hO0 (fun b h => h.elim) (by omega) (by omega) (fun h => h) (Bx.new (((w.alloc (.cells #[.int .i64 m.id,.int .i64 m.n,.slice A.ra m.rows.length A.rc,.slice A.sa m.sung.length A.sc,.bool m.done] 103)).alloc (.cells #[] 9)).alloc (.cells #[.slice (some ⟨w.heap.size + 1,0,none⟩) 0 0] 33)) 4 #[.bool false]).lt).mono (fun e w' ⟨h1,h2⟩ => by
   have h2' : Wrt (fun x => x = w.heap.size + 1 + 1) ((((w.alloc (.cells #[.int .i64 m.id,.int .i64 m.n,.slice A.ra m.rows.length A.rc,.slice A.sa m.sung.length A.sc,.bool m.done] 103)).alloc (.cells #[] 9)).alloc (.cells #[.slice (some ⟨w.heap.size + 1,0,none⟩) 0 0] 33)).alloc (.cells #[.bool false] 4)) w' := h2.mono (fun b _ h => h.elim id False.elim)
   rcases h1 with ⟨q1,q2,q3,q4⟩ | ⟨q1,q2⟩
   ·exact .inl ⟨q3,fun _ => ⟨⟨q1,q2⟩,q4⟩,(fun h => by cases h),h2'⟩
   ·exact .inr ⟨q2,(fun h => by cases h),fun _ => q1,h2'⟩)) (fun b X h => (Bx.new (((w.alloc (.cells #[.int .i64 m.id,.int .i64 m.n,.slice A.ra m.rows.length A.rc,.slice A.sa m.sung.length A.sc,.bool m.done] 103)).alloc (.cells #[] 9)).alloc (.cells #[.slice (some ⟨w.heap.size + 1,0,none⟩) 0 0] 33)) 4 #[.bool false]).wrt h.2.2 (fun k => by omega))
 have HB4 : Hid (Below w.heap.size w ((((w.alloc (.cells #[.int .i64 m.id,.int .i64 m.n,.slice A.ra m.rows.length A.rc,.slice A.sa m.sung.length A.sc,.bool m.done] 103)).alloc (.cells #[] 9)).alloc (.cells #[.slice (some ⟨w.heap.size + 1,0,none⟩) 0 0] 33)).alloc (.cells #[.bool false] 4))) := hb4
 have HSz : Hid ((((w.alloc (.cells #[.int .i64 m.id,.int .i64 m.n,.slice A.ra m.rows.length A.rc,.slice A.sa m.sung.length A.sc,.bool m.done] 103)).alloc (.cells #[] 9)).alloc (.cells #[.slice (some ⟨w.heap.size + 1,0,none⟩) 0 0] 33)).heap.size = w.heap.size + 1 + 1 + 1) := hsz
 clear a1 a2 a3 a4 hb1 hb2 hb3 hx0 hx1 hb4 hO0 hv hsz
 unfold mbV mbC
 go_enter Try.func131,Try.ntmps131
 go_wp2_with fail
 generalize (((w.alloc (.cells #[.int .i64 m.id,.int .i64 m.n,.slice A.ra m.rows.length A.rc,.slice A.sa m.sung.length A.sc,.bool m.done] 103)).alloc (.cells #[] 9)).alloc (.cells #[.slice (some ⟨w.heap.size + 1,0,none⟩) 0 0] 33)) = W0 at *
 refine hT.mono ?_
 rintro e Y ⟨b,X,rfl,⟨hQ1,hQ2,hWX⟩,hWt⟩
 have hs := HSz.out
 have hBX : Below w.heap.size w X := hWX.below HB4.out HB4.out.size (fun x e => by omega)
 have hBY : Below w.heap.size w Y := hWt.below hBX hBX.size (fun x e => by omega)
 have HBY : Hid (Below w.heap.size w Y) := hBY
 clear hT hWX hBX hBY
 cases b with
 | true =>
  obtain ⟨hy,a,c,f,hc,hO,hf⟩ := hQ1 rfl
  have HZ : Hid (voiM m = (m.sung.map (txtOf m.rows m.k))) := voi_yes hy
  have hbl := World.block_lt_of_cell? _ _ hc
  have hc2 : Y.cell? ⟨w.heap.size + 1 + 1,0,none⟩ = some (.slice a (m.sung.map (txtOf m.rows m.k)).length c) := (World.cell?_of_block (hWt.block _ hbl (by show ¬ (w.heap.size + 1 + 1 = W0.heap.size);omega))).trans hc
  have HO : Hid (Cel.ow Y (scl (m.sung.map (txtOf m.rows m.k))) (.slice a (m.sung.map (txtOf m.rows m.k)).length c) f) := Cel.ow_wrt hO hWt (fun b hb e => (hf b hb).2.2 e)
  have HF : Hid (∀ b,f b → w.heap.size ≤ b) := fun b hb => (hf b hb).1
  clear hQ1 hQ2 hc hO hf hy hWt
  generalize (m.sung.map (txtOf m.rows m.k)) = TT at *
  go_wp2
  go_ret
  rw [HZ.out]
  exact ⟨a,c,rfl,f,HO.out,HF.out,HBY.out⟩
 | false =>
  have HZ : Hid (voiM m = []) := voi_no (hQ2 rfl)
  clear hQ1 hQ2 hWt
  go_wp2
  go_ret
  rw [HZ.out]
  exact ⟨some ⟨Y.heap.size,0,none⟩,0,rfl,fun _ => False,ow_scl.2 ⟨_,0,none,rfl,OSo.nil _ _ (plainS _ _),fun b => by simp⟩,fun b h => h.elim,HBY.out.trans ((oneA16 Y _).mono HBY.out.size)⟩
end Go.Proofs.Ytlnmdfgcpfbleaa
namespace Go.Proofs.Ytlnmdfgcpfbleaa
set_option linter.unusedVariables false
set_option linter.unusedSimpArgs false
open Go.RowKit Go.Sort
abbrev Bok := Nat → Option (List UInt8)
def bokC (F : Bok) (j : Nat) : Value := if j % 2 = 0 then .bool (F (j / 2)).isSome else .string (sv ((F (j / 2)).getD []))
def bokZ (j : Nat) : Value := if j % 2 = 0 then .bool false else .string ⟨#[]⟩
theorem bok_zero : bokC (fun _ => none) = bokZ := by
 funext j
 unfold bokC bokZ
 split
 ·rfl
 ·have : sv [] = ⟨#[]⟩ := by unfold sv;rfl
  simp only [Option.getD_none,this]
def upB (F : Bok) (q : Nat) (t : List UInt8) : Bok := fun j => if j = q then some t else F j
theorem bok_up (F : Bok) (q : Nat) (t : List UInt8) : bokC (upB F q t) = upA (upA (bokC F) (q * 2) (.bool true)) (q * 2 + 1) (.string (sv t)) := by
 funext j
 unfold upA bokC upB
 by_cases e1 : j = q * 2 + 1
 ·subst e1
  have a1 : ¬ (q * 2 + 1) % 2 = 0 := by omega
  have a2 : (q * 2 + 1) / 2 = q := by omega
  simp [a1,a2]
 ·rw [if_neg e1]
  by_cases e2 : j = q * 2
  ·subst e2
   have a2 : (q * 2) / 2 = q := by omega
   simp [a2]
  ·rw [if_neg e2]
   have a3 : ¬ j / 2 = q := by omega
   simp [a3]
theorem VAt.page {w : World} {B : Nat} {F : Bok} (h : VAt w B 0 120 (bokC F)) {q : Nat} (hq : q < 60) : w.cell? ⟨B,q * 2,none⟩ = some (.bool (F q).isSome) ∧ w.cell? ⟨B,q * 2 + 1,none⟩ = some (.string (sv ((F q).getD []))) ∧ w.frozen? ⟨B,q * 2,none⟩ = false ∧ w.frozen? ⟨B,q * 2 + 1,none⟩ = false := by
 have h1 := h.cell (q * 2) (by omega)
 have h2 := h.cell (q * 2 + 1) (by omega)
 have f1 := h.free (q * 2) (by omega)
 have f2 := h.free (q * 2 + 1) (by omega)
 have a1 : ¬ (q * 2 + 1) % 2 = 0 := by omega
 have a2 : (q * 2 + 1) / 2 = q := by omega
 have a3 : (q * 2) / 2 = q := by omega
 have a4 : (q * 2) % 2 = 0 := by omega
 simp only [Nat.zero_add,bokC,a1,a2,a3,a4,if_true,if_false] at h1 h2 f1 f2
 exact ⟨h1,h2,f1,f2⟩
theorem VAt.write {w : World} {B : Nat} {F : Bok} (h : VAt w B 0 120 (bokC F)) {q : Nat} (hq : q < 60) (t : List UInt8) : VAt ((w.setCell ⟨B,q * 2,none⟩ (.bool true)).setCell ⟨B,q * 2 + 1,none⟩ (.string (sv t))) B 0 120 (bokC (upB F q t)) := by
 have h1 := h.set (i := q * 2) (by omega) (.bool true)
 have h2 := h1.set (i := q * 2 + 1) (by omega) (.string (sv t))
 simp only [Nat.zero_add] at h2
 rw [bok_up]
 exact h2
theorem Try.infoSb : (Try.prog.info? 118).map (fun i => (i.zero,i.size,i.bytes)) = some (some (.agg (vA 120 bokZ)),120,1440) := by kernel_rfl
theorem Try.infoPg : (Try.prog.info? 116).map (fun i => (i.zero,i.size,i.bytes)) = some (some (.agg #[.bool false,.string ⟨#[]⟩]),2,24) := by kernel_rfl
theorem voiL_no {m : Mb} (h : (voiL m).2 = false) : (voiL m).1 = [] ∧ 0 < m.sung.length := by
 unfold voiL at h ⊢
 split at h
 ·cases h
 ·rename_i hn
  rw [if_neg hn]
  refine ⟨rfl, ?_⟩
  rcases Nat.eq_zero_or_pos m.sung.length with e | e
  ·rw [List.length_eq_zero_iff.1 e] at hn;simp at hn
  ·exact e
theorem voiL_len {m : Mb} (h : (voiL m).2 = true) : (voiL m).1.length = m.sung.length := by
 unfold voiL at h ⊢
 split at h
 ·rename_i hy;rw [if_pos hy];simp
 ·cases h
def TakR (I : Nat → Bok → Prop) (m : Mb) (B : Nat) (w w' : World) (e : Ending) : Prop := ∃ F,VAt w' B 0 120 (bokC F) ∧ Wrt (fun b => b = B) w w' ∧
 ((e = .returned (.bool true) ∧ I m.sung.length F) ∨ (e = .returned (.bool false) ∧ ∃ h,h < m.sung.length ∧ I h F ∧ ∃ t,F (el m.sung h).toNat = some t ∧ t ≠ (voiL m).1.getD h []))
attribute [local irreducible] sv
set_option maxRecDepth 100000 in
set_option maxHeartbeats 3200000 in
theorem tks_any (B : Nat) (A : Ma) (m : Mb) (i n : Nat) (ok : OkM m i n) (hvo : (voiL m).2 = true) (I : Nat → Bok → Prop) (hI : ∀ h F,h < m.sung.length → I h F → (F (el m.sung h).toNat = none ∨ F (el m.sung h).toNat = some ((voiL m).1.getD h [])) → I (h + 1) (upB F (el m.sung h).toNat ((voiL m).1.getD h [])))
  (F0 : Bok) (h0 : I 0 F0) (w : World) (hb : VAt w B 0 120 (bokC F0)) (hm : MbP w A m) (hSg : ∀ X,Wrt (fun b => b = B) w X → Vec X A.sa m.sung.length m.sung) :
  Calls Try.prog 106 #[.pointer (some ⟨B,0,none⟩),mbV A m] w fun e w' => TakR I m B w w' e := by
 have hmix := mixed17
 have hb0 := oneA16 w (.cells #[.int .i64 m.id,.int .i64 m.n,.slice A.ra m.rows.length A.rc,.slice A.sa m.sung.length A.sc,.bool m.done] 103)
 have hx0 := Bx.new w 103 #[.int .i64 m.id,.int .i64 m.n,.slice A.ra m.rows.length A.rc,.slice A.sa m.sung.length A.sc,.bool m.done]
 have hV := implVoice A m (w.alloc (.cells #[.int .i64 m.id,.int .i64 m.n,.slice A.ra m.rows.length A.rc,.slice A.sa m.sung.length A.sc,.bool m.done] 103)) (hm.below hb0)
 have hvm : voiM m = (voiL m).1 := by rw [voiM,if_pos (okMb_iff.2 ⟨i,n,ok⟩)]
 have hvl := voiL_len hvo
 have hml := ok.sl
 rw [hvm] at hV
 have HSe : Hid (∀ h,h < m.sung.length → ∃ q : Nat,el m.sung h = (q : Int) ∧ q < 60) := fun h hh => by
  have := (ok.sg h hh).1
  exact ⟨(el m.sung h).toNat,by omega,by omega⟩
 have HI : Hid (∀ h F,h < m.sung.length → I h F → (F (el m.sung h).toNat = none ∨ F (el m.sung h).toNat = some ((voiL m).1.getD h [])) → I (h + 1) (upB F (el m.sung h).toNat ((voiL m).1.getD h []))) := hI
 have HSg : Hid (∀ X,Wrt (fun b => b = B) w X → Vec X A.sa m.sung.length m.sung) := hSg
 have hBw := hb.blk
 unfold TakR
 unfold mbV mbC at hV ⊢
 generalize hWW : w.alloc (.cells #[.int .i64 m.id,.int .i64 m.n,.slice A.ra m.rows.length A.rc,.slice A.sa m.sung.length A.sc,.bool m.done] 103) = W at *
 have HW : Hid (Wrt (fun b => b = B) w W) := Wrt.of_below hb0
 have HB0 : Hid (VAt W B 0 120 (bokC F0)) := hb.below hb0 hBw
 have HX0 : Hid (Bx W w.heap.size 103 #[.int .i64 m.id,.int .i64 m.n,.slice A.ra m.rows.length A.rc,.slice A.sa m.sung.length A.sc,.bool m.done]) := hx0
 have hWs := hb0.size
 generalize (voiL m).1 = T at *
 obtain ⟨c0,c1,c2,c3,c4⟩ := Bx.r5 hx0
 clear hm hb hb0 hx0 hI hSg ok hvo hvm
 go_enter Try.func106,Try.ntmps106
 go_wp2_with fail
 refine hV.mono ?_
 rintro e W1 ⟨ta,tc,rfl,hN⟩
 obtain ⟨ft,hft,hfn,hb1⟩ := hN
 have hW1s := hb1.size
 have HW1 : Hid (Wrt (fun b => b = B) w W1) := HW.out.trans (Wrt.of_below hb1) (fun _ _ h => h)
 have HB1 : Hid (VAt W1 B 0 120 (bokC F0)) := HB0.out.below hb1 (by omega)
 have HT : Hid (∀ X,Wrt (fun b => b = B) W1 X → TxS X ta T) := fun X hX => (ow_txp (Cel.ow_wrt hft hX (fun b hb e => by have := hfn b hb;omega))).txs
 clear c0 c1 c2 c3 c4
 obtain ⟨c0,c1,c2,c3,c4⟩ := Bx.r5 (HX0.out.below hb1)
 have n1 : ((T.length : Int) != (m.sung.length : Int)) = false := by rw [hvl];exact bne_self_eq_false _
 have HVl : Hid (T.length = m.sung.length) := hvl
 clear hV hft hfn hb1 hWW HX0 hvl HB0 HW
 go_wp2_with fail
 clear n1
 go_loopw [19] (fun v wr => ∃ (h : Nat) (F : Bok),h ≤ m.sung.length ∧ v = .int .i64 (h : Int) ∧ VAt wr B 0 120 (bokC F) ∧ Wrt (fun b => b = B) W1 wr ∧ I h F) (fun v _ => m.sung.length - (intOf v).toNat)
 case atStart => exact ⟨0,F0,Nat.zero_le _,rfl,HB1.out,Wrt.refl _ _,h0⟩
 case round =>
  obtain ⟨h,F,hh,rfl,hbk,hwt,hinv⟩ := hrel
  have HBk : Hid (VAt wr B 0 120 (bokC F)) := hbk
  have HWt : Hid (Wrt (fun b => b = B) W1 wr) := hwt
  have HIn : Hid (I h F) := hinv
  have HWw : Hid (Wrt (fun b => b = B) w wr) := HW1.out.trans hwt (fun _ _ h => h)
  clear hbk hwt hinv c0 c1 c2 c3 c4
  by_cases hlt : h < m.sung.length
  ·have k1 : (h : Int) < (m.sung.length : Int) := by omega
   have k0 : (0 : Int) ≤ (h : Int) := by omega
   obtain ⟨q,eq,hq⟩ := HSe.out h hlt
   have q0 : (0 : Int) ≤ (q : Int) := by omega
   have q1 : (q : Int) < 60 := by omega
   obtain ⟨sb,so,hsa,hsc⟩ : ∃ b o,A.sa = some ⟨b,o,none⟩ ∧ wr.cell? ⟨b,o + h,none⟩ = some (.int .i64 (q : Int)) := by
    rcases (HSg.out wr HWw.out).2.2 with e | ⟨b,o,e,hc⟩
    ·omega
    ·exact ⟨b,o,e,by rw [hc h hlt,eq]⟩
   obtain ⟨tb,to_,hta,htc⟩ : ∃ b o,ta = some ⟨b,o,none⟩ ∧ ∀ X,Wrt (fun b => b = B) W1 X → X.cell? ⟨b,o + h,none⟩ = some (.string (sv (T.getD h []))) := by
    rcases HT.out W1 (Wrt.refl _ _) with e | ⟨b,o,e,hc⟩
    ·have := HVl.out;omega
    ·refine ⟨b,o,e,fun X hX => ?_⟩
     rcases HT.out X hX with e' | ⟨b',o',e',hc'⟩
     ·have := HVl.out;omega
     ·rw [e] at e'
      cases e'
      exact hc' h (by have := HVl.out;omega)
   have HNx : Hid ((F q = none ∨ F q = some (T.getD h [])) → I (h + 1) (upB F q (T.getD h []))) := fun hf => by
    have := HI.out h F hlt HIn.out
    rw [eq] at this
    exact this hf
   have HQ : Hid ((el m.sung h).toNat = q) := by rw [Hid,eq];rfl
   have t1 : (h : Int) < (T.length : Int) := by have := HVl.out;omega
   have pg := HBk.out.page hq
   obtain ⟨p0,p1,z0,z1⟩ := pg
   have htw := htc wr HWt.out
   have HTw : Hid (∀ X,Wrt (fun b => b = B) W1 X → X.cell? ⟨tb,to_ + h,none⟩ = some (.string (sv (T.getD h [])))) := htc
   rw [hsa]
   subst hta
   clear htc eq hsa
   obtain ⟨tt,htt⟩ : ∃ tt,Hid (T.getD h [] = tt) := ⟨_,rfl⟩
   rw [htt.out] at htw
   have HTw2 : Hid (∀ X,Wrt (fun b => b = B) W1 X → X.cell? ⟨tb,to_ + h,none⟩ = some (.string (sv tt))) := by have := HTw.out;rw [htt.out] at this;exact this
   have HNx2 : Hid ((F q = none ∨ F q = some tt) → I (h + 1) (upB F q tt)) := by have := HNx.out;rw [htt.out] at this;exact this
   clear HTw HNx
   have LT : ∀ {x v},wr.cell? x = some v → ∀ q : Bk wr,q.w.cell? x = some v := fun h q => (q.h.cell (World.block_lt_of_cell? _ _ h)).trans h
   have y0 := LT p0
   have y1 := LT p1
   have yt := LT htw
   clear LT p0 p1 z0 z1 htw
   cases hF : F q with
   | none =>
     have HNy : Hid (I (h + 1) (upB F q (tt))) := HNx2.out (.inl hF)
     rw [hF] at y0
     simp only [Option.isSome_none] at y0
     clear hF HNx2 y1
     go_upto_region 7 with fail
     clear hsc
     refine wp_region_bk (by kernel_rfl) (by kernel_rfl) ?_
     repeat (go_big_quiet_step ((first | rfl)))
     refine wpQuiet_nil ?_
     intro wE hw'
     obtain ⟨⟨w11,hb11⟩,hw''⟩ := hw'
     have hwe : wE = w11 := hw''
     clear hw''
     subst hwe
     have y1 := 0
     go_upto_region 9 with fail
     have HBk2 : Hid (VAt wE B 0 120 (bokC F)) := HBk.out.below hb11 HBk.out.blk
     have HWt2 : Hid (Wrt (fun b => b = B) W1 wE) := HWt.out.trans (Wrt.of_below hb11) (fun _ _ h => h)
     have HWw2 : Hid (Wrt (fun b => b = B) w wE) := HWw.out.trans (Wrt.of_below hb11) (fun _ _ h => h)
     clear y0 y1 yt hb11 HBk HWt HWw
     generalize wE = V1 at *
     have htw := HTw2.out V1 HWt2.out
     have LT : ∀ {x v},V1.cell? x = some v → ∀ q : Bk V1,q.w.cell? x = some v := fun h q => (q.h.cell (World.block_lt_of_cell? _ _ h)).trans h
     have yt := LT htw
     clear htw LT
     refine wp_region_quiet_tail (C := fun w' => ∃ p : Bk V1,w' = p.w) 8 hmix (by kernel_rfl) ⟨⟨V1.drewN 1,belowN (Below.refl _ _)⟩,rfl⟩ ?_
     simp only [List.take_succ_cons,List.take_zero]
     repeat (go_big_quiet_step ((first | rfl)))
     refine wpQuiet_nil ?_
     intro wE hw'
     obtain ⟨⟨w11,hb11⟩,hw''⟩ := hw'
     have hwe : wE = w11 := hw''
     clear hw''
     subst hwe
     simp only [List.drop_succ_cons,List.drop_zero]
     have HBk3 : Hid (VAt wE B 0 120 (bokC F)) := HBk2.out.below hb11 HBk2.out.blk
     have HWt3 : Hid (Wrt (fun b => b = B) W1 wE) := HWt2.out.trans (Wrt.of_below hb11) (fun _ _ h => h)
     have HWw3 : Hid (Wrt (fun b => b = B) w wE) := HWw2.out.trans (Wrt.of_below hb11) (fun _ _ h => h)
     clear yt hb11 HBk2 HWt2 HWw2
     obtain ⟨p0,p1,z0,z1⟩ := HBk3.out.page hq
     have HFi : Hid (VAt ((wE.setCell ⟨B,q * 2,none⟩ (.bool true)).setCell ⟨B,q * 2 + 1,none⟩ (.string (sv (tt)))) B 0 120 (bokC (upB F q (tt)))) := HBk3.out.write hq _
     have HFt : Hid (Wrt (fun b => b = B) W1 ((wE.setCell ⟨B,q * 2,none⟩ (.bool true)).setCell ⟨B,q * 2 + 1,none⟩ (.string (sv (tt))))) := (HWt3.out.trans (Wrt.set _ B _ _) (fun _ _ h => h)).trans (Wrt.set _ B _ _) (fun _ _ h => h)
     go_wp2
     go_roundw
     case rel => exact ⟨h + 1,_,by omega,by go_num,HFi.out,HFt.out,HNy.out⟩
     case measure => simp [intOf];omega
   | some t' =>
    rw [hF] at y0 y1
    simp only [Option.isSome_some,Option.getD_some] at y0 y1
    by_cases ht : t' = tt
    ·have HNy : Hid (I (h + 1) (upB F q (tt))) := HNx2.out (.inr (by rw [hF,ht]))
     have g3 : ((sv t').toList == (sv tt).toList) = true := by rw [ht];simp
     clear hF HNx2 ht
     go_upto_region 7 with fail
     clear hsc
     refine wp_region_bk (by kernel_rfl) (by kernel_rfl) ?_
     repeat (go_big_quiet_step ((first | rfl)))
     refine wpQuiet_nil ?_
     intro wE hw'
     obtain ⟨⟨w11,hb11⟩,hw''⟩ := hw'
     have hwe : wE = w11 := hw''
     clear hw''
     subst hwe
     clear g3
     go_upto_region 9 with fail
     have HBk2 : Hid (VAt wE B 0 120 (bokC F)) := HBk.out.below hb11 HBk.out.blk
     have HWt2 : Hid (Wrt (fun b => b = B) W1 wE) := HWt.out.trans (Wrt.of_below hb11) (fun _ _ h => h)
     have HWw2 : Hid (Wrt (fun b => b = B) w wE) := HWw.out.trans (Wrt.of_below hb11) (fun _ _ h => h)
     clear y0 y1 yt hb11 HBk HWt HWw
     generalize wE = V1 at *
     have htw := HTw2.out V1 HWt2.out
     have LT : ∀ {x v},V1.cell? x = some v → ∀ q : Bk V1,q.w.cell? x = some v := fun h q => (q.h.cell (World.block_lt_of_cell? _ _ h)).trans h
     have yt := LT htw
     clear htw LT
     refine wp_region_quiet_tail (C := fun w' => ∃ p : Bk V1,w' = p.w) 8 hmix (by kernel_rfl) ⟨⟨V1.drewN 1,belowN (Below.refl _ _)⟩,rfl⟩ ?_
     simp only [List.take_succ_cons,List.take_zero]
     repeat (go_big_quiet_step ((first | rfl)))
     refine wpQuiet_nil ?_
     intro wE hw'
     obtain ⟨⟨w11,hb11⟩,hw''⟩ := hw'
     have hwe : wE = w11 := hw''
     clear hw''
     subst hwe
     simp only [List.drop_succ_cons,List.drop_zero]
     have HBk3 : Hid (VAt wE B 0 120 (bokC F)) := HBk2.out.below hb11 HBk2.out.blk
     have HWt3 : Hid (Wrt (fun b => b = B) W1 wE) := HWt2.out.trans (Wrt.of_below hb11) (fun _ _ h => h)
     have HWw3 : Hid (Wrt (fun b => b = B) w wE) := HWw2.out.trans (Wrt.of_below hb11) (fun _ _ h => h)
     clear yt hb11 HBk2 HWt2 HWw2
     obtain ⟨p0,p1,z0,z1⟩ := HBk3.out.page hq
     have HFi : Hid (VAt ((wE.setCell ⟨B,q * 2,none⟩ (.bool true)).setCell ⟨B,q * 2 + 1,none⟩ (.string (sv (tt)))) B 0 120 (bokC (upB F q (tt)))) := HBk3.out.write hq _
     have HFt : Hid (Wrt (fun b => b = B) W1 ((wE.setCell ⟨B,q * 2,none⟩ (.bool true)).setCell ⟨B,q * 2 + 1,none⟩ (.string (sv (tt))))) := (HWt3.out.trans (Wrt.set _ B _ _) (fun _ _ h => h)).trans (Wrt.set _ B _ _) (fun _ _ h => h)
     go_wp2
     go_roundw
     case rel => exact ⟨h + 1,_,by omega,by go_num,HFi.out,HFt.out,HNy.out⟩
     case measure => simp [intOf];omega
    ·have g3 : ((sv t').toList == (sv tt).toList) = false := by rw [sv_list,sv_list];simpa using ht
     have HE : Hid (∃ h,h < m.sung.length ∧ I h F ∧ ∃ t,F (el m.sung h).toNat = some t ∧ t ≠ T.getD h []) := ⟨h,hlt,HIn.out,t',by rw [HQ.out];exact hF,by rw [htt.out];exact ht⟩
     clear hF HNx2 ht
     go_upto_region 7 with fail
     clear hsc
     refine wp_region_bk (by kernel_rfl) (by kernel_rfl) ?_
     repeat (go_big_quiet_step ((first | rfl)))
     refine wpQuiet_nil ?_
     intro wE hw'
     obtain ⟨⟨w11,hb11⟩,hw''⟩ := hw'
     have hwe : wE = w11 := hw''
     clear hw''
     subst hwe
     have HBk2 : Hid (VAt wE B 0 120 (bokC F)) := HBk.out.below hb11 HBk.out.blk
     have HWw2 : Hid (Wrt (fun b => b = B) w wE) := HWw.out.trans (Wrt.of_below hb11) (fun _ _ h => h)
     clear y0 y1 yt hb11 HBk HWt HWw g3
     go_wp2
     go_ret
     exact ⟨F,HBk2.out,HWw2.out,.inr ⟨rfl,HE.out⟩⟩
  ·have k1 : ¬ ((h : Int) < (m.sung.length : Int)) := by omega
   have e : h = m.sung.length := by omega
   have HE : Hid (I m.sung.length F) := by rw [← e];exact HIn.out
   clear e
   go_wp2
   go_ret
   exact ⟨F,HBk.out,HWw.out,.inl ⟨rfl,HE.out⟩⟩
end Go.Proofs.Ytlnmdfgcpfbleaa