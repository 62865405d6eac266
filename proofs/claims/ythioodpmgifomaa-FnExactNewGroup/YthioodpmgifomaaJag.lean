/-
  Texts in one: Pgb Nmp Nma Nmd Cln Nmg Pgc.
-/
import Derived.Test.YthioodpmgifomaaJaf
import Derived.Test.YthioodpmgifomaaJac
import Derived.Test.YthioodpmgifomaaJad
import Derived.Test.YthioodpmgifomaaJae
import Derived.Test.YthioodpmgifomaaJab
import Derived.Shelf.Strconv.Clone
import Derived.Shelf.SlGeneric
import Derived.Lib.SliceRun
namespace Go.Proofs.Ythioodpmgifomaa
set_option linter.unusedVariables false
set_option linter.unusedSimpArgs false
open Go.RowKit Go.Sort
theorem Bx.r10p {w : World} {B : Nat} {T : TypeId} {x0 x1 x2 x3 x4 x5 x6 x7 x8 x9 : Value} (h : Bx w B T #[x0,x1,x2,x3,x4,x5,x6,x7,x8,x9]) : (w.cell? ⟨B,0,none⟩ = some x0 ∧ w.cell? ⟨B,1,none⟩ = some x1 ∧ w.cell? ⟨B,2,none⟩ = some x2 ∧ w.cell? ⟨B,3,none⟩ = some x3 ∧ w.cell? ⟨B,4,none⟩ = some x4) ∧ w.cell? ⟨B,5,none⟩ = some x5 ∧ w.cell? ⟨B,6,none⟩ = some x6 ∧ w.cell? ⟨B,7,none⟩ = some x7 ∧ w.cell? ⟨B,8,none⟩ = some x8 ∧ w.cell? ⟨B,9,none⟩ = some x9 :=
 ⟨⟨h.at 0 rfl,h.at 1 rfl,h.at 2 rfl,h.at 3 rfl,h.at 4 rfl⟩,h.at 5 rfl,h.at 6 rfl,h.at 7 rfl,h.at 8 rfl,h.at 9 rfl⟩
theorem okMl_split (x : Ml) (n : Int) : okMl x n = (belN n [x.fr,x.to] && okRw x.row n) := by
 rw [belN_two,okMl]
 cases inB x.fr 0 (n - 1) <;> cases inB x.to 0 (n - 1) <;> simp
theorem vec_pair (w : World) (x y : Int) (hx : I64v x) (hy : I64v y) : Vec (w.alloc (.cells #[.int .i64 x,.int .i64 y] 2)) (some ⟨w.heap.size,0,none⟩) [x,y].length [x,y] := by
 refine ⟨rfl,fun z hz => ?_,.inr ⟨w.heap.size,0,rfl,fun k hk => ?_⟩⟩
 ·rcases List.mem_cons.1 hz with h | h
  ·rw [h];exact hx
  ·rw [List.mem_singleton.1 h];exact hy
 ·have hb := Bx.new w 2 #[.int .i64 x,.int .i64 y]
  match k,hk with
  | 0,_ => exact hb.at 0 rfl
  | 1,_ => exact hb.at 1 rfl
set_option maxRecDepth 100000 in
set_option maxHeartbeats 3200000 in
theorem gokI_any (A : Ga) (g : Gr) (w : World) (hv : GrP w A g) :
  Calls Try.prog 42 #[grV A g] w fun e w' => e = .returned (.bool (okGr g)) ∧ Below w.heap.size w w' := by
 have hb0 := oneA16 w (.cells #[.slice A.ma g.mem.length A.mc,.slice A.ua g.up.length A.uc,.slice A.la g.mail.length A.lc] 66)
 have hx0 := Bx.new w 66 #[.slice A.ma g.mem.length A.mc,.slice A.ua g.up.length A.uc,.slice A.la g.mail.length A.lc]
 have HV : Hid (GrP (w.alloc (.cells #[.slice A.ma g.mem.length A.mc,.slice A.ua g.up.length A.uc,.slice A.la g.mail.length A.lc] 66)) A g) := hv.below hb0
 have HX : Hid (Bx (w.alloc (.cells #[.slice A.ma g.mem.length A.mc,.slice A.ua g.up.length A.uc,.slice A.la g.mail.length A.lc] 66)) w.heap.size 66 #[.slice A.ma g.mem.length A.mc,.slice A.ua g.up.length A.uc,.slice A.la g.mail.length A.lc]) := hx0
 have HB0 : Hid (Below w.heap.size w (w.alloc (.cells #[.slice A.ma g.mem.length A.mc,.slice A.ua g.up.length A.uc,.slice A.la g.mail.length A.lc] 66))) := hb0
 have hI := isRl_any (g.mem.length : Int) (w.alloc (.cells #[.slice A.ma g.mem.length A.mc,.slice A.ua g.up.length A.uc,.slice A.la g.mail.length A.lc] 66))
 have hgs := hv.grs
 have hlm := hgs.lm
 have hlu := hgs.lu
 have hll := hgs.ll
 unfold maxLen at hlm hlu hll
 obtain ⟨c0,c1,c2⟩ := Bx.g3 hx0
 unfold grV grC
 clear hv hb0 hx0 hgs
 by_cases hn : inB (g.mem.length : Int) 1 5 = true
 rotate_left
 ·have hn' : inB (g.mem.length : Int) 1 5 = false := by simpa using hn
  have HZ : Hid (okGr g = false) := by
   by_cases h1 : 1 ≤ g.mem.length
   ·exact okGr_2 (fun h2 => hn (inB7.2 ⟨by omega,by omega⟩))
   ·exact okGr_1 h1
  rw [hn'] at hI
  clear hn hn'
  go_enter Try.func42,Try.ntmps42
  go_upto_region 1 with fail
  generalize w.alloc (.cells #[.slice A.ma g.mem.length A.mc,.slice A.ua g.up.length A.uc,.slice A.la g.mail.length A.lc] 66) = W0 at *
  go_wp2_with (go_at_call 97;refine hI.mono ?_;rintro e w' ⟨rfl,hw'⟩;rw [hw'];clear hw')
  go_ret
  exact ⟨ret_bool (by rw [HZ.out]),HB0.out⟩
 rw [hn] at hI
 have hn5 := inB7.1 hn
 clear hn
 by_cases hu : g.up.length = g.mem.length
 rotate_left
 ·have HZ : Hid (okGr g = false) := okGr_3 hu
  have e1 : ((g.up.length : Int) != (g.mem.length : Int)) = true := by simp;omega
  clear hu
  go_enter Try.func42,Try.ntmps42
  go_upto_region 1 with fail
  generalize w.alloc (.cells #[.slice A.ma g.mem.length A.mc,.slice A.ua g.up.length A.uc,.slice A.la g.mail.length A.lc] 66) = W0 at *
  go_wp2_with (go_at_call 97;refine hI.mono ?_;rintro e w' ⟨rfl,hw'⟩;rw [hw'];clear hw')
  go_ret
  exact ⟨ret_bool (by rw [HZ.out]),HB0.out⟩
 have e1 : ((g.up.length : Int) != (g.mem.length : Int)) = false := by simp;omega
 have HU : Hid (g.up.length = g.mem.length) := hu
 clear hu
 by_cases hm : g.mail.length ≤ 200
 rotate_left
 ·have HZ : Hid (okGr g = false) := okGr_4 hm
  have e2 : (g.mail.length : Int) > 200 := by omega
  clear hm
  go_enter Try.func42,Try.ntmps42
  go_upto_region 1 with fail
  generalize w.alloc (.cells #[.slice A.ma g.mem.length A.mc,.slice A.ua g.up.length A.uc,.slice A.la g.mail.length A.lc] 66) = W0 at *
  go_wp2_with (go_at_call 97;refine hI.mono ?_;rintro e w' ⟨rfl,hw'⟩;rw [hw'];clear hw')
  go_ret
  exact ⟨ret_bool (by rw [HZ.out]),HB0.out⟩
 have e2 : ¬ (g.mail.length : Int) > 200 := by omega
 go_enter Try.func42,Try.ntmps42
 go_upto_region 1 with fail
 generalize w.alloc (.cells #[.slice A.ma g.mem.length A.mc,.slice A.ua g.up.length A.uc,.slice A.la g.mail.length A.lc] 66) = W0 at *
 go_wp2_with (go_at_call 97;refine hI.mono ?_;rintro e w' ⟨rfl,hw'⟩;rw [hw'];clear hw')
 clear c0 c1 c2 hI e1 e2
 go_loopw [32] (fun v wr => ∃ k : Nat,k ≤ g.mem.length ∧ v = .int .i64 (k : Int) ∧ Hid (∀ j,j < k → oneMb g j = true) ∧ Below W0.heap.size W0 wr) (fun v _ => g.mem.length - (intOf v).toNat)
 case atStart => exact ⟨0,Nat.zero_le _,rfl,fun j hj => by omega,Below.refl _ _⟩
 case round =>
  obtain ⟨k,hk,rfl,HA,hb⟩ := hrel
  have HB : Hid (Below W0.heap.size W0 wr) := hb
  by_cases hlt : k < g.mem.length
  ·obtain ⟨bb,off,Ak,hma,⟨d0,d1,d2,d3,d4⟩,hmp⟩ := (HV.out.below hb).member hlt
   have HF : Hid (oneMb g k = false → okGr g = false) := fun h => okGr_5 hlt h
   have HT : Hid (oneMb g k = true → ∀ j,j < k + 1 → oneMb g j = true) := fun h j hj => by
    rcases Nat.lt_succ_iff_lt_or_eq.1 hj with h1 | h1
    ·exact HA.out j h1
    ·rw [h1];exact h
   have HO : Hid (oneMb g k = (okMb (memN g k) && (decide ((memN g k).id = (k : Int)) && decide ((memN g k).n = (g.mem.length : Int))))) := rfl
   have k1 : (k : Int) < (g.mem.length : Int) := by omega
   have k0 : (0 : Int) ≤ (k : Int) := by omega
   generalize oneMb g k = on at *
   generalize memN g k = m at *
   rw [hma]
   have HMa : Hid (A.ma = some ⟨bb,off,none⟩) := hma
   have hba := oneA16 wr (.cells #[.int .i64 m.id,.int .i64 m.n,.slice Ak.ra m.rows.length Ak.rc,.slice Ak.sa m.sung.length Ak.sc,.bool m.done] 39)
   have hxm := Bx.new wr 39 #[.int .i64 m.id,.int .i64 m.n,.slice Ak.ra m.rows.length Ak.rc,.slice Ak.sa m.sung.length Ak.sc,.bool m.done]
   have HBa : Hid (Below W0.heap.size W0 (wr.alloc (.cells #[.int .i64 m.id,.int .i64 m.n,.slice Ak.ra m.rows.length Ak.rc,.slice Ak.sa m.sung.length Ak.sc,.bool m.done] 39))) := HB.out.trans (hba.mono HB.out.size)
   have hMk := memI_any Ak m (wr.alloc (.cells #[.int .i64 m.id,.int .i64 m.n,.slice Ak.ra m.rows.length Ak.rc,.slice Ak.sa m.sung.length Ak.sc,.bool m.done] 39)) (hmp.below hba)
   unfold mbV mbC at hMk
   obtain ⟨y0,y1,y2,y3,y4⟩ := Bx.r5 hxm
   clear hmp hb hba hxm hma
   go_upto_region 7 with fail
   clear d0 d1 d2 d3 d4
   generalize wr.alloc (.cells #[.int .i64 m.id,.int .i64 m.n,.slice Ak.ra m.rows.length Ak.rc,.slice Ak.sa m.sung.length Ak.sc,.bool m.done] 39) = W5 at *
   by_cases q1 : m.id = (k : Int)
   rotate_left
   ·have z1 : (m.id != (k : Int)) = true := by simp [q1]
    have HZ : Hid (okGr g = false) := HF.out (by rw [HO.out,decide_eq_false q1];simp)
    clear HF HT HO q1
    go_wp2_with fail
    go_ret
    exact ⟨ret_bool (by rw [HZ.out]),HB0.out.trans (HBa.out.mono HB0.out.size)⟩
   have z1 : (m.id != (k : Int)) = false := by simp [q1]
   by_cases q2 : m.n = (g.mem.length : Int)
   rotate_left
   ·have z2 : (m.n != (g.mem.length : Int)) = true := by simp [q2]
    have HZ : Hid (okGr g = false) := HF.out (by rw [HO.out,decide_eq_false q2];simp)
    clear HF HT HO q1 q2
    go_wp2_with fail
    go_ret
    exact ⟨ret_bool (by rw [HZ.out]),HB0.out.trans (HBa.out.mono HB0.out.size)⟩
   have z2 : (m.n != (g.mem.length : Int)) = false := by simp [q2]
   have HO2 : Hid (on = okMb m) := by rw [Hid,HO.out,decide_eq_true q1,decide_eq_true q2];simp
   clear HO q1 q2
   generalize okMb m = ob at *
   go_wp2_with fail
   refine hMk.mono ?_
   rintro e w6 ⟨rfl,hb6⟩
   have HB6 : Hid (Below W0.heap.size W0 w6) := HBa.out.trans (hb6.mono HBa.out.size)
   clear hMk hb6 y0 y1 y2 y3 y4 z1 z2
   cases ob with
   | false =>
    have HZ : Hid (okGr g = false) := HF.out HO2.out
    clear HF HT HO2
    go_wp2_with fail
    go_ret
    exact ⟨ret_bool (by rw [HZ.out]),HB0.out.trans (HB6.out.mono HB0.out.size)⟩
   | true =>
    have HZ : Hid (∀ j,j < k + 1 → oneMb g j = true) := HT.out HO2.out
    clear HF HT HO2
    go_wp2_with fail
    go_roundw
    case rel => exact ⟨k + 1,by omega,by go_num,HZ.out,HB6.out⟩
    case measure => simp [intOf];omega
  ·have k1 : ¬ ((k : Int) < (g.mem.length : Int)) := by omega
   have HM : Hid (∀ j,j < g.mem.length → oneMb g j = true) := fun j hj => HA.out j (by omega)
   obtain ⟨c0,c1,c2⟩ := Bx.g3 (HX.out.below hb)
   clear hb HA
   go_wp2_with fail
   clear c0 c1 c2 k1
   generalize wr = V at *
   go_loopw [56] (fun v wr => ∃ k : Nat,k ≤ g.mail.length ∧ v = .int .i64 (k : Int) ∧ Hid (∀ j,j < k → okMl (mailN g j) (g.mem.length : Int) = true) ∧ Below W0.heap.size W0 wr) (fun v _ => g.mail.length - (intOf v).toNat)
   case atStart => exact ⟨0,Nat.zero_le _,rfl,fun j hj => by omega,HB.out⟩
   case round =>
    obtain ⟨k,hk,rfl,HA,hb⟩ := hrel
    have HB2 : Hid (Below W0.heap.size W0 wr) := hb
    by_cases hlt : k < g.mail.length
    ·obtain ⟨bb,off,Ak,hla,d0,d1,⟨⟨d2,d3,d4,d5⟩,d6,d7,d8,d9⟩,hrp⟩ := (HV.out.below hb).letter hlt
     have hx64 := HV.out.i64.2 _ (mailN_mem hlt)
     have HF : Hid (okMl (mailN g k) (g.mem.length : Int) = false → okGr g = false) := fun h => okGr_6 hlt h
     have HT : Hid (okMl (mailN g k) (g.mem.length : Int) = true → ∀ j,j < k + 1 → okMl (mailN g j) (g.mem.length : Int) = true) := fun h j hj => by
      rcases Nat.lt_succ_iff_lt_or_eq.1 hj with h1 | h1
      ·exact HA.out j h1
      ·rw [h1];exact h
     have HO : Hid (okMl (mailN g k) (g.mem.length : Int) = (belN (g.mem.length : Int) [(mailN g k).fr,(mailN g k).to] && okRw (mailN g k).row (g.mem.length : Int))) := okMl_split _ _
     have k1 : (k : Int) < (g.mail.length : Int) := by omega
     have k0 : (0 : Int) ≤ (k : Int) := by omega
     generalize okMl (mailN g k) (g.mem.length : Int) = on at *
     generalize (mailN g k).row = r at *
     generalize (mailN g k).fr = fr at *
     generalize (mailN g k).to = tt at *
     rw [hla]
     have HLa : Hid (A.la = some ⟨bb,off,none⟩) := hla
     have hba := oneA16 wr (.cells #[.int .i64 fr,.int .i64 tt,.int .i64 r.ver,.slice Ak.ta r.txt.length Ak.tc,.slice Ak.ga r.got.length Ak.gc,.slice Ak.sa r.sus.length Ak.sc,.bool r.wed,.bool r.rdy,.int .i64 r.by_,.slice Ak.ma r.trm.length Ak.mc] 112)
     have hxm := Bx.new wr 112 #[.int .i64 fr,.int .i64 tt,.int .i64 r.ver,.slice Ak.ta r.txt.length Ak.tc,.slice Ak.ga r.got.length Ak.gc,.slice Ak.sa r.sus.length Ak.sc,.bool r.wed,.bool r.rdy,.int .i64 r.by_,.slice Ak.ma r.trm.length Ak.mc]
     have HBa : Hid (Below W0.heap.size W0 (wr.alloc (.cells #[.int .i64 fr,.int .i64 tt,.int .i64 r.ver,.slice Ak.ta r.txt.length Ak.tc,.slice Ak.ga r.got.length Ak.gc,.slice Ak.sa r.sus.length Ak.sc,.bool r.wed,.bool r.rdy,.int .i64 r.by_,.slice Ak.ma r.trm.length Ak.mc] 112))) := HB2.out.trans (hba.mono HB2.out.size)
     have hrp5 := hrp.below hba
     have HRp : Hid (RwP (wr.alloc (.cells #[.int .i64 fr,.int .i64 tt,.int .i64 r.ver,.slice Ak.ta r.txt.length Ak.tc,.slice Ak.ga r.got.length Ak.gc,.slice Ak.sa r.sus.length Ak.sc,.bool r.wed,.bool r.rdy,.int .i64 r.by_,.slice Ak.ma r.trm.length Ak.mc] 112)) Ak r) := hrp5
     have HXm : Hid (Bx (wr.alloc (.cells #[.int .i64 fr,.int .i64 tt,.int .i64 r.ver,.slice Ak.ta r.txt.length Ak.tc,.slice Ak.ga r.got.length Ak.gc,.slice Ak.sa r.sus.length Ak.sc,.bool r.wed,.bool r.rdy,.int .i64 r.by_,.slice Ak.ma r.trm.length Ak.mc] 112)) wr.heap.size 112 #[.int .i64 fr,.int .i64 tt,.int .i64 r.ver,.slice Ak.ta r.txt.length Ak.tc,.slice Ak.ga r.got.length Ak.gc,.slice Ak.sa r.sus.length Ak.sc,.bool r.wed,.bool r.rdy,.int .i64 r.by_,.slice Ak.ma r.trm.length Ak.mc]) := hxm
     obtain ⟨⟨y0,y1,_,_,_⟩,_⟩ := Bx.r10p hxm
     clear hrp hrp5 hb hba hxm hla
     go_upto_region 13 with fail
     clear d0 d1 d2 d3 d4 d5 d6 d7 d8 d9
     generalize wr.alloc (.cells #[.int .i64 fr,.int .i64 tt,.int .i64 r.ver,.slice Ak.ta r.txt.length Ak.tc,.slice Ak.ga r.got.length Ak.gc,.slice Ak.sa r.sus.length Ak.sc,.bool r.wed,.bool r.rdy,.int .i64 r.by_,.slice Ak.ma r.trm.length Ak.mc] 112) = W5 at *
     have hb7 := oneA16 W5 (.cells #[.int .i64 fr,.int .i64 tt] 2)
     have hAb := anb_any (g.mem.length : Int) W5.heap.size 0 2 [fr,tt] (W5.alloc (.cells #[.int .i64 fr,.int .i64 tt] 2)) (vec_pair W5 fr tt hx64.1 hx64.2.1) (by simp) (by simp) (by unfold maxLen;omega) (by omega)
     have HB7 : Hid (Below W0.heap.size W0 (W5.alloc (.cells #[.int .i64 fr,.int .i64 tt] 2))) := HBa.out.trans (hb7.mono HBa.out.size)
     have hRo := implRowOk Ak r (g.mem.length : Int) (W5.alloc (.cells #[.int .i64 fr,.int .i64 tt] 2)) (HRp.out.below hb7) (by unfold I64v;omega)
     obtain ⟨_,y5,y6,y7,y8,y9⟩ := Bx.r10p (HXm.out.below hb7)
     obtain ⟨⟨_,_,y2,y3,y4⟩,_⟩ := Bx.r10p (HXm.out.below hb7)
     unfold rwV rwC at hRo
     simp only [List.length_cons,List.length_nil,Nat.zero_add,Nat.reduceAdd] at hAb
     generalize belN (g.mem.length : Int) [fr,tt] = p at *
     clear hb7 hx64
     cases p with
     | false =>
      have HZ : Hid (okGr g = false) := HF.out (by rw [HO.out];rfl)
      clear HF HT HO hRo y2 y3 y4 y5 y6 y7 y8 y9
      go_wp2_with (go_at_call 99;refine hAb.mono ?_;rintro e w' ⟨rfl,hw'⟩;rw [hw'];clear hw')
      go_ret
      exact ⟨ret_bool (by rw [HZ.out]),HB0.out.trans (HB7.out.mono HB0.out.size)⟩
     | true =>
      have HO2 : Hid (on = okRw r (g.mem.length : Int)) := by rw [Hid,HO.out,Bool.true_and]
      clear HO
      generalize okRw r (g.mem.length : Int) = ob at *
      go_wp2_with (go_at_call 99;refine hAb.mono ?_;rintro e w' ⟨rfl,hw'⟩;rw [hw'];clear hw')
      refine hRo.mono ?_
      rintro e w6 ⟨rfl,hb6⟩
      have HB6 : Hid (Below W0.heap.size W0 w6) := HB7.out.trans (hb6.mono HB7.out.size)
      clear hRo hb6 hAb y0 y1 y2 y3 y4 y5 y6 y7 y8 y9
      cases ob with
      | false =>
       have HZ : Hid (okGr g = false) := HF.out HO2.out
       clear HF HT HO2
       go_wp2_with fail
       go_ret
       exact ⟨ret_bool (by rw [HZ.out]),HB0.out.trans (HB6.out.mono HB0.out.size)⟩
      | true =>
       have HZ : Hid (∀ j,j < k + 1 → okMl (mailN g j) (g.mem.length : Int) = true) := HT.out HO2.out
       clear HF HT HO2
       go_wp2_with fail
       go_roundw
       case rel => exact ⟨k + 1,by omega,by go_num,HZ.out,HB6.out⟩
       case measure => simp [intOf];omega
    ·have k1 : ¬ ((k : Int) < (g.mail.length : Int)) := by omega
     have HZ : Hid (okGr g = true) := okGr_yes (by omega) (by omega) HU.out hm HM.out (fun j hj => HA.out j (by omega))
     clear hb HA
     go_wp2_with fail
     go_ret
     exact ⟨ret_bool (by rw [HZ.out]),HB0.out.trans (HB2.out.mono HB0.out.size)⟩
theorem implGroupOk : ImplGroupOk := fun A g w h => gokI_any A g w h
end Go.Proofs.Ythioodpmgifomaa
namespace Go.Proofs.Ythioodpmgifomaa
set_option linter.unusedVariables false
set_option linter.unusedSimpArgs false
open Go.RowKit Go.Sort
def nmM (id n : Int) : Mb := ⟨id,n,List.replicate (newRw n).got.length (newRw n),[],false⟩
theorem newRw_len (n : Int) : (newRw n).got.length = if inB n 1 5 = true then n.toNat else 0 := by
 unfold newRw
 split <;> rename_i h <;> simp [h,zeroRw]
theorem nm_ok (id n : Int) : okMb (nmM id n) = (newMb id n).2 ∧ ((newMb id n).2 = true → (newMb id n).1 = nmM id n) ∧ ((newMb id n).2 = false → (newMb id n).1 = zeroMb) := by
 cases e1 : inB n 1 5 with
 | false =>
  rw [newMb_no (.inl e1)]
  exact ⟨okMb_1 (by show (inB n 1 5 && _) = false;rw [e1];rfl),(fun h => by cases h),fun _ => rfl⟩
 | true =>
  cases e2 : inB id 0 (n - 1) with
  | false =>
   rw [newMb_no (.inr e2)]
   exact ⟨okMb_1 (by show (inB n 1 5 && (inB id 0 (n - 1) && _)) = false;rw [e1,e2];rfl),(fun h => by cases h),fun _ => rfl⟩
  | true =>
   have hq := newMb_yes e1 e2
   have hM : (newMb id n).1 = nmM id n := by rw [hq,nmM,newRw_len,if_pos e1]
   have h2 : (newMb id n).2 = true := by rw [hq]
   exact ⟨by rw [← hM,h2];exact new_okM h2,fun _ => hM,fun h => by rw [h2] at h;cases h⟩
theorem nm_p (id n : Int) (h1 : I64v id) (h2 : I64v n) : FitM (nmM id n) ∧ Mb64 (nmM id n) ∧ szMb (nmM id n) ≤ 1048576 ∧ (newRw n).got.length ≤ 5 := by
 cases e1 : inB n 1 5 with
 | false =>
  have e : nmM id n = ⟨id,n,[],[],false⟩ := by rw [nmM,newRw_len,if_neg (by rw [e1];decide)];rfl
  rw [e]
  exact ⟨⟨fun r hr => absurd hr List.not_mem_nil,fun x hx => absurd hx List.not_mem_nil⟩,⟨h1,h2,fun r hr => absurd hr List.not_mem_nil⟩,by simp [szMb,szRs,szP],by rw [newRw_len,if_neg (by rw [e1];decide)];omega⟩
 | true =>
  have hn := inB7.1 e1
  have hq := newMb_yes e1 (inB7.2 (by omega) : inB 0 0 (n - 1) = true)
  obtain ⟨i,k,ok⟩ := okMb_iff.1 (new_okM (id := 0) (n := n) (by rw [hq]))
  have hr : (newMb 0 n).1.rows = (nmM id n).rows := by rw [hq,nmM,newRw_len,if_pos e1]
  have hlen : (newRw n).got.length ≤ 5 := by rw [newRw_len,if_pos e1];omega
  have hk : ∀ r ∈ (nmM id n).rows,OkR r k := fun r h => ok.rowOk r (by rw [hr];exact h)
  refine ⟨⟨fun r h => (hk r h).fit,fun x hx => absurd hx List.not_mem_nil⟩,⟨h1,h2,fun r h => ?_⟩, ?_,hlen⟩
  ·have hr := hk r h
   have hv := hr.ver
   cases e : r.rdy with
   | true => have := (hr.rdy e).2.1;have := hr.n5;exact ⟨⟨by omega,by omega⟩,by omega,by omega⟩
   | false => rw [Rw64,(hr.not e).1];exact ⟨⟨by omega,by omega⟩,by omega,by omega⟩
  ·have e2 : szP (nmM id n).rows (nmM id n).rows.length ≤ 300 * (nmM id n).rows.length := by
    unfold szP
    rw [List.take_length]
    exact sum_le szRw 300 _ (fun r h => (hk r h).c8.2)
   have hl : (nmM id n).rows.length ≤ 5 := by show (List.replicate _ _).length ≤ 5;rw [List.length_replicate];exact hlen
   unfold szMb szRs
   have : (nmM id n).sung.length = 0 := rfl
   omega
theorem fld_got (x0 x1 x3 x4 x5 x6 x7 : Value) (a : Option Addr) (k c : Nat) (w : World) : (Instr.field 51 (.agg #[x0,x1,.slice a k c,x3,x4,x5,x6,x7]) 2).run Try.prog w = .ok (.slice a k c) w := by kernel_rfl
set_option maxRecDepth 100000 in
set_option maxHeartbeats 1600000 in
theorem implNewMember : ImplNewMember := by
 intro id n w h1 h2
 have hmix := mixed17
 have hfd := fld_got
 have T0 := mb_start w id n
 have hx := Bx.new w 39 #[.int .i64 0,.int .i64 0,.slice none 0 0,.slice none 0 0,.bool false]
 have HR0 : Hid (Bx ((w.alloc (.cells #[.int .i64 0,.int .i64 0,.slice none 0 0,.slice none 0 0,.bool false] 39)).alloc (.cells #[.int .i64 id,.int .i64 n,.slice none 0 0,.slice none 0 0,.bool false] 39)) w.heap.size 39 #[.int .i64 0,.int .i64 0,.slice none 0 0,.slice none 0 0,.bool false]) := hx.alloc _
 have HT0 : Hid (MO w ((w.alloc (.cells #[.int .i64 0,.int .i64 0,.slice none 0 0,.slice none 0 0,.bool false] 39)).alloc (.cells #[.int .i64 id,.int .i64 n,.slice none 0 0,.slice none 0 0,.bool false] 39)) (w.heap.size + 1) ⟨none,0,none,0⟩ ⟨id,n,[],[],false⟩ (fun _ => False)) := T0
 have hNr : ∀ X,Calls Try.prog 105 #[.int .i64 n] X fun e w' => AnsRw X w' e (newRw n) := fun X => implNewRow n X h2
 obtain ⟨k1,k2,k3⟩ := nm_ok id n
 have HK : Hid (okMb (nmM id n) = (newMb id n).2 ∧ ((newMb id n).2 = true → (newMb id n).1 = nmM id n) ∧ ((newMb id n).2 = false → (newMb id n).1 = zeroMb)) := ⟨k1,k2,k3⟩
 have HP : Hid (FitM (nmM id n) ∧ Mb64 (nmM id n) ∧ szMb (nmM id n) ≤ 1048576 ∧ (newRw n).got.length ≤ 5) := nm_p id n h1 h2
 have hN5 := HP.out.2.2.2
 have HNN : Hid (nmM id n = ⟨id,n,List.replicate (newRw n).got.length (newRw n),[],false⟩) := rfl
 clear hx T0 k1 k2 k3 h1 h2
 generalize hNr0 : newRw n = rr at *
 clear hNr0
 go_enter Try.func106,Try.ntmps106
 go_wp2_with fail
 refine (hNr _).mono ?_
 rintro e wN ⟨Ar,rfl,fr,hr1,hr2,hr3⟩
 have HTN : Hid (MO w wN (w.heap.size + 1) ⟨none,0,none,0⟩ ⟨id,n,[],[],false⟩ (fun _ => False)) := HT0.out.step hr3
 have HRN : Hid (Bx wN w.heap.size 39 #[.int .i64 0,.int .i64 0,.slice none 0 0,.slice none 0 0,.bool false]) := HR0.out.below hr3
 clear hr1 hr2 hr3
 unfold rwV rwC
 go_wp2_with fail
 clear HT0 HR0
 go_loopw [14] (fun v wr => ∃ k : Nat,k ≤ rr.got.length ∧ v = .int .i64 (k : Int) ∧ ∃ A R fp,Hid (R = List.replicate k rr) ∧ MO w wr (w.heap.size + 1) A ⟨id,n,R,[],false⟩ fp ∧ Bx wr w.heap.size 39 #[.int .i64 0,.int .i64 0,.slice none 0 0,.slice none 0 0,.bool false]) (fun v _ => rr.got.length - (intOf v).toNat)
 case atStart => exact ⟨0,Nat.zero_le _,rfl,_,[],_,rfl,HTN.out,HRN.out⟩
 case round =>
  obtain ⟨k,hk,rfl,A,R,fp,hR,M,hres⟩ := hrel
  clear HTN HRN
  by_cases hlt : k < rr.got.length
  ·have k1 : (k : Int) < (rr.got.length : Int) := by omega
   have HRl : Hid (R.length ≤ 1000000) := Nat.le_trans (by rw [hR.out,List.length_replicate];omega : R.length ≤ 100) (by decide)
   have HRes : Hid (Bx wr w.heap.size 39 #[.int .i64 0,.int .i64 0,.slice none 0 0,.slice none 0 0,.bool false]) := hres
   have HM : Hid (MO w wr (w.heap.size + 1) A ⟨id,n,R,[],false⟩ fp) := M
   have c2 : wr.drew.cell? ⟨w.heap.size + 1,2,none⟩ = some (.slice A.ra R.length A.rc) := M.own.at 2 rfl
   have hbd : Below wr.heap.size wr wr.drew := (Same.drewN wr 1).below
   clear M hres
   go_wp2_with fail
   refine gt_begin (S := fun X : World => X.cell? ⟨w.heap.size + 1,2,none⟩ = some (.slice A.ra R.length A.rc)) 7 hmix (by kernel_rfl) ?_
   have hHeld : (fun X : World => X.cell? ⟨w.heap.size + 1,2,none⟩ = some (.slice A.ra R.length A.rc)) wr.drew := c2
   refine gt_take (i := 0) (v := ?_) rfl (by kernel_rfl) (by kernel_rfl) (by kernel_rfl) (by kernel_rfl) (fun _ _ _ h => h) (Or.inl ⟨by rfl, ?_⟩) hHeld ?_
   rotate_left
   ·(intro X hSX;(try dsimp only at hSX);have g0 := hSX;go_simp;try with_reducible rfl)
   try simp only [Act.put,List.setIfInBounds_toArray,List.set_cons_zero,List.set_cons_succ]
   refine gt_take (i := 1) (v := ?_) rfl (by kernel_rfl) (by kernel_rfl) (by kernel_rfl) (by kernel_rfl) (fun _ _ _ h => h) (Or.inl ⟨by rfl, ?_⟩) hHeld ?_
   rotate_left
   ·(intro X hSX;(try dsimp only at hSX);have g0 := hSX;go_simp;try with_reducible rfl)
   try simp only [Act.put,List.setIfInBounds_toArray,List.set_cons_zero,List.set_cons_succ]
   refine gt_pure (i := 2) (v := ?_) rfl (by kernel_rfl) (by kernel_rfl) (by kernel_rfl) (fun _ _ _ h => h) (Or.inl ⟨by rfl, ?_⟩) ?_
   rotate_left
   ·(intro X;go_simp;try with_reducible rfl)
   try simp only [Act.put,List.setIfInBounds_toArray,List.set_cons_zero,List.set_cons_succ]
   refine gt_one (i := 3) rfl (by kernel_rfl) (by kernel_rfl) (fun K hK => ?_)
   go_simp
   go_at_call 105
   refine (hNr _).mono ?_
   rintro e w1 ⟨Ar,rfl,fr,hr1,hr2,hr3⟩
   have hb1 : Below wr.heap.size wr w1 := hbd.trans (hr3.mono hbd.size)
   have hA := HM.out.push hb1 hr1 (fun b hb => hr2 b hb) HRl.out
   have d2 : w1.cell? ⟨w.heap.size + 1,2,none⟩ = some (.slice A.ra R.length A.rc) := (HM.out.own.below hb1).at 2 rfl
   have d3 := ((HM.out.own.below hb1).alloc (.cells (rwC Ar rr) 51)).at 2 rfl
   refine hK.out _ _ d2 (fun hHeldN => ?_)
   clear hK hHeld
   have hHeld := hHeldN
   try simp only [Act.put,List.setIfInBounds_toArray,List.set_cons_zero,List.set_cons_succ]
   unfold rwV
   unfold rwC at hA d3 ⊢
   refine gt_one (i := 4) rfl (by kernel_rfl) (by kernel_rfl) (fun K hK => ?_)
   go_simp
   refine hK.out _ _ d3 (fun hHeldN => ?_)
   clear hK hHeld
   have hHeld := hHeldN
   try simp only [Act.put,List.setIfInBounds_toArray,List.set_cons_zero,List.set_cons_succ]
   refine gt_one (i := 5) rfl (by kernel_rfl) (by kernel_rfl) (fun K hK => ?_)
   refine step_append_of (by rfl) _ _ _ _ (by rfl) (.slice A.ra R.length A.rc) _ (by rfl) (by rfl) hA ⟨rfl,rfl,rfl,rfl⟩ ?_
   rintro v9 w4 ⟨a9,c9,rfl,q1,q2,b4,b5,fp9,hM9⟩
   refine hK.out _ _ q1 (fun hHeldN => ?_)
   clear hK hHeld
   have hHeld := hHeldN
   try simp only [Act.put,List.setIfInBounds_toArray,List.set_cons_zero,List.set_cons_succ]
   refine gt_take (i := 6) (v := ?_) rfl (by kernel_rfl) (by kernel_rfl) (by kernel_rfl) (by kernel_rfl) (fun _ _ _ h => h) (Or.inl ⟨by rfl, ?_⟩) hHeld ?_
   rotate_left
   ·(intro X hSX;(try dsimp only at hSX);have g0 := hSX;go_simp;try with_reducible rfl)
   try simp only [Act.put,List.setIfInBounds_toArray,List.set_cons_zero,List.set_cons_succ]
   refine gt_last rfl (by kernel_rfl) (by kernel_rfl) (fun K hK => ?_)
   go_simp
   refine hK.out _ _ ?_
   have HM9 : Hid (MO w (w4.setCell ⟨w.heap.size + 1,2,none⟩ (.slice a9 (R.length + 1) c9)) (w.heap.size + 1) ⟨a9,c9,A.sa,A.sc⟩ ⟨id,n,R ++ [rr],[],false⟩ fp9) := hM9
   have HRes9 : Hid (Bx (w4.setCell ⟨w.heap.size + 1,2,none⟩ (.slice a9 (R.length + 1) c9)) w.heap.size 39 #[.int .i64 0,.int .i64 0,.slice none 0 0,.slice none 0 0,.bool false]) := (b5.block w.heap.size (Nat.lt_succ_self _)).trans HRes.out
   have HR9 : Hid (R ++ [rr] = List.replicate (k + 1) rr) := by rw [Hid,hR.out,List.replicate_succ']
   clear hM9 hA d2 d3 hr1 hr2 hr3
   generalize w4.setCell ⟨w.heap.size + 1,2,none⟩ (.slice a9 (R.length + 1) c9) = W9 at *
   go_wp2
   go_roundw
   case rel => exact ⟨k + 1,by omega,by go_num,_,_,_,HR9,HM9.out,HRes9.out⟩
   case measure => simp [intOf];omega
  ·have k1 : ¬ ((k : Int) < (rr.got.length : Int)) := by omega
   have hM : ((⟨id,n,R,[],false⟩ : Mb)) = nmM id n := by rw [HNN.out,hR.out,show k = rr.got.length by omega]
   have HMm : Hid ((⟨id,n,R,[],false⟩ : Mb) = nmM id n) := hM
   have hMP : MbP wr A (⟨id,n,R,[],false⟩ : Mb) := ⟨⟨fp,M.ls⟩,by rw [hM];exact HP.out.1,by rw [hM];exact HP.out.2.1,by rw [hM];exact HP.out.2.2.1⟩
   have hCk := memI_any A (⟨id,n,R,[],false⟩ : Mb) wr hMP
   have HOk : Hid (okMb (⟨id,n,R,[],false⟩ : Mb) = (newMb id n).2) := by rw [Hid,hM];exact HK.out.1
   rw [HOk.out] at hCk
   unfold mbV mbC at hCk
   have HMM : Hid (MO w wr (w.heap.size + 1) A (⟨id,n,R,[],false⟩ : Mb) fp) := M
   have HRs : Hid (Bx wr w.heap.size 39 #[.int .i64 0,.int .i64 0,.slice none 0 0,.slice none 0 0,.bool false]) := hres
   obtain ⟨o0,o1,o2,o3,o4⟩ := Bx.r5 M.own
   simp only [List.length_nil] at o0 o1 o2 o3 o4 hCk
   clear M hres hR hM hMP
   cases hb : (newMb id n).2 with
   | false =>
    have HZ : Hid ((newMb id n).1 = zeroMb) := HK.out.2.2 hb
    have HZb : Hid ((newMb id n).2 = false) := hb
    rw [hb] at hCk
    go_wp2_with fail
    refine hCk.mono ?_
    rintro e w2 ⟨rfl,hb2⟩
    have hR2 := HRs.out.below hb2
    have HB2 : Hid (Below w.heap.size w w2) := HMM.out.below.trans (hb2.mono HMM.out.below.size)
    obtain ⟨z0,z1,z2,z3,z4⟩ := Bx.r5 hR2
    obtain ⟨f0,f1,f2,f3,f4⟩ := hR2.f5
    clear hCk hR2 hb2 o0 o1 o2 o3 o4
    go_wp2
    refine bodyPost_ret (v := .tuple #[mbV ⟨none,0,none,0⟩ zeroMb,.bool false]) (by simp [results,Try.results106,go_sem,mbV,mbC,zeroMb, *]) rfl ?_
    rw [HZ.out,HZb.out]
    exact ⟨_,rfl,ansM_zero ((wrt5 w2 w.heap.size).below HB2.out HB2.out.size (fun b h => by omega))⟩
   | true =>
    have HZ : Hid ((newMb id n).1 = (⟨id,n,R,[],false⟩ : Mb)) := by rw [Hid,HMm.out];exact HK.out.2.1 hb
    have HZb : Hid ((newMb id n).2 = true) := hb
    rw [hb] at hCk
    go_wp2_with fail
    refine hCk.mono ?_
    rintro e w2 ⟨rfl,hb2⟩
    have hR2 := HRs.out.below hb2
    have M2 := HMM.out.step hb2
    obtain ⟨z0,z1,z2,z3,z4⟩ := Bx.r5 hR2
    obtain ⟨f0,f1,f2,f3,f4⟩ := hR2.f5
    have HA : Hid (NewL w (((((w2.setCell ⟨w.heap.size,0,none⟩ (.int .i64 id)).setCell ⟨w.heap.size,1,none⟩ (.int .i64 n)).setCell ⟨w.heap.size,2,none⟩ (.slice A.ra R.length A.rc)).setCell ⟨w.heap.size,3,none⟩ (.slice A.sa 0 A.sc)).setCell ⟨w.heap.size,4,none⟩ (.bool false)) (mbCels (⟨id,n,R,[],false⟩ : Mb)) (mbVals A (⟨id,n,R,[],false⟩ : Mb))) := M2.ans (Nat.le_refl _) (Nat.le_succ _)
    clear o0 o1 o2 o3 o4
    obtain ⟨o0,o1,o2,o3,o4⟩ := Bx.r5 M2.own
    simp only [List.length_nil] at o0 o1 o2 o3 o4
    clear hCk hR2 hb2 M2
    go_wp2
    refine bodyPost_ret (v := .tuple #[mbV A (⟨id,n,R,[],false⟩ : Mb),.bool true]) (by simp [results,Try.results106,go_sem,mbV,mbC, *]) rfl ?_
    rw [HZ.out,HZb.out]
    exact ⟨_,rfl,HA.out⟩
end Go.Proofs.Ythioodpmgifomaa
namespace Go.Proofs.Ythioodpmgifomaa
set_option linter.unusedVariables false
set_option linter.unusedSimpArgs false
open Go.RowKit Go.Sort
end Go.Proofs.Ythioodpmgifomaa
namespace Go.Proofs.Ythioodpmgifomaa
set_option linter.unusedVariables false
set_option linter.unusedSimpArgs false
open Go.RowKit Go.Sort
end Go.Proofs.Ythioodpmgifomaa
namespace Go.Proofs.Ythioodpmgifomaa
set_option linter.unusedSimpArgs false
set_option linter.unusedVariables false
open Go.RowKit Go.Sort Go.Shelf
end Go.Proofs.Ythioodpmgifomaa
namespace Go.Proofs.Ythioodpmgifomaa
set_option linter.unusedVariables false
set_option linter.unusedSimpArgs false
open Go.RowKit Go.Sort
section
variable {P : Program} {l : List Oper} {Q : Exit → Act → World → Prop} {S : World → Prop}
theorem gt_oneN {i z : Nat} {o : Oper} {fuel : Nat} {listed : Array Bool} {a : Act} {w : World} (hn : ¬ S w) (hi : l[i]? = some o) (hr : Region.ready .any l.toArray listed = [i])
  (h : ∀ K' : Act → World → Prop,Shut (∀ a w,GT P l Q S z fuel (listed.setIfInBounds i true) a w → K' a w) → if Region.wanted o (yielded l.toArray a.tmps) = true then Oper.wp P o a w K' Q else K' (a.put o.dst undef) w) : GT P l Q S z (fuel + 1) listed a w := by
 have hi' : l.toArray[i]? = some o := by simpa using hi
 refine ⟨fun h0 => (by rw [hr] at h0;cases h0),fun j hj => ?_⟩
 rw [hr] at hj
 simp at hj
 subst hj
 exact wpOp_step hi' (fun K' hK => h K' (fun a w hW => hK a w ⟨fun _ hS => absurd hS hn,hW⟩))
theorem gt_oneZ {z : Nat} {o : Oper} {fuel : Nat} {listed : Array Bool} {a : Act} {w : World} (hi : l[z]? = some o) (hr : Region.ready .any l.toArray listed = [z])
  (h : ∀ K' : Act → World → Prop,Shut (∀ a w,GT P l Q S z fuel (listed.setIfInBounds z true) a w → K' a w) → if Region.wanted o (yielded l.toArray a.tmps) = true then Oper.wp P o a w K' Q else K' (a.put o.dst undef) w) : GT P l Q S z (fuel + 1) listed a w := by
 have hi' : l.toArray[z]? = some o := by simpa using hi
 refine ⟨fun h0 => (by rw [hr] at h0;cases h0),fun j hj => ?_⟩
 rw [hr] at hj
 simp at hj
 subst hj
 exact wpOp_step hi' (fun K' hK => h K' (fun a w hW => hK a w ⟨fun e _ => absurd rfl e,hW⟩))
end
end Go.Proofs.Ythioodpmgifomaa
namespace Go.Proofs.Ythioodpmgifomaa
set_option linter.unusedVariables false
set_option linter.unusedSimpArgs false
open Go.RowKit Go.Sort
structure GQ (w X : World) (o : Nat) (C : Array Value) (us : List Value) (g : Gr) (fp : Fp) : Prop where
 own : Bx X o 66 C
 ls : owL X (gr3 g) us fp
 fpl : ∀ b,fp b → w.heap.size + 2 ≤ b ∧ b ≠ o
 lo : w.heap.size ≤ o
 sz : w.heap.size + 2 ≤ X.heap.size
 below : Below w.heap.size w X
theorem GO.gq {w X : World} {o : Nat} {A : Ga} {g : Gr} {fp : Fp} (h : GO w X o A g fp) : GQ w X o (grC A g) (grVals A g) g fp := ⟨h.own,h.ls,h.fpl,h.lo,h.sz,h.below⟩
theorem GQ.put {w X : World} {o : Nat} {C : Array Value} {us : List Value} {g : Gr} {fp : Fp} (h : GQ w X o C us g fp) {j : Nat} {c : Cel} (hj : (gr3 g)[j]? = some c) : ∃ u f,us[j]? = some u ∧ Cel.ow X c u f ∧ (∀ b,f b → (w.heap.size + 2 ≤ b ∧ b ≠ o) ∧ b < X.heap.size) ∧ (∀ b,f b → fp b) ∧
  ∀ (X1 : World) (c' : Cel) (u' : Value) (f' : Fp) (g' : Gr),Wrt f X X1 → Cel.ow X1 c' u' f' → (∀ b,f' b → f b ∨ X.heap.size ≤ b) → (gr3 g).set j c' = gr3 g' → ∃ fp',GQ w X1 o C (us.set j u') g' fp' ∧ ∀ b,fp' b → f' b ∨ fp b := by
 obtain ⟨u,f,hu,hc,hs,hp⟩ := owL_at h.ls hj
 have hlt := owL_lt h.ls
 have hol := h.own.lt
 have hsz := h.sz
 have hlo := h.lo
 have hfo : ∀ b,f b → (w.heap.size + 2 ≤ b ∧ b ≠ o) ∧ b < X.heap.size := fun b hb => ⟨h.fpl b (hs b hb),hlt b (hs b hb)⟩
 refine ⟨u,f,hu,hc,hfo,hs,fun X1 c' u' f' g' hw hc' hf' e1 => ?_⟩
 have ho1 : Bx X1 o 66 C := h.own.wrt hw (fun hb => (hfo o hb).1.2 rfl)
 have hws := hw.size
 have hf'o : ∀ b,f' b → w.heap.size + 2 ≤ b ∧ b ≠ o := fun b hb => by
  rcases hf' b hb with k | k
  ·exact (hfo b k).1
  ·omega
 have k1 := hp X1 c' u' f' hw.size hc' (fun b hb hn => hw.block b (hlt b hb) hn) (fun b hb hb2 => by
  rcases hf' b hb with k | k
  ·exact k
  ·have := hlt b hb2;omega)
 rw [e1] at k1
 refine ⟨_,⟨ho1,k1,fun b hb => ?_,h.lo,by omega,hw.below h.below h.below.size (fun b hb => by have := (hfo b hb).1.1;omega)⟩,fun b hb => hb.imp id (fun h => h.1)⟩
 rcases hb with hb | hb
 ·exact hf'o b hb
 ·exact h.fpl b hb.1
structure Kept (X W1 w4 : World) (fp fr fp' : Fp) : Prop where
 new : ∀ b,X.heap.size ≤ b → b < W1.heap.size → w4.heap[b]? = W1.heap[b]?
 mid : ∀ b,b < X.heap.size → ¬ fp b → w4.heap[b]? = X.heap[b]?
 fpp : ∀ b,fp' b → fp b ∨ fr b ∨ W1.heap.size ≤ b
 sz : W1.heap.size ≤ w4.heap.size
theorem GQ.pushM {w X W1 : World} {o : Nat} {C : Array Value} {u1 u2 : Value} {g : Gr} {fp : Fp} {a : Option Addr} {c : Nat} (h : GQ w X o C [.slice a g.mem.length c,u1,u2] g fp) (hb : Below X.heap.size X W1) {m : Mb} {Am : Ma} {fr : Fp} {nm : Nat} (hr : owL W1 (mbCels m) (mbVals Am m) fr) (hfr : ∀ b,fr b → X.heap.size ≤ b) (hn : W1.heap[nm]? = some (.cells (mbC Am m) 39 (0,0))) (hl : g.mem.length ≤ 1000000) :
  ∀ Y,Same Y W1 → ∃ v' w4,(Builtin.append_ #[63,63] 63 #[.slice a g.mem.length c,.slice (some ⟨nm,0,none⟩) 1 1]).run Try.prog Y = .ok v' w4 ∧
   ∃ a' c' fp',v' = .slice a' (g.mem.length + 1) c' ∧ GQ w w4 o C [.slice a' (g.mem.length + 1) c',u1,u2] { g with mem := g.mem ++ [m] } fp' ∧ Kept X W1 w4 fp fr fp' := by
 intro Y hY
 have hbY : Below W1.heap.size W1 Y := hY.below
 have hXY : Below X.heap.size X Y := hb.trans (hbY.mono hb.size)
 have hXs := hb.size
 obtain ⟨u,f,hu,hc,hfo,hfs,hput⟩ := h.put (j := 0) (c := lcl 5 mb5 g.mem) rfl
 have hu' : u = .slice a g.mem.length c := (Option.some.inj hu).symm
 subst hu'
 have hrY := ow_mb5 (owL_below hr hbY)
 obtain ⟨a',c',w4,fp',k1,k2,k3,k4⟩ := ow_pushF (P := Try.prog) mb5_len (w := Y) 63 63 39 _ 72 Try.underlying63 Try.infoMb rfl (by omega) (x := m) (Cel.ow_below hc hXY) hrY (fun b h1 h2 => by have := (hfo b h1).2;have := hfr b h2;omega) (owL_ones hrY (mb5_one m)) nm 39 (by rw [hY.heap];exact hn) (by unfold maxLen;omega) (by omega)
 have hw : Wrt f X w4 := (Wrt.of_below (f := f) hXY).trans k3 (fun _ _ h => h)
 obtain ⟨fp2,hq,hq2⟩ := hput w4 (lcl 5 mb5 (g.mem ++ [m])) (.slice a' (g.mem.length + 1) c') fp' { g with mem := g.mem ++ [m] } hw k2 (fun b hb1 => by
  rcases k4 b hb1 with k | k | k
  ·exact .inl k
  ·exact .inr (hfr b k)
  ·right;have := hXY.size;omega) rfl
 have hYs : Y.heap.size = W1.heap.size := hY.size
 have hsz := h.sz
 refine ⟨_,w4,k1,a',c',fp2,rfl,hq,fun b h1 h2 => ?_,fun b h1 h2 => ?_,fun b hb => ?_,by have := k3.size;omega⟩
 ·rw [k3.block b (by omega) (fun k => by have := (hfo b k).2;omega),hY.heap]
 ·rw [k3.block b (by omega) (fun k => h2 (hfs b k)),hXY.block b (by omega)]
 ·rcases hq2 b hb with k | k
  ·rcases k4 b k with k | k | k
   ·exact .inl (hfs b k)
   ·exact .inr (.inl k)
   ·exact .inr (.inr (by omega))
  ·exact .inl k
theorem GQ.pushU {w X W1 : World} {o : Nat} {C : Array Value} {u0 u2 : Value} {g : Gr} {fp : Fp} {a : Option Addr} {c : Nat} (h : GQ w X o C [u0,.slice a g.up.length c,u2] g fp) (hb : Below X.heap.size X W1) (b : Bool) {nb : Nat} (hn : W1.heap[nb]? = some (.cells #[.bool b] 4 (0,0))) (hl : g.up.length ≤ 1000000) :
  ∀ Y,Same Y W1 → ∃ v' w4,(Builtin.append_ #[57,57] 57 #[.slice a g.up.length c,.slice (some ⟨nb,0,none⟩) 1 1]).run Try.prog Y = .ok v' w4 ∧
   ∃ a' c' fp',v' = .slice a' (g.up.length + 1) c' ∧ GQ w w4 o C [u0,.slice a' (g.up.length + 1) c',u2] { g with up := g.up ++ [b] } fp' ∧ Kept X W1 w4 fp (fun _ => False) fp' := by
 intro Y hY
 have hbY : Below W1.heap.size W1 Y := hY.below
 have hXY : Below X.heap.size X Y := hb.trans (hbY.mono hb.size)
 have hXs := hb.size
 obtain ⟨u,f,hu,hc,hfo,hfs,hput⟩ := h.put (j := 1) (c := ocl g.up) rfl
 have hu' : u = .slice a g.up.length c := (Option.some.inj hu).symm
 subst hu'
 rw [ocl_lcl] at hc
 have hrY : owL Y (bo1 b) [.bool b] (fun _ => False) := owL_v ⟨rfl,fun _ h => h⟩
 obtain ⟨a',c',w4,fp',k1,k2,k3,k4⟩ := ow_pushF (P := Try.prog) bo1_len (w := Y) 57 57 4 _ 1 Try.underlying57 Try.infoBo rfl (by omega) (x := b) (Cel.ow_below hc hXY) hrY (fun b h1 h2 => h2) (owL_ones hrY (bo1_one b)) nb 4 (by rw [hY.heap];exact hn) (by unfold maxLen;omega) (by omega)
 have hw : Wrt f X w4 := (Wrt.of_below (f := f) hXY).trans k3 (fun _ _ h => h)
 rw [← ocl_lcl] at k2
 obtain ⟨fp2,hq,hq2⟩ := hput w4 (ocl (g.up ++ [b])) (.slice a' (g.up.length + 1) c') fp' { g with up := g.up ++ [b] } hw k2 (fun b hb1 => by
  rcases k4 b hb1 with k | k | k
  ·exact .inl k
  ·exact k.elim
  ·right;have := hXY.size;omega) rfl
 have hYs : Y.heap.size = W1.heap.size := hY.size
 have hsz := h.sz
 refine ⟨_,w4,k1,a',c',fp2,rfl,hq,fun b h1 h2 => ?_,fun b h1 h2 => ?_,fun b hb => ?_,by have := k3.size;omega⟩
 ·rw [k3.block b (by omega) (fun k => by have := (hfo b k).2;omega),hY.heap]
 ·rw [k3.block b (by omega) (fun k => h2 (hfs b k)),hXY.block b (by omega)]
 ·rcases hq2 b hb with k | k
  ·rcases k4 b k with k | k | k
   ·exact .inl (hfs b k)
   ·exact k.elim
   ·exact .inr (.inr (by omega))
  ·exact .inl k
theorem GQ.fin {w X : World} {o : Nat} {A : Ga} {g0 g : Gr} {fp : Fp} {a a2 : Option Addr} {c c2 n n2 : Nat} (h : GQ w X o (grC A g0) [.slice a n c,.slice a2 n2 c2,.slice A.la g0.mail.length A.lc] g fp) (h1 : g.mem.length = n) (h2 : g.up.length = n2) (h3 : g.mail = g0.mail) :
  GO w ((X.setCell ⟨o,0,none⟩ (.slice a n c)).setCell ⟨o,1,none⟩ (.slice a2 n2 c2)) o ⟨a,c,a2,c2,A.la,A.lc⟩ g fp ∧ ∀ b,b ≠ o → b < X.heap.size → ((X.setCell ⟨o,0,none⟩ (.slice a n c)).setCell ⟨o,1,none⟩ (.slice a2 n2 c2)).heap[b]? = X.heap[b]? := by
 subst h1
 subst h2
 have hws : Wrt (fun x => x = o) X ((X.setCell ⟨o,0,none⟩ (.slice a g.mem.length c)).setCell ⟨o,1,none⟩ (.slice a2 g.up.length c2)) := (Wrt.set X o 0 _).trans (Wrt.set _ o 1 _) (fun _ _ h => h)
 have hss := hws.size
 have hsz := h.sz
 have hlo := h.lo
 refine ⟨⟨?_, ?_,h.fpl,h.lo,by omega,hws.below h.below h.below.size (fun b e => by rw [e];exact hlo)⟩,fun b hne hlt => hws.block b hlt hne⟩
 ·have := (h.own.setC 0 (.slice a g.mem.length c)).setC 1 (.slice a2 g.up.length c2)
  have e : ((grC A g0).setIfInBounds 0 (.slice a g.mem.length c)).setIfInBounds 1 (.slice a2 g.up.length c2) = grC ⟨a,c,a2,c2,A.la,A.lc⟩ g := by simp [grC,h3]
  rw [e] at this
  exact this
 ·have := owL_wrt h.ls hws (fun b hb e => (h.fpl b hb).2 e)
  rw [← h3] at this
  exact this
theorem okM_64 {m : Mb} {i n : Nat} (h : OkM m i n) : Mb64 m := by
 have h5 := h.n5
 have hi := h.lt
 refine ⟨by rw [h.hid];exact ⟨by omega,by omega⟩,by rw [h.hn];exact ⟨by omega,by omega⟩,fun r hr => ?_⟩
 have ok := h.rowOk r hr
 have hv := ok.ver
 cases e : r.rdy with
 | true => have := (ok.rdy e).2.1;exact ⟨⟨by omega,by omega⟩,by omega,by omega⟩
 | false => rw [Rw64,(ok.not e).1];exact ⟨⟨by omega,by omega⟩,by omega,by omega⟩
theorem okG_64 {g : Gr} {n : Nat} (h : OkG g n) : Gr64 g := by
 refine ⟨fun m hm => ?_,fun x hx => ?_⟩
 ·obtain ⟨k,hk,rfl⟩ := List.mem_iff_getElem.1 hm
  have := h.mem k (by rw [← h.ml];exact hk)
  have e : memN g k = g.mem[k] := by simp [memN,List.getD,hk]
  rw [e] at this
  exact okM_64 this
 ·obtain ⟨a,b,e1,e2,h1,h2,_,ok⟩ := h.mails x hx
  have h5 := h.n5
  have hv := ok.ver
  refine ⟨by rw [e1];exact ⟨by omega,by omega⟩,by rw [e2];exact ⟨by omega,by omega⟩, ?_⟩
  cases e : x.row.rdy with
  | true => have := (ok.rdy e).2.1;exact ⟨⟨by omega,by omega⟩,by omega,by omega⟩
  | false => rw [Rw64,(ok.not e).1];exact ⟨⟨by omega,by omega⟩,by omega,by omega⟩
theorem newK_is (n : Int) : newGr n = (newK n (newRw n).got.length,okGr (newK n (newRw n).got.length)) ∧ FitG (newK n (newRw n).got.length) ∧ Gr64 (newK n (newRw n).got.length) ∧ szGr (newK n (newRw n).got.length) ≤ 1048576 ∧ (newRw n).got.length ≤ 5 := by
 rw [newRw_len]
 cases e1 : inB n 1 5 with
 | false =>
  rw [if_neg (by decide),newGr,e1]
  have e : newK n 0 = zeroGr := rfl
  rw [e]
  exact ⟨rfl,⟨fun m h => absurd h List.not_mem_nil,fun m h => absurd h List.not_mem_nil⟩,⟨fun m h => absurd h List.not_mem_nil,fun m h => absurd h List.not_mem_nil⟩,by simp [szGr,szMs,szLs,zeroGr,zPm,zPl],by omega⟩
 | true =>
  have hn := inB7.1 e1
  obtain ⟨N,rfl⟩ : ∃ N : Nat,n = (N : Int) := ⟨n.toNat,by omega⟩
  have hK : newGr (N : Int) = (newK (N : Int) N,true) := by rw [newGr,e1];rfl
  have hO := (newGr_ok (n := N) (by omega)).okG
  rw [hK] at hO
  have h1 := okGr_iff.2 ⟨N,hO⟩
  rw [if_pos rfl,Int.toNat_natCast,h1]
  have hs := hO.small
  exact ⟨hK,hO.fit,okG_64 hO,Nat.le_trans hs.2.2.2.2 (by decide),by omega⟩
set_option maxRecDepth 100000 in
set_option maxHeartbeats 3200000 in
theorem implNewGroup : ImplNewGroup := by
 intro n w h64
 have hmix := mixed17
 have hfd := fld_got
 have hx := Bx.new w 66 #[.slice none 0 0,.slice none 0 0,.slice none 0 0]
 have T0 := gr_start w
 have HT0 : Hid (GO w ((w.alloc (.cells #[.slice none 0 0,.slice none 0 0,.slice none 0 0] 66)).alloc (.cells #[.slice none 0 0,.slice none 0 0,.slice none 0 0] 66)) (w.heap.size + 1) ⟨none,0,none,0,none,0⟩ zeroGr (fun _ => False)) := T0
 have HR0 : Hid (Bx ((w.alloc (.cells #[.slice none 0 0,.slice none 0 0,.slice none 0 0] 66)).alloc (.cells #[.slice none 0 0,.slice none 0 0,.slice none 0 0] 66)) w.heap.size 66 #[.slice none 0 0,.slice none 0 0,.slice none 0 0]) := hx.alloc _
 have hNr : ∀ X,Calls Try.prog 105 #[.int .i64 n] X fun e w' => AnsRw X w' e (newRw n) := fun X => implNewRow n X h64
 obtain ⟨k1,k2,k3,k4,k5⟩ := newK_is n
 have HK : Hid (newGr n = (newK n (newRw n).got.length,okGr (newK n (newRw n).got.length)) ∧ FitG (newK n (newRw n).got.length) ∧ Gr64 (newK n (newRw n).got.length) ∧ szGr (newK n (newRw n).got.length) ≤ 1048576) := ⟨k1,k2,k3,k4⟩
 have H64 : Hid (I64v n) := h64
 clear hx T0 k1 k2 k3 k4 h64
 go_enter Try.func45,Try.ntmps45
 go_wp2_with fail
 generalize (w.alloc (.cells #[.slice none 0 0,.slice none 0 0,.slice none 0 0] 66)).alloc (.cells #[.slice none 0 0,.slice none 0 0,.slice none 0 0] 66) = W0 at *
 refine (hNr _).mono ?_
 rintro e w1 ⟨Ar,rfl,fr,hr1,hr2,hr3⟩
 have HT1 : Hid (GO w w1 (w.heap.size + 1) ⟨none,0,none,0,none,0⟩ zeroGr (fun _ => False)) := HT0.out.step hr3
 have HR1 : Hid (Bx w1 w.heap.size 66 #[.slice none 0 0,.slice none 0 0,.slice none 0 0]) := HR0.out.below hr3
 unfold rwV rwC
 clear hNr hr1 hr2 hr3 HT0 HR0
 generalize (newRw n).got.length = K at *
 go_wp2_with fail
 go_loopw [13] (fun i wr => ∃ k : Nat,k ≤ K ∧ i = .int .i64 (k : Int) ∧ ∃ A g fp,Hid (g = newK n k) ∧ GO w wr (w.heap.size + 1) A g fp ∧ Bx wr w.heap.size 66 #[.slice none 0 0,.slice none 0 0,.slice none 0 0]) (fun i _ => K - (intOf i).toNat)
 case atStart => exact ⟨0,Nat.zero_le _,rfl,_,zeroGr,_,rfl,HT1.out,HR1.out⟩
 case round =>
  obtain ⟨k,hk,rfl,A,g,fp,hg,M,hres⟩ := hrel
  by_cases hlt : k < K
  ·have k1 : (k : Int) < (K : Int) := by omega
   have hml : g.mem.length ≤ 1000000 := by rw [hg.out,newK];simp;omega
   have hul : g.up.length ≤ 1000000 := by rw [hg.out,newK];simp;omega
   have HRes : Hid (Bx wr w.heap.size 66 #[.slice none 0 0,.slice none 0 0,.slice none 0 0]) := hres
   have HM : Hid (GO w wr (w.heap.size + 1) A g fp) := M
   have HNx : Hid (newK n (k + 1) = ⟨g.mem ++ [(newMb (k : Int) n).1],g.up ++ [true],g.mail⟩) := by rw [Hid,newK_more,hg.out];rfl
   clear M hres hg
   have hN := implNewMember (k : Int) n wr ⟨by omega,by omega⟩ H64.out
   generalize (newMb (k : Int) n).1 = m at *
   generalize (newMb (k : Int) n).2 = fl at *
   unfold AnsMf mbV mbC at hN
   go_wp2_with fail
   refine hN.mono ?_
   rintro e w2 ⟨Am,rfl,fr,hr1,hr2,hr3⟩
   have hbn := oneA16 w2 (.cells #[.int .i64 m.id,.int .i64 m.n,.slice Am.ra m.rows.length Am.rc,.slice Am.sa m.sung.length Am.sc,.bool m.done] 39)
   have hxn := Bx.new w2 39 #[.int .i64 m.id,.int .i64 m.n,.slice Am.ra m.rows.length Am.rc,.slice Am.sa m.sung.length Am.sc,.bool m.done]
   have hbW : Below wr.heap.size wr (w2.alloc (.cells #[.int .i64 m.id,.int .i64 m.n,.slice Am.ra m.rows.length Am.rc,.slice Am.sa m.sung.length Am.sc,.bool m.done] 39)) := hr3.trans (hbn.mono hr3.size)
   have HFp : Hid (∀ b,fp b → b < wr.heap.size) := owL_lt HM.out.ls
   have HFr : Hid (∀ b,fr b → b < w2.heap.size) := owL_lt hr1
   have HBx0 : Hid (wr.heap.size ≤ w2.heap.size) := hr3.size
   have hxW : Bx (w2.alloc (.cells #[.int .i64 m.id,.int .i64 m.n,.slice Am.ra m.rows.length Am.rc,.slice Am.sa m.sung.length Am.sc,.bool m.done] 39)) w2.heap.size 39 #[.int .i64 m.id,.int .i64 m.n,.slice Am.ra m.rows.length Am.rc,.slice Am.sa m.sung.length Am.sc,.bool m.done] := hxn
   have hr1W : owL (w2.alloc (.cells #[.int .i64 m.id,.int .i64 m.n,.slice Am.ra m.rows.length Am.rc,.slice Am.sa m.sung.length Am.sc,.bool m.done] 39)) (mbCels m) (mbVals Am m) fr := owL_below hr1 hbn
   have HR1 : Hid (∀ b,fr b → wr.heap.size ≤ b) := hr2
   clear hr1 hr2 hr3 hN hbn hxn
   go_upto_region 6 with fail
   generalize w2.alloc (.cells #[.int .i64 m.id,.int .i64 m.n,.slice Am.ra m.rows.length Am.rc,.slice Am.sa m.sung.length Am.sc,.bool m.done] 39) = Wn at *
   have hbd : Below Wn.heap.size Wn Wn.drew := (Same.drewN Wn 1).below
   have KS : ∀ Z,Below Wn.heap.size Wn Z → Z.cell? ⟨w.heap.size + 1,0,none⟩ = some (.slice A.ma g.mem.length A.mc) ∧ Z.cell? ⟨w.heap.size + 1,1,none⟩ = some (.slice A.ua g.up.length A.uc) ∧ Z.cell? ⟨w2.heap.size,0,none⟩ = some (.int .i64 m.id) ∧ Z.cell? ⟨w2.heap.size,1,none⟩ = some (.int .i64 m.n) ∧ Z.cell? ⟨w2.heap.size,2,none⟩ = some (.slice Am.ra m.rows.length Am.rc) ∧ Z.cell? ⟨w2.heap.size,3,none⟩ = some (.slice Am.sa m.sung.length Am.sc) ∧ Z.cell? ⟨w2.heap.size,4,none⟩ = some (.bool m.done) := fun Z hZ => by
    obtain ⟨x0,x1,x2⟩ := Bx.g3 ((HM.out.step hbW).step hZ).own
    obtain ⟨y0,y1,y2,y3,y4⟩ := Bx.r5 (hxW.below hZ)
    exact ⟨x0,x1,y0,y1,y2,y3,y4⟩
   have hml5 : wr.heap.size ≤ w2.heap.size ∧ w2.heap.size < Wn.heap.size := ⟨HBx0.out,hxW.lt⟩
   refine gt_begin (S := fun Z : World => Z.cell? ⟨w.heap.size + 1,0,none⟩ = some (.slice A.ma g.mem.length A.mc) ∧ Z.cell? ⟨w.heap.size + 1,1,none⟩ = some (.slice A.ua g.up.length A.uc) ∧ Z.cell? ⟨w2.heap.size,0,none⟩ = some (.int .i64 m.id) ∧ Z.cell? ⟨w2.heap.size,1,none⟩ = some (.int .i64 m.n) ∧ Z.cell? ⟨w2.heap.size,2,none⟩ = some (.slice Am.ra m.rows.length Am.rc) ∧ Z.cell? ⟨w2.heap.size,3,none⟩ = some (.slice Am.sa m.sung.length Am.sc) ∧ Z.cell? ⟨w2.heap.size,4,none⟩ = some (.bool m.done)) 10 hmix (by kernel_rfl) ?_
   have hHeld : (fun Z : World => Z.cell? ⟨w.heap.size + 1,0,none⟩ = some (.slice A.ma g.mem.length A.mc) ∧ Z.cell? ⟨w.heap.size + 1,1,none⟩ = some (.slice A.ua g.up.length A.uc) ∧ Z.cell? ⟨w2.heap.size,0,none⟩ = some (.int .i64 m.id) ∧ Z.cell? ⟨w2.heap.size,1,none⟩ = some (.int .i64 m.n) ∧ Z.cell? ⟨w2.heap.size,2,none⟩ = some (.slice Am.ra m.rows.length Am.rc) ∧ Z.cell? ⟨w2.heap.size,3,none⟩ = some (.slice Am.sa m.sung.length Am.sc) ∧ Z.cell? ⟨w2.heap.size,4,none⟩ = some (.bool m.done)) Wn.drew := (KS _ hbd)
   refine gt_take (i := 0) (v := ?_) rfl (by kernel_rfl) (by kernel_rfl) (by kernel_rfl) (by kernel_rfl) (fun _ _ _ h => h) (Or.inl ⟨by rfl, ?_⟩) hHeld ?_
   rotate_left
   ·(intro X hSX;(try dsimp only at hSX);obtain ⟨g0,g1,g2,g3,g4,g5,g6⟩ := hSX;go_simp;try with_reducible rfl)
   try simp only [Act.put,List.setIfInBounds_toArray,List.set_cons_zero,List.set_cons_succ]
   refine gt_take (i := 1) (v := ?_) rfl (by kernel_rfl) (by kernel_rfl) (by kernel_rfl) (by kernel_rfl) (fun _ _ _ h => h) (Or.inl ⟨by rfl, ?_⟩) hHeld ?_
   rotate_left
   ·(intro X hSX;(try dsimp only at hSX);obtain ⟨g0,g1,g2,g3,g4,g5,g6⟩ := hSX;go_simp;try with_reducible rfl)
   try simp only [Act.put,List.setIfInBounds_toArray,List.set_cons_zero,List.set_cons_succ]
   refine gt_take (i := 2) (v := ?_) rfl (by kernel_rfl) (by kernel_rfl) (by kernel_rfl) (by kernel_rfl) (fun _ _ _ h => h) (Or.inl ⟨by rfl, ?_⟩) hHeld ?_
   rotate_left
   ·(intro X hSX;(try dsimp only at hSX);obtain ⟨g0,g1,g2,g3,g4,g5,g6⟩ := hSX;go_simp;try with_reducible rfl)
   try simp only [Act.put,List.setIfInBounds_toArray,List.set_cons_zero,List.set_cons_succ]
   refine gt_take (i := 5) (v := ?_) rfl (by kernel_rfl) (by kernel_rfl) (by kernel_rfl) (by kernel_rfl) (fun _ _ _ h => h) (Or.inl ⟨by rfl, ?_⟩) hHeld ?_
   rotate_left
   ·(intro X hSX;(try dsimp only at hSX);obtain ⟨g0,g1,g2,g3,g4,g5,g6⟩ := hSX;go_simp;try with_reducible rfl)
   try simp only [Act.put,List.setIfInBounds_toArray,List.set_cons_zero,List.set_cons_succ]
   refine gt_take (i := 6) (v := ?_) rfl (by kernel_rfl) (by kernel_rfl) (by kernel_rfl) (by kernel_rfl) (fun _ _ _ h => h) (Or.inl ⟨by rfl, ?_⟩) hHeld ?_
   rotate_left
   ·(intro X hSX;(try dsimp only at hSX);obtain ⟨g0,g1,g2,g3,g4,g5,g6⟩ := hSX;go_simp;try with_reducible rfl)
   try simp only [Act.put,List.setIfInBounds_toArray,List.set_cons_zero,List.set_cons_succ]
   refine gt_two (i := 3) (j := 7) rfl rfl (by kernel_rfl) (by kernel_rfl) (fun K hK => ?_) (fun K hK => ?_)
   ·go_simp
    have hal := oneA16 Wn.drew (.cells #[.int .i64 m.id,.int .i64 m.n,.slice Am.ra m.rows.length Am.rc,.slice Am.sa m.sung.length Am.sc,.bool m.done] 39)
    have hxl := Bx.new Wn.drew 39 #[.int .i64 m.id,.int .i64 m.n,.slice Am.ra m.rows.length Am.rc,.slice Am.sa m.sung.length Am.sc,.bool m.done]
    have hbV1 : Below Wn.heap.size Wn (Wn.drew.alloc (.cells #[.int .i64 m.id,.int .i64 m.n,.slice Am.ra m.rows.length Am.rc,.slice Am.sa m.sung.length Am.sc,.bool m.done] 39)) := hbd.trans (hal.mono hbd.size)
    refine hK.out _ _ (KS _ hbV1) (fun hHeldN => ?_)
    clear hK hHeld
    have hHeld := hHeldN
    try simp only [Act.put,List.setIfInBounds_toArray,List.set_cons_zero,List.set_cons_succ]
    refine gt_two (i := 4) (j := 7) rfl rfl (by kernel_rfl) (by kernel_rfl) (fun K hK => ?_) (fun K hK => ?_)
    ·have hxV := hxW.below hbV1
     have HBx : Hid (wr.heap.size ≤ w2.heap.size ∧ w2.heap.size < (Wn.drew.alloc (.cells #[.int .i64 m.id,.int .i64 m.n,.slice Am.ra m.rows.length Am.rc,.slice Am.sa m.sung.length Am.sc,.bool m.done] 39)).heap.size) := ⟨hml5.1,by have := hbV1.size;have := hml5.2;omega⟩
     have hA := HM.out.gq.pushM (hbW.trans (hbV1.mono hbW.size)) (owL_below hr1W hbV1) HR1.out hxl hml
     unfold mbC at hA
     refine step_append_of (by rfl) _ _ _ _ (by rfl) _ _ (by rfl) (by rfl) hA ⟨rfl,rfl,rfl,rfl⟩ ?_
     rintro v4 w4 ⟨a4,c4,fp4,rfl,hq4,K4⟩
     have hs4 : w4.cell? ⟨w.heap.size + 1,0,none⟩ = some (.slice A.ma g.mem.length A.mc) ∧ w4.cell? ⟨w.heap.size + 1,1,none⟩ = some (.slice A.ua g.up.length A.uc) ∧ w4.cell? ⟨w2.heap.size,0,none⟩ = some (.int .i64 m.id) ∧ w4.cell? ⟨w2.heap.size,1,none⟩ = some (.int .i64 m.n) ∧ w4.cell? ⟨w2.heap.size,2,none⟩ = some (.slice Am.ra m.rows.length Am.rc) ∧ w4.cell? ⟨w2.heap.size,3,none⟩ = some (.slice Am.sa m.sung.length Am.sc) ∧ w4.cell? ⟨w2.heap.size,4,none⟩ = some (.bool m.done) := by
      obtain ⟨x0,x1,x2⟩ := Bx.g3 hq4.own
      have e := K4.new w2.heap.size HBx.out.1 (by have := HBx.out.2;omega)
      obtain ⟨y0,y1,y2,y3,y4⟩ := Bx.r5 (show Bx w4 w2.heap.size 39 #[.int .i64 m.id,.int .i64 m.n,.slice Am.ra m.rows.length Am.rc,.slice Am.sa m.sung.length Am.sc,.bool m.done] from e.trans hxV)
      exact ⟨x0,x1,y0,y1,y2,y3,y4⟩
     refine hK.out _ _ hs4 (fun hHeldN => ?_)
     clear hK hHeld
     have hHeld := hHeldN
     try simp only [Act.put,List.setIfInBounds_toArray,List.set_cons_zero,List.set_cons_succ]
     refine gt_pure (i := 9) (v := ?_) rfl (by kernel_rfl) (by kernel_rfl) (by kernel_rfl) (fun _ _ _ h => h) (Or.inl ⟨by rfl, ?_⟩) ?_
     rotate_left
     ·(intro X;go_simp;try with_reducible rfl)
     try simp only [Act.put,List.setIfInBounds_toArray,List.set_cons_zero,List.set_cons_succ]
     have hal2 := oneA16 w4 (.cells #[.bool true] 4)
     have hxb := Bx.new w4 4 #[.bool true]
     have hU := GQ.pushU (g := { g with mem := g.mem ++ [m] }) hq4 hal2 true hxb hul
     simp only at hU
     refine gt_one (i := 7) rfl (by kernel_rfl) (by kernel_rfl) (fun K hK => ?_)
     go_simp
     have hs7 : (w4.alloc (.cells #[.bool true] 4)).cell? ⟨w.heap.size + 1,0,none⟩ = some (.slice A.ma g.mem.length A.mc) ∧ (w4.alloc (.cells #[.bool true] 4)).cell? ⟨w.heap.size + 1,1,none⟩ = some (.slice A.ua g.up.length A.uc) ∧ (w4.alloc (.cells #[.bool true] 4)).cell? ⟨w2.heap.size,0,none⟩ = some (.int .i64 m.id) ∧ (w4.alloc (.cells #[.bool true] 4)).cell? ⟨w2.heap.size,1,none⟩ = some (.int .i64 m.n) ∧ (w4.alloc (.cells #[.bool true] 4)).cell? ⟨w2.heap.size,2,none⟩ = some (.slice Am.ra m.rows.length Am.rc) ∧ (w4.alloc (.cells #[.bool true] 4)).cell? ⟨w2.heap.size,3,none⟩ = some (.slice Am.sa m.sung.length Am.sc) ∧ (w4.alloc (.cells #[.bool true] 4)).cell? ⟨w2.heap.size,4,none⟩ = some (.bool m.done) := by
      obtain ⟨q0,q1,q2,q3,q4,q5,q6⟩ := hs4
      have t : ∀ {x v},w4.cell? x = some v → (w4.alloc (.cells #[.bool true] 4)).cell? x = some v := fun h => (hal2.cell (World.block_lt_of_cell? _ _ h)).trans h
      exact ⟨t q0,t q1,t q2,t q3,t q4,t q5,t q6⟩
     refine hK.out _ _ hs7 (fun hHeldN => ?_)
     clear hK hHeld
     have hHeld := hHeldN
     try simp only [Act.put,List.setIfInBounds_toArray,List.set_cons_zero,List.set_cons_succ]
     refine gt_one (i := 8) rfl (by kernel_rfl) (by kernel_rfl) (fun K hK => ?_)
     refine step_append_of (by rfl) _ _ _ _ (by rfl) _ _ (by rfl) (by rfl) hU ⟨rfl,rfl,rfl,rfl⟩ ?_
     rintro v5 w5 ⟨a5,c5,fp5,rfl,hq5,K5⟩
     have hnf : ¬ fp4 w2.heap.size := fun kk => by
      rcases K4.fpp _ kk with q | q | q
      ·have := HFp.out _ q;have := HBx.out.1;omega
      ·have := HFr.out _ q;omega
      ·have := HBx.out.2;omega
     have hbx4 : w4.heap[w2.heap.size]? = some (.cells #[.int .i64 m.id,.int .i64 m.n,.slice Am.ra m.rows.length Am.rc,.slice Am.sa m.sung.length Am.sc,.bool m.done] 39 (0,0)) := (K4.new w2.heap.size HBx.out.1 (by have := HBx.out.2;omega)).trans hxV
     have hl4 : w2.heap.size < w4.heap.size := by have := K4.sz;have := HBx.out.2;omega
     have hs5 : w5.cell? ⟨w.heap.size + 1,0,none⟩ = some (.slice A.ma g.mem.length A.mc) ∧ w5.cell? ⟨w.heap.size + 1,1,none⟩ = some (.slice A.ua g.up.length A.uc) ∧ w5.cell? ⟨w2.heap.size,0,none⟩ = some (.int .i64 m.id) ∧ w5.cell? ⟨w2.heap.size,1,none⟩ = some (.int .i64 m.n) ∧ w5.cell? ⟨w2.heap.size,2,none⟩ = some (.slice Am.ra m.rows.length Am.rc) ∧ w5.cell? ⟨w2.heap.size,3,none⟩ = some (.slice Am.sa m.sung.length Am.sc) ∧ w5.cell? ⟨w2.heap.size,4,none⟩ = some (.bool m.done) := by
      obtain ⟨x0,x1,x2⟩ := Bx.g3 hq5.own
      have e := K5.mid w2.heap.size hl4 hnf
      obtain ⟨y0,y1,y2,y3,y4⟩ := Bx.r5 (show Bx w5 w2.heap.size 39 #[.int .i64 m.id,.int .i64 m.n,.slice Am.ra m.rows.length Am.rc,.slice Am.sa m.sung.length Am.sc,.bool m.done] from e.trans hbx4)
      exact ⟨x0,x1,y0,y1,y2,y3,y4⟩
     have HRs : Hid (w5.heap[w.heap.size]? = some (.cells #[.slice none 0 0,.slice none 0 0,.slice none 0 0] 66 (0,0))) := by
      have hwl : w.heap.size + 2 ≤ wr.heap.size := HM.out.sz
      have e5 := K5.mid w.heap.size (by have := K4.sz;have := HBx.out.2;have := HBx.out.1;omega) (fun kk => by have := (hq4.fpl _ kk).1;omega)
      have e4 := K4.mid w.heap.size (by omega) (fun kk => by have := (HM.out.fpl _ kk).1;omega)
      exact e5.trans (e4.trans HRes.out)
     refine hK.out _ _ hs5 (fun hHeldN => ?_)
     clear hK hHeld
     have hHeld := hHeldN
     try simp only [Act.put,List.setIfInBounds_toArray,List.set_cons_zero,List.set_cons_succ]
     obtain ⟨x0,x1,x2⟩ := Bx.g3 hq5.own
     have y0' := hq5.own.f 0
     have hB6 := hq5.own.setC 0 (.slice a4 (g.mem.length + 1) c4)
     have z0 := hB6.at 0 (v := .slice a4 (g.mem.length + 1) c4) (by simp [grC])
     have z1 := hB6.at 1 (v := .slice A.ua g.up.length A.uc) (by simp [grC])
     have y1' := hB6.f 1
     have n6 : ¬ (fun Z : World => Z.cell? ⟨w.heap.size + 1,0,none⟩ = some (.slice A.ma g.mem.length A.mc) ∧ Z.cell? ⟨w.heap.size + 1,1,none⟩ = some (.slice A.ua g.up.length A.uc) ∧ Z.cell? ⟨w2.heap.size,0,none⟩ = some (.int .i64 m.id) ∧ Z.cell? ⟨w2.heap.size,1,none⟩ = some (.int .i64 m.n) ∧ Z.cell? ⟨w2.heap.size,2,none⟩ = some (.slice Am.ra m.rows.length Am.rc) ∧ Z.cell? ⟨w2.heap.size,3,none⟩ = some (.slice Am.sa m.sung.length Am.sc) ∧ Z.cell? ⟨w2.heap.size,4,none⟩ = some (.bool m.done)) (w5.setCell ⟨w.heap.size + 1,0,none⟩ (.slice a4 (g.mem.length + 1) c4)) := fun hk => by
      have e := Option.some.inj (z0.symm.trans hk.1)
      simp only [Value.slice.injEq] at e
      omega
     obtain ⟨hGO,hKp⟩ := hq5.fin (by simp) (by simp) rfl
     have HM2 : Hid (GO w ((w5.setCell ⟨w.heap.size + 1,0,none⟩ (.slice a4 (g.mem.length + 1) c4)).setCell ⟨w.heap.size + 1,1,none⟩ (.slice a5 (g.up.length + 1) c5)) (w.heap.size + 1) ⟨a4,c4,a5,c5,A.la,A.lc⟩ { g with mem := g.mem ++ [m],up := g.up ++ [true] } fp5) := hGO
     have HR2 : Hid (Bx ((w5.setCell ⟨w.heap.size + 1,0,none⟩ (.slice a4 (g.mem.length + 1) c4)).setCell ⟨w.heap.size + 1,1,none⟩ (.slice a5 (g.up.length + 1) c5)) w.heap.size 66 #[.slice none 0 0,.slice none 0 0,.slice none 0 0]) := (hKp w.heap.size (by omega) (by have := hq5.sz;omega)).trans HRs.out
     refine gt_oneZ rfl (by kernel_rfl) (fun K hK => ?_)
     go_simp
     refine hK.out _ _ ?_
     try simp only [Act.put,List.setIfInBounds_toArray,List.set_cons_zero,List.set_cons_succ]
     refine gt_pure (i := 11) (v := ?_) rfl (by kernel_rfl) (by kernel_rfl) (by kernel_rfl) (fun _ _ _ h => h) (Or.inl ⟨by rfl, ?_⟩) ?_
     rotate_left
     ·(intro X;go_simp;try with_reducible rfl)
     try simp only [Act.put,List.setIfInBounds_toArray,List.set_cons_zero,List.set_cons_succ]
     refine gt_oneN (i := 12) n6 rfl (by kernel_rfl) (fun K hK => ?_)
     go_simp
     refine hK.out _ _ ?_
     try simp only [Act.put,List.setIfInBounds_toArray,List.set_cons_zero,List.set_cons_succ]
     refine gt_end (by kernel_rfl) ?_
     clear hHeld x0 x1 x2 y0' hB6 z0 z1 y1' n6 hGO hKp hq5
     generalize (w5.setCell ⟨w.heap.size + 1,0,none⟩ (.slice a4 (g.mem.length + 1) c4)).setCell ⟨w.heap.size + 1,1,none⟩ (.slice a5 (g.up.length + 1) c5) = W9 at *
     try go_wp2
     go_roundw
     case rel => exact ⟨k + 1,by omega,by go_num,_,_,_,HNx.out.symm,HM2.out,HR2.out⟩
     case measure => simp [intOf];omega
    ·go_simp
     have hal2 := oneA16 (Wn.drew.alloc (.cells #[.int .i64 m.id,.int .i64 m.n,.slice Am.ra m.rows.length Am.rc,.slice Am.sa m.sung.length Am.sc,.bool m.done] 39)) (.cells #[.bool true] 4)
     have hxb := Bx.new (Wn.drew.alloc (.cells #[.int .i64 m.id,.int .i64 m.n,.slice Am.ra m.rows.length Am.rc,.slice Am.sa m.sung.length Am.sc,.bool m.done] 39)) 4 #[.bool true]
     rw [show (Wn.drew.alloc (.cells #[.int .i64 m.id,.int .i64 m.n,.slice Am.ra m.rows.length Am.rc,.slice Am.sa m.sung.length Am.sc,.bool m.done] 39)).heap.size = Wn.heap.size + 1 by rw [World.size_alloc];rfl] at hxb
     have hbV2 : Below Wn.heap.size Wn ((Wn.drew.alloc (.cells #[.int .i64 m.id,.int .i64 m.n,.slice Am.ra m.rows.length Am.rc,.slice Am.sa m.sung.length Am.sc,.bool m.done] 39)).alloc (.cells #[.bool true] 4)) := hbV1.trans (hal2.mono hbV1.size)
     refine hK.out _ _ (KS _ hbV2) (fun hHeldN => ?_)
     clear hK hHeld
     have hHeld := hHeldN
     try simp only [Act.put,List.setIfInBounds_toArray,List.set_cons_zero,List.set_cons_succ]
     have hxV := hxW.below hbV2
     have HBx : Hid (wr.heap.size ≤ w2.heap.size ∧ w2.heap.size < ((Wn.drew.alloc (.cells #[.int .i64 m.id,.int .i64 m.n,.slice Am.ra m.rows.length Am.rc,.slice Am.sa m.sung.length Am.sc,.bool m.done] 39)).alloc (.cells #[.bool true] 4)).heap.size) := ⟨hml5.1,by have := hbV2.size;have := hml5.2;omega⟩
     have hA := HM.out.gq.pushM (hbW.trans (hbV2.mono hbW.size)) (owL_below hr1W hbV2) HR1.out (hxl.below hal2) hml
     unfold mbC at hA
     refine gt_one (i := 4) rfl (by kernel_rfl) (by kernel_rfl) (fun K hK => ?_)
     refine step_append_of (by rfl) _ _ _ _ (by rfl) _ _ (by rfl) (by rfl) hA ⟨rfl,rfl,rfl,rfl⟩ ?_
     rintro v4 w4 ⟨a4,c4,fp4,rfl,hq4,K4⟩
     have hs4 : w4.cell? ⟨w.heap.size + 1,0,none⟩ = some (.slice A.ma g.mem.length A.mc) ∧ w4.cell? ⟨w.heap.size + 1,1,none⟩ = some (.slice A.ua g.up.length A.uc) ∧ w4.cell? ⟨w2.heap.size,0,none⟩ = some (.int .i64 m.id) ∧ w4.cell? ⟨w2.heap.size,1,none⟩ = some (.int .i64 m.n) ∧ w4.cell? ⟨w2.heap.size,2,none⟩ = some (.slice Am.ra m.rows.length Am.rc) ∧ w4.cell? ⟨w2.heap.size,3,none⟩ = some (.slice Am.sa m.sung.length Am.sc) ∧ w4.cell? ⟨w2.heap.size,4,none⟩ = some (.bool m.done) := by
      obtain ⟨x0,x1,x2⟩ := Bx.g3 hq4.own
      have e := K4.new w2.heap.size HBx.out.1 (by have := HBx.out.2;omega)
      obtain ⟨y0,y1,y2,y3,y4⟩ := Bx.r5 (show Bx w4 w2.heap.size 39 #[.int .i64 m.id,.int .i64 m.n,.slice Am.ra m.rows.length Am.rc,.slice Am.sa m.sung.length Am.sc,.bool m.done] from e.trans hxV)
      exact ⟨x0,x1,y0,y1,y2,y3,y4⟩
     refine hK.out _ _ hs4 (fun hHeldN => ?_)
     clear hK hHeld
     have hHeld := hHeldN
     try simp only [Act.put,List.setIfInBounds_toArray,List.set_cons_zero,List.set_cons_succ]
     refine gt_pure (i := 9) (v := ?_) rfl (by kernel_rfl) (by kernel_rfl) (by kernel_rfl) (fun _ _ _ h => h) (Or.inl ⟨by rfl, ?_⟩) ?_
     rotate_left
     ·(intro X;go_simp;try with_reducible rfl)
     try simp only [Act.put,List.setIfInBounds_toArray,List.set_cons_zero,List.set_cons_succ]
     have hU := GQ.pushU (g := { g with mem := g.mem ++ [m] }) hq4 (Below.refl _ _) true ((K4.new _ (by have := hbW.size;have := hbV1.size;omega) (by simp)).trans hxb) hul
     simp only at hU
     refine gt_one (i := 8) rfl (by kernel_rfl) (by kernel_rfl) (fun K hK => ?_)
     refine step_append_of (by rfl) _ _ _ _ (by rfl) _ _ (by rfl) (by rfl) hU ⟨rfl,rfl,rfl,rfl⟩ ?_
     rintro v5 w5 ⟨a5,c5,fp5,rfl,hq5,K5⟩
     have hnf : ¬ fp4 w2.heap.size := fun kk => by
      rcases K4.fpp _ kk with q | q | q
      ·have := HFp.out _ q;have := HBx.out.1;omega
      ·have := HFr.out _ q;omega
      ·have := HBx.out.2;omega
     have hbx4 : w4.heap[w2.heap.size]? = some (.cells #[.int .i64 m.id,.int .i64 m.n,.slice Am.ra m.rows.length Am.rc,.slice Am.sa m.sung.length Am.sc,.bool m.done] 39 (0,0)) := (K4.new w2.heap.size HBx.out.1 (by have := HBx.out.2;omega)).trans hxV
     have hl4 : w2.heap.size < w4.heap.size := by have := K4.sz;have := HBx.out.2;omega
     have hs5 : w5.cell? ⟨w.heap.size + 1,0,none⟩ = some (.slice A.ma g.mem.length A.mc) ∧ w5.cell? ⟨w.heap.size + 1,1,none⟩ = some (.slice A.ua g.up.length A.uc) ∧ w5.cell? ⟨w2.heap.size,0,none⟩ = some (.int .i64 m.id) ∧ w5.cell? ⟨w2.heap.size,1,none⟩ = some (.int .i64 m.n) ∧ w5.cell? ⟨w2.heap.size,2,none⟩ = some (.slice Am.ra m.rows.length Am.rc) ∧ w5.cell? ⟨w2.heap.size,3,none⟩ = some (.slice Am.sa m.sung.length Am.sc) ∧ w5.cell? ⟨w2.heap.size,4,none⟩ = some (.bool m.done) := by
      obtain ⟨x0,x1,x2⟩ := Bx.g3 hq5.own
      have e := K5.mid w2.heap.size hl4 hnf
      obtain ⟨y0,y1,y2,y3,y4⟩ := Bx.r5 (show Bx w5 w2.heap.size 39 #[.int .i64 m.id,.int .i64 m.n,.slice Am.ra m.rows.length Am.rc,.slice Am.sa m.sung.length Am.sc,.bool m.done] from e.trans hbx4)
      exact ⟨x0,x1,y0,y1,y2,y3,y4⟩
     have HRs : Hid (w5.heap[w.heap.size]? = some (.cells #[.slice none 0 0,.slice none 0 0,.slice none 0 0] 66 (0,0))) := by
      have hwl : w.heap.size + 2 ≤ wr.heap.size := HM.out.sz
      have e5 := K5.mid w.heap.size (by have := K4.sz;have := HBx.out.2;have := HBx.out.1;omega) (fun kk => by have := (hq4.fpl _ kk).1;omega)
      have e4 := K4.mid w.heap.size (by omega) (fun kk => by have := (HM.out.fpl _ kk).1;omega)
      exact e5.trans (e4.trans HRes.out)
     refine hK.out _ _ hs5 (fun hHeldN => ?_)
     clear hK hHeld
     have hHeld := hHeldN
     try simp only [Act.put,List.setIfInBounds_toArray,List.set_cons_zero,List.set_cons_succ]
     obtain ⟨x0,x1,x2⟩ := Bx.g3 hq5.own
     have y0' := hq5.own.f 0
     have hB6 := hq5.own.setC 0 (.slice a4 (g.mem.length + 1) c4)
     have z0 := hB6.at 0 (v := .slice a4 (g.mem.length + 1) c4) (by simp [grC])
     have z1 := hB6.at 1 (v := .slice A.ua g.up.length A.uc) (by simp [grC])
     have y1' := hB6.f 1
     have n6 : ¬ (fun Z : World => Z.cell? ⟨w.heap.size + 1,0,none⟩ = some (.slice A.ma g.mem.length A.mc) ∧ Z.cell? ⟨w.heap.size + 1,1,none⟩ = some (.slice A.ua g.up.length A.uc) ∧ Z.cell? ⟨w2.heap.size,0,none⟩ = some (.int .i64 m.id) ∧ Z.cell? ⟨w2.heap.size,1,none⟩ = some (.int .i64 m.n) ∧ Z.cell? ⟨w2.heap.size,2,none⟩ = some (.slice Am.ra m.rows.length Am.rc) ∧ Z.cell? ⟨w2.heap.size,3,none⟩ = some (.slice Am.sa m.sung.length Am.sc) ∧ Z.cell? ⟨w2.heap.size,4,none⟩ = some (.bool m.done)) (w5.setCell ⟨w.heap.size + 1,0,none⟩ (.slice a4 (g.mem.length + 1) c4)) := fun hk => by
      have e := Option.some.inj (z0.symm.trans hk.1)
      simp only [Value.slice.injEq] at e
      omega
     obtain ⟨hGO,hKp⟩ := hq5.fin (by simp) (by simp) rfl
     have HM2 : Hid (GO w ((w5.setCell ⟨w.heap.size + 1,0,none⟩ (.slice a4 (g.mem.length + 1) c4)).setCell ⟨w.heap.size + 1,1,none⟩ (.slice a5 (g.up.length + 1) c5)) (w.heap.size + 1) ⟨a4,c4,a5,c5,A.la,A.lc⟩ { g with mem := g.mem ++ [m],up := g.up ++ [true] } fp5) := hGO
     have HR2 : Hid (Bx ((w5.setCell ⟨w.heap.size + 1,0,none⟩ (.slice a4 (g.mem.length + 1) c4)).setCell ⟨w.heap.size + 1,1,none⟩ (.slice a5 (g.up.length + 1) c5)) w.heap.size 66 #[.slice none 0 0,.slice none 0 0,.slice none 0 0]) := (hKp w.heap.size (by omega) (by have := hq5.sz;omega)).trans HRs.out
     refine gt_oneZ rfl (by kernel_rfl) (fun K hK => ?_)
     go_simp
     refine hK.out _ _ ?_
     try simp only [Act.put,List.setIfInBounds_toArray,List.set_cons_zero,List.set_cons_succ]
     refine gt_pure (i := 11) (v := ?_) rfl (by kernel_rfl) (by kernel_rfl) (by kernel_rfl) (fun _ _ _ h => h) (Or.inl ⟨by rfl, ?_⟩) ?_
     rotate_left
     ·(intro X;go_simp;try with_reducible rfl)
     try simp only [Act.put,List.setIfInBounds_toArray,List.set_cons_zero,List.set_cons_succ]
     refine gt_oneN (i := 12) n6 rfl (by kernel_rfl) (fun K hK => ?_)
     go_simp
     refine hK.out _ _ ?_
     try simp only [Act.put,List.setIfInBounds_toArray,List.set_cons_zero,List.set_cons_succ]
     refine gt_end (by kernel_rfl) ?_
     clear hHeld x0 x1 x2 y0' hB6 z0 z1 y1' n6 hGO hKp hq5
     generalize (w5.setCell ⟨w.heap.size + 1,0,none⟩ (.slice a4 (g.mem.length + 1) c4)).setCell ⟨w.heap.size + 1,1,none⟩ (.slice a5 (g.up.length + 1) c5) = W9 at *
     try go_wp2
     go_roundw
     case rel => exact ⟨k + 1,by omega,by go_num,_,_,_,HNx.out.symm,HM2.out,HR2.out⟩
     case measure => simp [intOf];omega
   ·go_simp
    have hal := oneA16 Wn.drew (.cells #[.bool true] 4)
    have hxb := Bx.new Wn.drew 4 #[.bool true]
    have hbV1 : Below Wn.heap.size Wn (Wn.drew.alloc (.cells #[.bool true] 4)) := hbd.trans (hal.mono hbd.size)
    refine hK.out _ _ (KS _ hbV1) (fun hHeldN => ?_)
    clear hK hHeld
    have hHeld := hHeldN
    try simp only [Act.put,List.setIfInBounds_toArray,List.set_cons_zero,List.set_cons_succ]
    have hal2 := oneA16 (Wn.drew.alloc (.cells #[.bool true] 4)) (.cells #[.int .i64 m.id,.int .i64 m.n,.slice Am.ra m.rows.length Am.rc,.slice Am.sa m.sung.length Am.sc,.bool m.done] 39)
    have hxl := Bx.new (Wn.drew.alloc (.cells #[.bool true] 4)) 39 #[.int .i64 m.id,.int .i64 m.n,.slice Am.ra m.rows.length Am.rc,.slice Am.sa m.sung.length Am.sc,.bool m.done]
    rw [show (Wn.drew.alloc (.cells #[.bool true] 4)).heap.size = Wn.heap.size + 1 by rw [World.size_alloc];rfl] at hxl
    have hbV2 : Below Wn.heap.size Wn ((Wn.drew.alloc (.cells #[.bool true] 4)).alloc (.cells #[.int .i64 m.id,.int .i64 m.n,.slice Am.ra m.rows.length Am.rc,.slice Am.sa m.sung.length Am.sc,.bool m.done] 39)) := hbV1.trans (hal2.mono hbV1.size)
    refine gt_one (i := 3) rfl (by kernel_rfl) (by kernel_rfl) (fun K hK => ?_)
    go_simp
    refine hK.out _ _ (KS _ hbV2) (fun hHeldN => ?_)
    clear hK hHeld
    have hHeld := hHeldN
    try simp only [Act.put,List.setIfInBounds_toArray,List.set_cons_zero,List.set_cons_succ]
    have hxV := hxW.below hbV2
    have HBx : Hid (wr.heap.size ≤ w2.heap.size ∧ w2.heap.size < ((Wn.drew.alloc (.cells #[.bool true] 4)).alloc (.cells #[.int .i64 m.id,.int .i64 m.n,.slice Am.ra m.rows.length Am.rc,.slice Am.sa m.sung.length Am.sc,.bool m.done] 39)).heap.size) := ⟨hml5.1,by have := hbV2.size;have := hml5.2;omega⟩
    have hA := HM.out.gq.pushM (hbW.trans (hbV2.mono hbW.size)) (owL_below hr1W hbV2) HR1.out hxl hml
    unfold mbC at hA
    refine gt_one (i := 4) rfl (by kernel_rfl) (by kernel_rfl) (fun K hK => ?_)
    refine step_append_of (by rfl) _ _ _ _ (by rfl) _ _ (by rfl) (by rfl) hA ⟨rfl,rfl,rfl,rfl⟩ ?_
    rintro v4 w4 ⟨a4,c4,fp4,rfl,hq4,K4⟩
    have hs4 : w4.cell? ⟨w.heap.size + 1,0,none⟩ = some (.slice A.ma g.mem.length A.mc) ∧ w4.cell? ⟨w.heap.size + 1,1,none⟩ = some (.slice A.ua g.up.length A.uc) ∧ w4.cell? ⟨w2.heap.size,0,none⟩ = some (.int .i64 m.id) ∧ w4.cell? ⟨w2.heap.size,1,none⟩ = some (.int .i64 m.n) ∧ w4.cell? ⟨w2.heap.size,2,none⟩ = some (.slice Am.ra m.rows.length Am.rc) ∧ w4.cell? ⟨w2.heap.size,3,none⟩ = some (.slice Am.sa m.sung.length Am.sc) ∧ w4.cell? ⟨w2.heap.size,4,none⟩ = some (.bool m.done) := by
     obtain ⟨x0,x1,x2⟩ := Bx.g3 hq4.own
     have e := K4.new w2.heap.size HBx.out.1 (by have := HBx.out.2;omega)
     obtain ⟨y0,y1,y2,y3,y4⟩ := Bx.r5 (show Bx w4 w2.heap.size 39 #[.int .i64 m.id,.int .i64 m.n,.slice Am.ra m.rows.length Am.rc,.slice Am.sa m.sung.length Am.sc,.bool m.done] from e.trans hxV)
     exact ⟨x0,x1,y0,y1,y2,y3,y4⟩
    refine hK.out _ _ hs4 (fun hHeldN => ?_)
    clear hK hHeld
    have hHeld := hHeldN
    try simp only [Act.put,List.setIfInBounds_toArray,List.set_cons_zero,List.set_cons_succ]
    refine gt_pure (i := 9) (v := ?_) rfl (by kernel_rfl) (by kernel_rfl) (by kernel_rfl) (fun _ _ _ h => h) (Or.inl ⟨by rfl, ?_⟩) ?_
    rotate_left
    ·(intro X;go_simp;try with_reducible rfl)
    try simp only [Act.put,List.setIfInBounds_toArray,List.set_cons_zero,List.set_cons_succ]
    have hU := GQ.pushU (g := { g with mem := g.mem ++ [m] }) hq4 (Below.refl _ _) true ((K4.new _ (by have := hbW.size;have := hbd.size;omega) (by simp;omega)).trans (hxb.below hal2)) hul
    simp only at hU
    refine gt_one (i := 8) rfl (by kernel_rfl) (by kernel_rfl) (fun K hK => ?_)
    refine step_append_of (by rfl) _ _ _ _ (by rfl) _ _ (by rfl) (by rfl) hU ⟨rfl,rfl,rfl,rfl⟩ ?_
    rintro v5 w5 ⟨a5,c5,fp5,rfl,hq5,K5⟩
    have hnf : ¬ fp4 w2.heap.size := fun kk => by
     rcases K4.fpp _ kk with q | q | q
     ·have := HFp.out _ q;have := HBx.out.1;omega
     ·have := HFr.out _ q;omega
     ·have := HBx.out.2;omega
    have hbx4 : w4.heap[w2.heap.size]? = some (.cells #[.int .i64 m.id,.int .i64 m.n,.slice Am.ra m.rows.length Am.rc,.slice Am.sa m.sung.length Am.sc,.bool m.done] 39 (0,0)) := (K4.new w2.heap.size HBx.out.1 (by have := HBx.out.2;omega)).trans hxV
    have hl4 : w2.heap.size < w4.heap.size := by have := K4.sz;have := HBx.out.2;omega
    have hs5 : w5.cell? ⟨w.heap.size + 1,0,none⟩ = some (.slice A.ma g.mem.length A.mc) ∧ w5.cell? ⟨w.heap.size + 1,1,none⟩ = some (.slice A.ua g.up.length A.uc) ∧ w5.cell? ⟨w2.heap.size,0,none⟩ = some (.int .i64 m.id) ∧ w5.cell? ⟨w2.heap.size,1,none⟩ = some (.int .i64 m.n) ∧ w5.cell? ⟨w2.heap.size,2,none⟩ = some (.slice Am.ra m.rows.length Am.rc) ∧ w5.cell? ⟨w2.heap.size,3,none⟩ = some (.slice Am.sa m.sung.length Am.sc) ∧ w5.cell? ⟨w2.heap.size,4,none⟩ = some (.bool m.done) := by
     obtain ⟨x0,x1,x2⟩ := Bx.g3 hq5.own
     have e := K5.mid w2.heap.size hl4 hnf
     obtain ⟨y0,y1,y2,y3,y4⟩ := Bx.r5 (show Bx w5 w2.heap.size 39 #[.int .i64 m.id,.int .i64 m.n,.slice Am.ra m.rows.length Am.rc,.slice Am.sa m.sung.length Am.sc,.bool m.done] from e.trans hbx4)
     exact ⟨x0,x1,y0,y1,y2,y3,y4⟩
    have HRs : Hid (w5.heap[w.heap.size]? = some (.cells #[.slice none 0 0,.slice none 0 0,.slice none 0 0] 66 (0,0))) := by
     have hwl : w.heap.size + 2 ≤ wr.heap.size := HM.out.sz
     have e5 := K5.mid w.heap.size (by have := K4.sz;have := HBx.out.2;have := HBx.out.1;omega) (fun kk => by have := (hq4.fpl _ kk).1;omega)
     have e4 := K4.mid w.heap.size (by omega) (fun kk => by have := (HM.out.fpl _ kk).1;omega)
     exact e5.trans (e4.trans HRes.out)
    refine hK.out _ _ hs5 (fun hHeldN => ?_)
    clear hK hHeld
    have hHeld := hHeldN
    try simp only [Act.put,List.setIfInBounds_toArray,List.set_cons_zero,List.set_cons_succ]
    obtain ⟨x0,x1,x2⟩ := Bx.g3 hq5.own
    have y0' := hq5.own.f 0
    have hB6 := hq5.own.setC 0 (.slice a4 (g.mem.length + 1) c4)
    have z0 := hB6.at 0 (v := .slice a4 (g.mem.length + 1) c4) (by simp [grC])
    have z1 := hB6.at 1 (v := .slice A.ua g.up.length A.uc) (by simp [grC])
    have y1' := hB6.f 1
    have n6 : ¬ (fun Z : World => Z.cell? ⟨w.heap.size + 1,0,none⟩ = some (.slice A.ma g.mem.length A.mc) ∧ Z.cell? ⟨w.heap.size + 1,1,none⟩ = some (.slice A.ua g.up.length A.uc) ∧ Z.cell? ⟨w2.heap.size,0,none⟩ = some (.int .i64 m.id) ∧ Z.cell? ⟨w2.heap.size,1,none⟩ = some (.int .i64 m.n) ∧ Z.cell? ⟨w2.heap.size,2,none⟩ = some (.slice Am.ra m.rows.length Am.rc) ∧ Z.cell? ⟨w2.heap.size,3,none⟩ = some (.slice Am.sa m.sung.length Am.sc) ∧ Z.cell? ⟨w2.heap.size,4,none⟩ = some (.bool m.done)) (w5.setCell ⟨w.heap.size + 1,0,none⟩ (.slice a4 (g.mem.length + 1) c4)) := fun hk => by
     have e := Option.some.inj (z0.symm.trans hk.1)
     simp only [Value.slice.injEq] at e
     omega
    obtain ⟨hGO,hKp⟩ := hq5.fin (by simp) (by simp) rfl
    have HM2 : Hid (GO w ((w5.setCell ⟨w.heap.size + 1,0,none⟩ (.slice a4 (g.mem.length + 1) c4)).setCell ⟨w.heap.size + 1,1,none⟩ (.slice a5 (g.up.length + 1) c5)) (w.heap.size + 1) ⟨a4,c4,a5,c5,A.la,A.lc⟩ { g with mem := g.mem ++ [m],up := g.up ++ [true] } fp5) := hGO
    have HR2 : Hid (Bx ((w5.setCell ⟨w.heap.size + 1,0,none⟩ (.slice a4 (g.mem.length + 1) c4)).setCell ⟨w.heap.size + 1,1,none⟩ (.slice a5 (g.up.length + 1) c5)) w.heap.size 66 #[.slice none 0 0,.slice none 0 0,.slice none 0 0]) := (hKp w.heap.size (by omega) (by have := hq5.sz;omega)).trans HRs.out
    refine gt_oneZ rfl (by kernel_rfl) (fun K hK => ?_)
    go_simp
    refine hK.out _ _ ?_
    try simp only [Act.put,List.setIfInBounds_toArray,List.set_cons_zero,List.set_cons_succ]
    refine gt_pure (i := 11) (v := ?_) rfl (by kernel_rfl) (by kernel_rfl) (by kernel_rfl) (fun _ _ _ h => h) (Or.inl ⟨by rfl, ?_⟩) ?_
    rotate_left
    ·(intro X;go_simp;try with_reducible rfl)
    try simp only [Act.put,List.setIfInBounds_toArray,List.set_cons_zero,List.set_cons_succ]
    refine gt_oneN (i := 12) n6 rfl (by kernel_rfl) (fun K hK => ?_)
    go_simp
    refine hK.out _ _ ?_
    try simp only [Act.put,List.setIfInBounds_toArray,List.set_cons_zero,List.set_cons_succ]
    refine gt_end (by kernel_rfl) ?_
    clear hHeld x0 x1 x2 y0' hB6 z0 z1 y1' n6 hGO hKp hq5
    generalize (w5.setCell ⟨w.heap.size + 1,0,none⟩ (.slice a4 (g.mem.length + 1) c4)).setCell ⟨w.heap.size + 1,1,none⟩ (.slice a5 (g.up.length + 1) c5) = W9 at *
    try go_wp2
    go_roundw
    case rel => exact ⟨k + 1,by omega,by go_num,_,_,_,HNx.out.symm,HM2.out,HR2.out⟩
    case measure => simp [intOf];omega
  ·have k1 : ¬ ((k : Int) < (K : Int)) := by omega
   have HGN : Hid (g = newK n K) := by rw [Hid,hg.out,show k = K by omega]
   clear hg
   have HM : Hid (GO w wr (w.heap.size + 1) A g fp) := M
   have HRes : Hid (Bx wr w.heap.size 66 #[.slice none 0 0,.slice none 0 0,.slice none 0 0]) := hres
   have hbd : Below wr.heap.size wr wr.drew := (Same.drewN wr 1).below
   have KS : ∀ Z,Below wr.heap.size wr Z → Z.cell? ⟨w.heap.size + 1,0,none⟩ = some (.slice A.ma g.mem.length A.mc) ∧ Z.cell? ⟨w.heap.size + 1,1,none⟩ = some (.slice A.ua g.up.length A.uc) ∧ Z.cell? ⟨w.heap.size + 1,2,none⟩ = some (.slice A.la g.mail.length A.lc) := fun Z hZ => Bx.g3 (HM.out.step hZ).own
   have hP : GrP wr.drew A g := by
    have := (HM.out.step hbd).ls
    refine ⟨⟨_,this⟩, ?_, ?_, ?_⟩
    ·rw [HGN.out];exact HK.out.2.1
    ·rw [HGN.out];exact HK.out.2.2.1
    ·rw [HGN.out];exact HK.out.2.2.2
   have hGo := implGroupOk A g wr.drew hP
   unfold grV grC at hGo
   clear M hres hP
   go_upto_region 8 with fail
   refine gt_begin (S := fun Z : World => Z.cell? ⟨w.heap.size + 1,0,none⟩ = some (.slice A.ma g.mem.length A.mc) ∧ Z.cell? ⟨w.heap.size + 1,1,none⟩ = some (.slice A.ua g.up.length A.uc) ∧ Z.cell? ⟨w.heap.size + 1,2,none⟩ = some (.slice A.la g.mail.length A.lc)) 5 hmix (by kernel_rfl) ?_
   have hHeld : (fun Z : World => Z.cell? ⟨w.heap.size + 1,0,none⟩ = some (.slice A.ma g.mem.length A.mc) ∧ Z.cell? ⟨w.heap.size + 1,1,none⟩ = some (.slice A.ua g.up.length A.uc) ∧ Z.cell? ⟨w.heap.size + 1,2,none⟩ = some (.slice A.la g.mail.length A.lc)) wr.drew := (KS _ hbd)
   refine gt_takeA (i := 0) (v := ?_) rfl (by kernel_rfl) (by kernel_rfl) (by kernel_rfl) (by kernel_rfl) (fun _ _ _ h => h) (Or.inl ⟨by rfl, ?_⟩) hHeld ?_
   rotate_left
   ·(intro X hSX;(try dsimp only at hSX);obtain ⟨g0,g1,g2⟩ := hSX;go_simp;try with_reducible rfl)
   try simp only [Act.put,List.setIfInBounds_toArray,List.set_cons_zero,List.set_cons_succ]
   refine gt_takeA (i := 1) (v := ?_) rfl (by kernel_rfl) (by kernel_rfl) (by kernel_rfl) (by kernel_rfl) (fun _ _ _ h => h) (Or.inl ⟨by rfl, ?_⟩) hHeld ?_
   rotate_left
   ·(intro X hSX;(try dsimp only at hSX);obtain ⟨g0,g1,g2⟩ := hSX;go_simp;try with_reducible rfl)
   try simp only [Act.put,List.setIfInBounds_toArray,List.set_cons_zero,List.set_cons_succ]
   refine gt_one (i := 2) rfl (by kernel_rfl) (by kernel_rfl) (fun K hK => ?_)
   go_simp
   go_at_call 42
   refine hGo.mono ?_
   rintro e w3 ⟨rfl,hb3⟩
   have hbw3 : Below wr.heap.size wr w3 := hbd.trans (hb3.mono hbd.size)
   have HM3 : Hid (GO w w3 (w.heap.size + 1) A g fp) := HM.out.step hbw3
   have hR3 := HRes.out.below hbw3
   obtain ⟨r0,r1,r2⟩ := Bx.g3 hR3
   obtain ⟨f0,f1,f2⟩ := hR3.f3
   have hne : w.heap.size + 1 ≠ w.heap.size := by omega
   obtain ⟨s0,s1,s2⟩ := Bx.g3 ((((HM3.out.own.far hne (i := 0) (.slice A.ma g.mem.length A.mc)).far hne (i := 1) (.slice A.ua g.up.length A.uc)).far hne (i := 2) (.slice A.la g.mail.length A.lc)))
   refine hK.out _ _ (KS _ hbw3) (fun hHeldN => ?_)
   clear hK hHeld
   have hHeld := hHeldN
   try simp only [Act.put,List.setIfInBounds_toArray,List.set_cons_zero,List.set_cons_succ]
   refine gt_one (i := 3) rfl (by kernel_rfl) (by kernel_rfl) (fun K hK => ?_)
   go_simp
   refine hK.out _ _ ⟨s0,s1,s2⟩ (fun hHeldN => ?_)
   clear hK hHeld
   have hHeld := hHeldN
   try simp only [Act.put,List.setIfInBounds_toArray,List.set_cons_zero,List.set_cons_succ]
   refine gt_one (i := 4) rfl (by kernel_rfl) (by kernel_rfl) (fun K hK => ?_)
   go_simp
   refine hK.out _ _ ⟨s0,s1,s2⟩ (fun hHeldN => ?_)
   clear hK hHeld
   have hHeld := hHeldN
   try simp only [Act.put,List.setIfInBounds_toArray,List.set_cons_zero,List.set_cons_succ]
   refine gt_end (by kernel_rfl) ?_
   have HA : Hid (NewL w (((w3.setCell ⟨w.heap.size,0,none⟩ (.slice A.ma g.mem.length A.mc)).setCell ⟨w.heap.size,1,none⟩ (.slice A.ua g.up.length A.uc)).setCell ⟨w.heap.size,2,none⟩ (.slice A.la g.mail.length A.lc)) (gr3 g) (grVals A g)) := HM3.out.ans (Nat.le_refl _) (by omega)
   have hRF := Bx.g3 (((hR3.setC 0 (.slice A.ma g.mem.length A.mc)).setC 1 (.slice A.ua g.up.length A.uc)).setC 2 (.slice A.la g.mail.length A.lc))
   try simp only [List.setIfInBounds_toArray,List.set_cons_zero,List.set_cons_succ] at hRF
   obtain ⟨t0,t1,t2⟩ := hRF
   clear hHeld hGo KS hbd hb3 hbw3 hR3 s0 s1 s2 r0 r1 r2 f0 f1 f2
   generalize ((w3.setCell ⟨w.heap.size,0,none⟩ (.slice A.ma g.mem.length A.mc)).setCell ⟨w.heap.size,1,none⟩ (.slice A.ua g.up.length A.uc)).setCell ⟨w.heap.size,2,none⟩ (.slice A.la g.mail.length A.lc) = W9 at *
   try go_wp2
   refine bodyPost_ret (v := .tuple #[grV A g,.bool (okGr g)]) (by simp [results,Try.results45,go_sem,grV,grC, *]) rfl ?_
   have e := HK.out.1
   rw [← HGN.out] at e
   rw [e]
   exact ⟨_,rfl,HA.out⟩
end Go.Proofs.Ythioodpmgifomaa