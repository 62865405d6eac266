/-
  Texts in one: Nof Nog Isq Ird Iwv Noh Rps Rnr Rtn Rhv Rhm Fns Fnt Fnu Fnb Rhr Rhp Rtw Rit Fnv Ffo Ffi Ffs.
-/
import Derived.Test.YtidnfdobljihoaaGreatJaq
import Derived.Test.YtidnfdobljihoaaGreatJag
import Derived.Test.YtidnfdobljihoaaGreatJap
import Derived.Test.YtidnfdobljihoaaGreatJaj
import Derived.Test.YtidnfdobljihoaaGreatJai
import Derived.Test.YtidnfdobljihoaaGreatJac
import Derived.Test.YtidnfdobljihoaaGreatJab
import Derived.Test.YtidnfdobljihoaaGreatJad
import Derived.Test.YtidnfdobljihoaaGreatJaa
import Derived.Test.YtidnfdobljihoaaGreatJae
import Derived.RangeFuncNested
import Derived.RangeFuncBound
import Derived.RangeFuncCalls
import Derived.RangeFuncLeaves
import Derived.RangeFuncBox
import Derived.Maps.AppendAt
import Derived.Shelf.Abstract
import Derived.Shelf.RegionOpen
import Derived.WalkKit
import Derived.OwnWalkIn
import Derived.TacticsInMore
import Derived.LoopNIn
import Derived.LoopIn
import Derived.Deep.RegionHeld3
import Derived.BigQuiet
namespace Go.Proofs.YtidnfdobljihoaaGreat
set_option linter.unusedVariables false
set_option linter.unusedSimpArgs false
open Go.RowKit Go.Sort
set_option maxRecDepth 100000 in
set_option maxHeartbeats 1600000 in
theorem hoe_any (w0 : World) (B : Nat) (m : Mb) (i n : Nat) (fp : Fp) (g off c : Nat) (X : World) (M : Iw w0 X B m fp g off c) (ok : OkW m i n) (L : List Nat) (la : Option Addr) (lc : Nat) (hv : Vec X la (lN L).length (lN L)) (hLn : ∀ k ∈ L,k < n) (hLL : L.length ≤ 5) :
  Calls Tryz.prog 147 #[.pointer (some ⟨B,0,none⟩),.slice la L.length lc] X fun e w' => e = .returned (.bool (ends m.rows i (rowN m.rows i) L)) ∧ Below X.heap.size X w' := by
 have hn5 := ok.n5
 have HM : Hid (Iw w0 X B m fp g off c) := M
 have HLn : Hid (m.rows.length = n) := ok.len
 have hml : m.rows.length ≤ 5 := by rw [ok.len];exact hn5.2
 have HOk : Hid (∀ k,k < n → OkR (rowN m.rows k) n) := ok.ok
 have HFm : Hid (FitM m) := ok.fit
 have HId : Hid (m.id = (i : Int)) := ok.hid
 have HIl : Hid (i < m.rows.length) := by rw [Hid,ok.len];exact ok.lt
 have HL : Hid (∀ k ∈ L,k < n) := hLn
 have HV : Hid (Vec X la (lN L).length (lN L)) := hv
 have HOw : Hid (∀ Y,Below X.heap.size X Y → Calls Tryz.prog 82 #[.pointer (some ⟨B,0,none⟩)] Y fun e w' => e = .returned (.pointer (some ⟨g,off + i * 8,none⟩)) ∧ Below Y.heap.size Y w') := fun Y hY => by
  have M1 := M.step hY
  obtain ⟨c0,_⟩ := M1.id'
  rw [ok.hid] at c0
  exact own_any B i m.rows.length g off c Y c0 M1.rws HIl.out
 have hO := HOw.out X (Below.refl _ _)
 clear M hv hLn
 go_enter Tryz.func147,Tryz.ntmps147
 go_wp2_with fail
 refine hO.mono ?_
 rintro e XA ⟨rfl,hbA⟩
 have HXA : Hid (Below X.heap.size X XA) := hbA
 clear hO hbA
 go_wp2_with fail
 go_loopw [13] (fun v wr => ∃ k : Nat,k ≤ L.length ∧ v = .int .i64 (k : Int) ∧ Hid ((L.take k).all (fun k => (rowN m.rows k).rdy && (decide ((rowN m.rows k).by_ = (rowN m.rows i).by_) && (decide ((rowN m.rows k).trm = (rowN m.rows i).trm) && decide ((i : Int) ∉ (rowN m.rows k).sus)))) = true) ∧ Below X.heap.size X wr) (fun v _ => L.length - (intOf v).toNat)
 case atStart => exact ⟨0,Nat.zero_le _,rfl,rfl,HXA.out⟩
 case round =>
  obtain ⟨k,hk,rfl,HA,hb⟩ := hrel
  have HB : Hid (Below X.heap.size X wr) := hb
  by_cases hlt : k < L.length
  ·have hJn : L.getD k 0 < n := HL.out _ (getD_memN hlt)
   have hJl : L.getD k 0 < m.rows.length := by rw [HLn.out];exact hJn
   rcases (HV.out.below hb (Nat.le_refl _)).2.2 with hz | ⟨lb,lo,hla,hlc⟩
   ·rw [lN_len] at hz;omega
   have hlk := hlc k (by rw [lN_len];exact hlt)
   rw [el_lN hlt] at hlk
   obtain ⟨AJ,⟨⟨d0,d1,d2,d3⟩,d4,d5,d6,d7⟩,hrs⟩ := (HM.out.step hb).row HFm.out hJl
   have crw := (HM.out.step hb).rws
   have HT : Hid (((rowN m.rows (L.getD k 0)).rdy && (decide ((rowN m.rows (L.getD k 0)).by_ = (rowN m.rows i).by_) && (decide ((rowN m.rows (L.getD k 0)).trm = (rowN m.rows i).trm) && decide ((i : Int) ∉ (rowN m.rows (L.getD k 0)).sus)))) = true → (L.take (k + 1)).all (fun k => (rowN m.rows k).rdy && (decide ((rowN m.rows k).by_ = (rowN m.rows i).by_) && (decide ((rowN m.rows k).trm = (rowN m.rows i).trm) && decide ((i : Int) ∉ (rowN m.rows k).sus)))) = true) := fun h => all_takeN (d := 0) hlt HA.out h
   have HF : Hid (((rowN m.rows (L.getD k 0)).rdy && (decide ((rowN m.rows (L.getD k 0)).by_ = (rowN m.rows i).by_) && (decide ((rowN m.rows (L.getD k 0)).trm = (rowN m.rows i).trm) && decide ((i : Int) ∉ (rowN m.rows (L.getD k 0)).sus)))) = false → ends m.rows i (rowN m.rows i) L = false) := fun h => all_not (d := 0) hlt h
   have HSl : Hid ((rowN m.rows (L.getD k 0)).sus.length ≤ maxLen) := by have h := HOk.out _ hJn;have := h.sl;have := h.n5;unfold maxLen;rw [Hid];omega
   have HTl : Hid ((rowN m.rows (L.getD k 0)).trm.length ≤ maxLen) := by have h := HOk.out _ hJn;have := h.ml;have := h.n5;unfold maxLen;rw [Hid];omega
   have HSo : Hid ((rowN m.rows i).sus.length ≤ maxLen) := by have h := HOk.out i (by rw [← HLn.out];exact HIl.out);have := h.sl;have := h.n5;unfold maxLen;rw [Hid];omega
   generalize L.getD k 0 = J at *
   have k1 : (k : Int) < (L.length : Int) := by omega
   have k0 : (0 : Int) ≤ (k : Int) := by omega
   have J0 : (0 : Int) ≤ (J : Int) := by omega
   have J1 : (J : Int) < (m.rows.length : Int) := by omega
   generalize rowN m.rows J = r at *
   have hba := oneA16 wr (.cells #[.int .i64 r.ver,.slice AJ.ta r.txt.length AJ.tc,.slice AJ.ga r.got.length AJ.gc,.slice AJ.sa r.sus.length AJ.sc,.bool r.wed,.bool r.rdy,.int .i64 r.by_,.slice AJ.ma r.trm.length AJ.mc] 37)
   have hxr := Bx.new wr 37 #[.int .i64 r.ver,.slice AJ.ta r.txt.length AJ.tc,.slice AJ.ga r.got.length AJ.gc,.slice AJ.sa r.sus.length AJ.sc,.bool r.wed,.bool r.rdy,.int .i64 r.by_,.slice AJ.ma r.trm.length AJ.mc]
   have HBa : Hid (Below X.heap.size X (wr.alloc (.cells #[.int .i64 r.ver,.slice AJ.ta r.txt.length AJ.tc,.slice AJ.ga r.got.length AJ.gc,.slice AJ.sa r.sus.length AJ.sc,.bool r.wed,.bool r.rdy,.int .i64 r.by_,.slice AJ.ma r.trm.length AJ.mc] 37))) := HB.out.trans (hba.mono HB.out.size)
   have HXr : Hid (Bx (wr.alloc (.cells #[.int .i64 r.ver,.slice AJ.ta r.txt.length AJ.tc,.slice AJ.ga r.got.length AJ.gc,.slice AJ.sa r.sus.length AJ.sc,.bool r.wed,.bool r.rdy,.int .i64 r.by_,.slice AJ.ma r.trm.length AJ.mc] 37)) wr.heap.size 37 #[.int .i64 r.ver,.slice AJ.ta r.txt.length AJ.tc,.slice AJ.ga r.got.length AJ.gc,.slice AJ.sa r.sus.length AJ.sc,.bool r.wed,.bool r.rdy,.int .i64 r.by_,.slice AJ.ma r.trm.length AJ.mc]) := hxr
   have HSv : Hid (Vec (wr.alloc (.cells #[.int .i64 r.ver,.slice AJ.ta r.txt.length AJ.tc,.slice AJ.ga r.got.length AJ.gc,.slice AJ.sa r.sus.length AJ.sc,.bool r.wed,.bool r.rdy,.int .i64 r.by_,.slice AJ.ma r.trm.length AJ.mc] 37)) AJ.sa r.sus.length r.sus) := hrs.sus.below hba (Nat.le_refl _)
   have HTv : Hid (Vec (wr.alloc (.cells #[.int .i64 r.ver,.slice AJ.ta r.txt.length AJ.tc,.slice AJ.ga r.got.length AJ.gc,.slice AJ.sa r.sus.length AJ.sc,.bool r.wed,.bool r.rdy,.int .i64 r.by_,.slice AJ.ma r.trm.length AJ.mc] 37)) AJ.ma r.trm.length r.trm) := hrs.trm.below hba (Nat.le_refl _)
   rw [hla]
   have HLA : Hid (la = some ⟨lb,lo,none⟩) := hla
   clear hrs hb hlc hba hxr hla
   go_upto_region 6 with fail
   generalize wr.alloc (.cells #[.int .i64 r.ver,.slice AJ.ta r.txt.length AJ.tc,.slice AJ.ga r.got.length AJ.gc,.slice AJ.sa r.sus.length AJ.sc,.bool r.wed,.bool r.rdy,.int .i64 r.by_,.slice AJ.ma r.trm.length AJ.mc] 37) = W5 at *
   clear d0 d1 d2 d3 d4 d5 d6 d7 crw hlk
   have T : ∀ {x v},W5.cell? x = some v → ∀ q : Bk W5,q.w.cell? x = some v := fun h q => (q.h.cell (World.block_lt_of_cell? _ _ h)).trans h
   have p5 := T (HXr.out.at 5 (v := .bool r.rdy) rfl)
   have p6 := T (HXr.out.at 6 (v := .int .i64 r.by_) rfl)
   have p7 := T (HXr.out.at 7 (v := .slice AJ.ma r.trm.length AJ.mc) rfl)
   have p3 := T (HXr.out.at 3 (v := .slice AJ.sa r.sus.length AJ.sc) rfl)
   obtain ⟨Ai,⟨⟨_,_,_,_⟩,_,_,d6,d7⟩,hri⟩ := (HM.out.step HBa.out).row HFm.out HIl.out
   have q6 := T d6
   have q7 := T d7
   obtain ⟨c0,_⟩ := (HM.out.step HBa.out).id'
   rw [HId.out] at c0
   have p0 := T c0
   have CE := fun q : Bk W5 => (slEqual_any AJ.ma Ai.ma r.trm.length AJ.mc (rowN m.rows i).trm.length Ai.mc r.trm (rowN m.rows i).trm q.w (HTv.out.below q.h (Nat.le_refl _)) (hri.trm.below q.h (Nat.le_refl _)) HTl.out).mono (fun e w' h => (⟨h.1,by obtain ⟨_,n1,rfl⟩ := h;exact belowN (Below.refl _ _)⟩ : e = .returned (.bool (decide (r.trm = (rowN m.rows i).trm))) ∧ Below q.w.heap.size q.w w'))
   have CC := fun q : Bk W5 => (con14_any AJ.sa AJ.sc r.sus (i : Int) q.w (HSv.out.below q.h (Nat.le_refl _)) HSl.out).mono (fun e w' h => (⟨h.1,h.2 ▸ Below.refl _ _⟩ : e = .returned (.bool (decide ((i : Int) ∈ r.sus))) ∧ Below q.w.heap.size q.w w'))
   clear hri d6 d7 c0 T
   cases hrd : r.rdy with
   | false =>
    rw [hrd] at p5
    have HN : Hid (ends m.rows i (rowN m.rows i) L = false) := HF.out (by rw [hrd];rfl)
    clear HT HF hrd
    go_wp2_with fail
    refine wp_region_bk (by kernel_rfl) (by kernel_rfl) ?_
    repeat (go_big_quiet_step ((first | rfl)))
    refine wpQuiet_nil ?_
    intro wE hw'
    obtain ⟨⟨w11,hb11⟩,hw''⟩ := hw'
    have hwe : wE = w11 := hw''
    clear hw''
    subst hwe
    have HB1 : Hid (Below X.heap.size X wE) := HBa.out.trans (hb11.mono HBa.out.size)
    clear hb11 p5 p6 p7 p3 q6 q7 p0 CE CC
    go_wp2
    go_ret
    exact ⟨by first | (rw [HN.out];done) | (have h := HN.out;simp only [h];done) | simp [HN.out],HB1.out⟩
   | true =>
    rw [hrd] at p5 HT HF
    clear hrd
    by_cases hby : r.by_ = (rowN m.rows i).by_
    rotate_left
    ·have e1 : (r.by_ != (rowN m.rows i).by_) = true := by simp [hby]
     have HN : Hid (ends m.rows i (rowN m.rows i) L = false) := HF.out (by rw [decide_eq_false hby];rfl)
     clear HT HF hby
     go_wp2_with fail
     refine wp_region_bk (by kernel_rfl) (by kernel_rfl) ?_
     repeat (go_big_quiet_step ((first | rfl)))
     refine wpQuiet_nil ?_
     intro wE hw'
     obtain ⟨⟨w11,hb11⟩,hw''⟩ := hw'
     have hwe : wE = w11 := hw''
     clear hw''
     subst hwe
     have HB1 : Hid (Below X.heap.size X wE) := HBa.out.trans (hb11.mono HBa.out.size)
     clear hb11 p5 p6 p7 p3 q6 q7 p0 CE CC
     go_wp2
     go_ret
     exact ⟨by first | (rw [HN.out];done) | (have h := HN.out;simp only [h];done) | simp [HN.out],HB1.out⟩
    have e1 : (r.by_ != (rowN m.rows i).by_) = false := by simp [hby]
    rw [decide_eq_true hby] at HT HF
    clear hby
    by_cases htm : r.trm = (rowN m.rows i).trm
    rotate_left
    ·rw [decide_eq_false htm] at CE
     have HN : Hid (ends m.rows i (rowN m.rows i) L = false) := HF.out (by rw [decide_eq_false htm];rfl)
     clear HT HF htm
     go_wp2_with fail
     refine wp_region_bk (by kernel_rfl) (by kernel_rfl) ?_
     repeat (go_big_quiet_step ((first | (go_at_call 150;exact bk_call _ (CE _)) | rfl)))
     refine wpQuiet_nil ?_
     intro wE hw'
     obtain ⟨⟨w11,hb11⟩,hw''⟩ := hw'
     have hwe : wE = w11 := hw''
     clear hw''
     subst hwe
     have HB1 : Hid (Below X.heap.size X wE) := HBa.out.trans (hb11.mono HBa.out.size)
     clear hb11 p5 p6 p7 p3 q6 q7 p0 CE CC
     go_wp2
     go_ret
     exact ⟨by first | (rw [HN.out];done) | (have h := HN.out;simp only [h];done) | simp [HN.out],HB1.out⟩
    rw [decide_eq_true htm] at CE HT HF
    clear htm
    by_cases hin : (i : Int) ∈ r.sus
    ·rw [decide_eq_true hin] at CC
     have HN : Hid (ends m.rows i (rowN m.rows i) L = false) := HF.out (by rw [decide_eq_false (fun h => h hin)];rfl)
     clear HT HF hin
     go_wp2_with fail
     refine wp_region_bk (by kernel_rfl) (by kernel_rfl) ?_
     repeat (go_big_quiet_step ((first | (go_at_call 150;exact bk_call _ (CE _)) | (go_at_call 101;exact bk_call _ (CC _)) | rfl)))
     refine wpQuiet_nil ?_
     intro wE hw'
     obtain ⟨⟨w11,hb11⟩,hw''⟩ := hw'
     have hwe : wE = w11 := hw''
     clear hw''
     subst hwe
     have HB1 : Hid (Below X.heap.size X wE) := HBa.out.trans (hb11.mono HBa.out.size)
     clear hb11 p5 p6 p7 p3 q6 q7 p0 CE CC
     go_wp2
     go_ret
     exact ⟨by first | (rw [HN.out];done) | (have h := HN.out;simp only [h];done) | simp [HN.out],HB1.out⟩
    rw [decide_eq_false hin] at CC
    have HN : Hid _ := HT.out (by rw [decide_eq_true hin];rfl)
    clear HT HF hin
    go_wp2_with fail
    refine wp_region_bk (by kernel_rfl) (by kernel_rfl) ?_
    repeat (go_big_quiet_step ((first | (go_at_call 150;exact bk_call _ (CE _)) | (go_at_call 101;exact bk_call _ (CC _)) | rfl)))
    refine wpQuiet_nil ?_
    intro wE hw'
    obtain ⟨⟨w11,hb11⟩,hw''⟩ := hw'
    have hwe : wE = w11 := hw''
    clear hw''
    subst hwe
    have HB1 : Hid (Below X.heap.size X wE) := HBa.out.trans (hb11.mono HBa.out.size)
    clear hb11 p5 p6 p7 p3 q6 q7 p0 CE CC
    go_wp2
    go_roundw
    case rel => exact ⟨k + 1,by omega,by go_num,HN,HB1.out⟩
    case measure => simp [intOf];omega
  ·have k1 : ¬ ((k : Int) < (L.length : Int)) := by omega
   have HN : Hid (ends m.rows i (rowN m.rows i) L = true) := by
    have := HA.out
    rw [show k = L.length by omega,List.take_length] at this
    exact this
   clear HA hb
   go_wp2
   go_ret
   exact ⟨by first | (rw [HN.out];done) | (have h := HN.out;simp only [h];done) | simp [HN.out],HB.out⟩
end Go.Proofs.YtidnfdobljihoaaGreat
namespace Go.Proofs.YtidnfdobljihoaaGreat
set_option linter.unusedVariables false
set_option linter.unusedSimpArgs false
open Go.RowKit Go.Sort
set_option maxRecDepth 100000 in
set_option maxHeartbeats 1600000 in
theorem eas_any (w0 : World) (B : Nat) (m : Mb) (i n f : Nat) (fp : Fp) (g off c : Nat) (X : World) (M : Iw w0 X B m fp g off c) (ok : OkW m i n) (hf : f < n) :
  Calls Tryz.prog 144 #[.pointer (some ⟨B,0,none⟩),.int .i64 (f : Int)] X fun e w' => e = .returned (.tuple #[]) ∧ Iw w0 w' B { m with rows := m.rows.set i (adopt m.rows i (rowN m.rows i) f) } fp g off c := by
 have hn5 := ok.n5
 have hil : i < m.rows.length := by rw [ok.len];exact ok.lt
 have hfl : f < m.rows.length := by rw [ok.len];exact hf
 have hml : m.rows.length ≤ 5 := by rw [ok.len];exact hn5.2
 obtain ⟨AJ,⟨⟨d0,d1,d2,d3⟩,d4,d5,d6,d7⟩,hrs⟩ := M.row ok.fit hfl
 have crw := M.rws
 have hokr := ok.ok f hf
 have HSl : Hid ((rowN m.rows f).sus.length ≤ maxLen) := by have := hokr.sl;have := hokr.n5;unfold maxLen;rw [Hid];omega
 have HTl : Hid ((rowN m.rows f).trm.length ≤ 100) := by have := hokr.ml;have := hokr.n5;rw [Hid];omega
 have HT : Hid ((rowN m.rows f).rdy = true ∧ (rowN m.rows f).by_ = (f : Int) ∧ (i : Int) ∉ (rowN m.rows f).sus ∧ (!(rowN m.rows i).rdy || decide ((rowN m.rows i).by_ < (f : Int))) = true → adopt m.rows i (rowN m.rows i) f = { rowN m.rows i with rdy := true,by_ := (f : Int),trm := (rowN m.rows f).trm }) := fun h => by
  rw [adopt,if_pos]
  refine ⟨h.1,h.2.1,h.2.2.1,fun hh => ?_⟩
  have h4 := h.2.2.2
  rw [hh.1] at h4
  simp at h4
  omega
 have HF : Hid (¬ ((rowN m.rows f).rdy = true ∧ (rowN m.rows f).by_ = (f : Int) ∧ (i : Int) ∉ (rowN m.rows f).sus ∧ (!(rowN m.rows i).rdy || decide ((rowN m.rows i).by_ < (f : Int))) = true) → ({ m with rows := m.rows.set i (adopt m.rows i (rowN m.rows i) f) } : Mb) = m) := fun h => by
  rw [adopt,if_neg,set_sameA (rowN_at hil)]
  rintro ⟨h1,h2,h3,h4⟩
  refine h ⟨h1,h2,h3, ?_⟩
  cases hr : (rowN m.rows i).rdy with
  | false => rfl
  | true =>
   simp
   by_cases h5 : (rowN m.rows i).by_ < (f : Int)
   ·exact h5
   ·exact absurd ⟨hr,by omega⟩ h4
 have HM : Hid (Iw w0 X B m fp g off c) := M
 have HOk : Hid (OkW m i n) := ok
 have f0 : (0 : Int) ≤ (f : Int) := by omega
 have f1 : (f : Int) < (m.rows.length : Int) := by omega
 clear hokr M ok
 generalize rowN m.rows f = r at *
 have hba := oneA16 X (.cells #[.int .i64 r.ver,.slice AJ.ta r.txt.length AJ.tc,.slice AJ.ga r.got.length AJ.gc,.slice AJ.sa r.sus.length AJ.sc,.bool r.wed,.bool r.rdy,.int .i64 r.by_,.slice AJ.ma r.trm.length AJ.mc] 37)
 have hxr := Bx.new X 37 #[.int .i64 r.ver,.slice AJ.ta r.txt.length AJ.tc,.slice AJ.ga r.got.length AJ.gc,.slice AJ.sa r.sus.length AJ.sc,.bool r.wed,.bool r.rdy,.int .i64 r.by_,.slice AJ.ma r.trm.length AJ.mc]
 have HXr : Hid (Bx (X.alloc (.cells #[.int .i64 r.ver,.slice AJ.ta r.txt.length AJ.tc,.slice AJ.ga r.got.length AJ.gc,.slice AJ.sa r.sus.length AJ.sc,.bool r.wed,.bool r.rdy,.int .i64 r.by_,.slice AJ.ma r.trm.length AJ.mc] 37)) X.heap.size 37 #[.int .i64 r.ver,.slice AJ.ta r.txt.length AJ.tc,.slice AJ.ga r.got.length AJ.gc,.slice AJ.sa r.sus.length AJ.sc,.bool r.wed,.bool r.rdy,.int .i64 r.by_,.slice AJ.ma r.trm.length AJ.mc]) := hxr
 have HSv : Hid (Vec (X.alloc (.cells #[.int .i64 r.ver,.slice AJ.ta r.txt.length AJ.tc,.slice AJ.ga r.got.length AJ.gc,.slice AJ.sa r.sus.length AJ.sc,.bool r.wed,.bool r.rdy,.int .i64 r.by_,.slice AJ.ma r.trm.length AJ.mc] 37)) AJ.sa r.sus.length r.sus) := hrs.sus.below hba (Nat.le_refl _)
 have HTv : Hid (Vec (X.alloc (.cells #[.int .i64 r.ver,.slice AJ.ta r.txt.length AJ.tc,.slice AJ.ga r.got.length AJ.gc,.slice AJ.sa r.sus.length AJ.sc,.bool r.wed,.bool r.rdy,.int .i64 r.by_,.slice AJ.ma r.trm.length AJ.mc] 37)) AJ.ma r.trm.length r.trm) := hrs.trm.below hba (Nat.le_refl _)
 have HMA : Hid (Iw w0 (X.alloc (.cells #[.int .i64 r.ver,.slice AJ.ta r.txt.length AJ.tc,.slice AJ.ga r.got.length AJ.gc,.slice AJ.sa r.sus.length AJ.sc,.bool r.wed,.bool r.rdy,.int .i64 r.by_,.slice AJ.ma r.trm.length AJ.mc] 37)) B m fp g off c) := HM.out.step hba
 clear hrs hba hxr
 go_enter Tryz.func144,Tryz.ntmps144
 go_upto_region 2 with fail
 generalize X.alloc (.cells #[.int .i64 r.ver,.slice AJ.ta r.txt.length AJ.tc,.slice AJ.ga r.got.length AJ.gc,.slice AJ.sa r.sus.length AJ.sc,.bool r.wed,.bool r.rdy,.int .i64 r.by_,.slice AJ.ma r.trm.length AJ.mc] 37) = W5 at *
 clear d0 d1 d2 d3 d4 d5 d6 d7 crw
 have T : ∀ {x v},W5.cell? x = some v → ∀ q : Bk W5,q.w.cell? x = some v := fun h q => (q.h.cell (World.block_lt_of_cell? _ _ h)).trans h
 have p5 := T (HXr.out.at 5 (v := .bool r.rdy) rfl)
 have p6 := T (HXr.out.at 6 (v := .int .i64 r.by_) rfl)
 have p7 := T (HXr.out.at 7 (v := .slice AJ.ma r.trm.length AJ.mc) rfl)
 have p3 := T (HXr.out.at 3 (v := .slice AJ.sa r.sus.length AJ.sc) rfl)
 obtain ⟨c0,_⟩ := HMA.out.id'
 rw [HOk.out.hid] at c0
 have p0 := T c0
 have CC := fun q : Bk W5 => (con14_any AJ.sa AJ.sc r.sus (i : Int) q.w (HSv.out.below q.h (Nat.le_refl _)) HSl.out).mono (fun e w' h => (⟨h.1,h.2 ▸ Below.refl _ _⟩ : e = .returned (.bool (decide ((i : Int) ∈ r.sus))) ∧ Below q.w.heap.size q.w w'))
 have CH := fun q : Bk W5 => heb_any w0 B m i n (f : Int) fp g off c q.w (HMA.out.step q.h) HOk.out
 clear c0 T
 go_wp2_with fail
 cases hrd : r.rdy with
 | false =>
  rw [hrd] at p5
  have HN : Hid (({ m with rows := m.rows.set i (adopt m.rows i (rowN m.rows i) f) } : Mb) = m) := HF.out (fun h => by rw [hrd] at h;exact absurd h.1 (by decide))
  clear HT HF hrd
  refine wp_region_bk (by kernel_rfl) (by kernel_rfl) ?_
  repeat (go_big_quiet_step ((first | rfl)))
  refine wpQuiet_nil ?_
  intro wE hw'
  obtain ⟨⟨w11,hb11⟩,hw''⟩ := hw'
  have hwe : wE = w11 := hw''
  clear hw''
  subst hwe
  have HE : Hid (Iw w0 wE B { m with rows := m.rows.set i (adopt m.rows i (rowN m.rows i) f) } fp g off c) := by rw [Hid,HN.out];exact HMA.out.step hb11
  clear hb11 p5 p6 p7 p3 p0 CC CH HN
  go_wp2
  first | go_end0 | go_ret
  exact ⟨rfl,HE.out⟩
 | true =>
  rw [hrd] at p5
  by_cases hby : r.by_ = (f : Int)
  rotate_left
  ·have e1 : (r.by_ == (f : Int)) = false := by simp [hby]
   have HN : Hid (({ m with rows := m.rows.set i (adopt m.rows i (rowN m.rows i) f) } : Mb) = m) := HF.out (fun h => hby h.2.1)
   clear HT HF hrd hby
   refine wp_region_bk (by kernel_rfl) (by kernel_rfl) ?_
   repeat (go_big_quiet_step ((first | rfl)))
   refine wpQuiet_nil ?_
   intro wE hw'
   obtain ⟨⟨w11,hb11⟩,hw''⟩ := hw'
   have hwe : wE = w11 := hw''
   clear hw''
   subst hwe
   have HE : Hid (Iw w0 wE B { m with rows := m.rows.set i (adopt m.rows i (rowN m.rows i) f) } fp g off c) := by rw [Hid,HN.out];exact HMA.out.step hb11
   clear hb11 p5 p6 p7 p3 p0 CC CH HN
   go_wp2
   first | go_end0 | go_ret
   exact ⟨rfl,HE.out⟩
  have e1 : (r.by_ == (f : Int)) = true := by simp [hby]
  by_cases hin : (i : Int) ∈ r.sus
  ·rw [decide_eq_true hin] at CC
   have HN : Hid (({ m with rows := m.rows.set i (adopt m.rows i (rowN m.rows i) f) } : Mb) = m) := HF.out (fun h => h.2.2.1 hin)
   clear HT HF hrd hby hin
   refine wp_region_bk (by kernel_rfl) (by kernel_rfl) ?_
   repeat (go_big_quiet_step ((first | (go_at_call 101;exact bk_call _ (CC _)) | rfl)))
   refine wpQuiet_nil ?_
   intro wE hw'
   obtain ⟨⟨w11,hb11⟩,hw''⟩ := hw'
   have hwe : wE = w11 := hw''
   clear hw''
   subst hwe
   have HE : Hid (Iw w0 wE B { m with rows := m.rows.set i (adopt m.rows i (rowN m.rows i) f) } fp g off c) := by rw [Hid,HN.out];exact HMA.out.step hb11
   clear hb11 p5 p6 p7 p3 p0 CC CH HN
   go_wp2
   first | go_end0 | go_ret
   exact ⟨rfl,HE.out⟩
  rw [decide_eq_false hin] at CC
  cases hhe : (!(rowN m.rows i).rdy || decide ((rowN m.rows i).by_ < (f : Int))) with
  | false =>
   rw [hhe] at CH
   have HN : Hid (({ m with rows := m.rows.set i (adopt m.rows i (rowN m.rows i) f) } : Mb) = m) := HF.out (fun h => by have := h.2.2.2;rw [hhe] at this;cases this)
   clear HT HF hrd hby hin hhe
   refine wp_region_bk (by kernel_rfl) (by kernel_rfl) ?_
   repeat (go_big_quiet_step ((first | (go_at_call 101;exact bk_call _ (CC _)) | (go_at_call 177;exact bk_call _ (CH _)) | rfl)))
   refine wpQuiet_nil ?_
   intro wE hw'
   obtain ⟨⟨w11,hb11⟩,hw''⟩ := hw'
   have hwe : wE = w11 := hw''
   clear hw''
   subst hwe
   have HE : Hid (Iw w0 wE B { m with rows := m.rows.set i (adopt m.rows i (rowN m.rows i) f) } fp g off c) := by rw [Hid,HN.out];exact HMA.out.step hb11
   clear hb11 p5 p6 p7 p3 p0 CC CH HN
   go_wp2
   first | go_end0 | go_ret
   exact ⟨rfl,HE.out⟩
  | true =>
   rw [hhe] at CH
   have HN : Hid (adopt m.rows i (rowN m.rows i) f = { rowN m.rows i with rdy := true,by_ := (f : Int),trm := r.trm }) := HT.out ⟨hrd,hby,hin,hhe⟩
   clear HT HF hrd hby hin hhe
   refine wp_region_bk (by kernel_rfl) (by kernel_rfl) ?_
   repeat (go_big_quiet_step ((first | (go_at_call 101;exact bk_call _ (CC _)) | (go_at_call 177;exact bk_call _ (CH _)) | rfl)))
   refine wpQuiet_nil ?_
   intro wE hw'
   obtain ⟨⟨w11,hb11⟩,hw''⟩ := hw'
   have hwe : wE = w11 := hw''
   clear hw''
   subst hwe
   have t7 := p7 ⟨wE,hb11⟩
   simp only at t7
   have hE := eby_any w0 B m i n (f : Int) r.trm AJ.ma AJ.mc fp g off c wE (HMA.out.step hb11) HOk.out (HTv.out.below hb11 (Nat.le_refl _)) HTl.out
   rw [← HN.out] at hE
   clear hb11 p5 p6 p7 p3 p0 CC CH HN
   go_wp2_with (go_at_call 178;refine hE.mono ?_;rintro e w9 ⟨rfl,hM9⟩;have HM9 : Hid _ := hM9;clear hM9)
   first | go_end0 | go_ret
   exact ⟨rfl,HM9⟩
end Go.Proofs.YtidnfdobljihoaaGreat
namespace Go.Proofs.YtidnfdobljihoaaGreat
set_option linter.unusedVariables false
set_option linter.unusedSimpArgs false
open Go.RowKit Go.Sort Go.Shelf
attribute [local go_sem] Oper.semAt_some
theorem wrow_prefix (cs : List Int) (k : Nat) {i j : Nat} (h : i ≤ j) : wrow cs k i <+: wrow cs k j := by
  induction j with
  | zero => obtain rfl : i = 0 := by omega
            exact List.prefix_refl _
  | succ j ih =>
    rcases Nat.lt_or_ge j i with h1 | h1
    · obtain rfl : i = j + 1 := by omega
      exact List.prefix_refl _
    · rw [wrow_succ]
      exact (ih h1).trans (List.prefix_append _ _)
theorem wovs_prefix (cs : List Int) {i j : Nat} (h : i ≤ j) : wovs cs i <+: wovs cs j := by
  induction j with
  | zero => obtain rfl : i = 0 := by omega
            exact List.prefix_refl _
  | succ j ih =>
    rcases Nat.lt_or_ge j i with h1 | h1
    · obtain rfl : i = j + 1 := by omega
      exact List.prefix_refl _
    · rw [wovs_succ]
      exact (ih h1).trans (List.prefix_append _ _)
theorem part_prefix {cs : List Int} {k j M : Nat} (hk : k < M) (hj : j ≤ cs.length) : wovs cs k ++ wrow cs k j <+: wovs cs M := by
 refine List.IsPrefix.trans ?_ (wovs_prefix cs (Nat.succ_le_of_lt hk))
 rw [wovs_succ]
 exact (List.prefix_append_right_inj _).2 (wrow_prefix cs k hj)
def Kp7 (n₀ Bn : Nat) (W W' : World) : Prop := Below n₀ W W' ∧ W'.heap[Bn]? = W.heap[Bn]?
theorem Kp7.trans {n₀ Bn : Nat} {A B C : World} (h : Kp7 n₀ Bn A B) (k : Kp7 n₀ Bn B C) : Kp7 n₀ Bn A C := ⟨h.1.trans k.1,k.2.trans h.2⟩
theorem Kp7.refl (n₀ Bn : Nat) (W : World) : Kp7 n₀ Bn W W := ⟨Below.refl _ _,rfl⟩
theorem Kp7.drewN {n₀ Bn : Nat} {A B : World} (h : Kp7 n₀ Bn A B) (n : Nat) : Kp7 n₀ Bn A (B.drewN n) := ⟨belowN h.1,h.2⟩
theorem Kp7.box {n₀ Bn : Nat} {A B : World} (h : Kp7 n₀ Bn A B) {v : Value} (hv : A.cell? ⟨Bn,0,none⟩ = some v) : B.cell? ⟨Bn,0,none⟩ = some v := (World.cell?_of_block (w := A) h.2).trans hv
theorem Kp7.put {n₀ Bn : Nat} {w : World} (hn : n₀ ≤ w.heap.size) (hB : Bn < w.heap.size) (W : World) (l : Nat) (o o' : Obj) (hl : w.heap.size ≤ l) (h : W.heap[l]? = some o) (h1 : o.isCells = false) (h2 : o.isWalk = false) : Kp7 n₀ Bn W (W.putObj l o') :=
 ⟨belowK_b hn W l o o' hl h h1 h2,World.putObj_heap_other (by omega)⟩
theorem abides_drewN {β : Type} {B : Nat} {J : β → World → Prop} (h : AbidesFrom B J) {s : β} {W : World} (hs : J s W) (n : Nat) : J s (W.drewN n) :=
 h s W _ none hs ⟨rfl,rfl,rfl,Nat.le_refl _,fun _ _ _ => rfl⟩ (fun r e => by cases e)
set_option maxRecDepth 100000 in
set_option maxHeartbeats 2000000 in
theorem seqs1_in (n : Nat) (hn : 1 ≤ n) (l Bn n₀ b off len cap : Nat) (cs : List Int) (hok : okCt cs = true) (hlen : cs.length = len) (hf : Fits cs) (hcap : len ≤ cap) (hm : cap ≤ maxLen) (hb : b < n₀) (J Jx : List Int → World → Prop)
  (hY : ∀ pre x W,J pre W → pre.length < (wovs cs (gr cs).toNat).length → YieldAt Fence.wide (n - 1) Tryz.prog l #[.int .i64 x] W fun e W' =>
   (e = .returned (.bool true) ∧ J (pre ++ [x]) W' ∧ Kp7 n₀ Bn W W') ∨ (e = .returned (.bool false) ∧ Jx (pre ++ [x]) W'))
  (W : World) (hAb : AbidesFrom W.heap.size J) (hBn : W.cell? ⟨Bn,0,none⟩ = some (.slice (some ⟨b,off,none⟩) len cap)) (hc : ∀ i,i < len → W.cell? ⟨b,off + i,none⟩ = some (.int .i64 (el cs i))) (h0 : J [] W) :
  CallsIn Fence.wide n Tryz.prog 171 #[.func (.yield l) #[] #[],.pointer (some ⟨Bn,0,none⟩)] W fun e W' => (∃ v,e = .returned v) ∧
   ((∃ ys,ys = wovs cs (gr cs).toNat ∧ J ys W') ∨ (∃ pre,pre <+: wovs cs (gr cs).toNat ∧ Jx pre W')) := by
 obtain ⟨hokB,hall⟩ := okCt_all hok
 have h18 := okB_len hokB
 have h1 : 1 ≤ len := by omega
 have h8 : len ≤ 8 := by omega
 have hG : Hid (∀ w,(∀ i,i < len → w.cell? ⟨b,off + i,none⟩ = some (.int .i64 (el cs i))) → Calls Tryz.prog 160 #[.slice (some ⟨b,off,none⟩) len cap] w fun e w' => e = .returned (.int .i64 (gr cs)) ∧ ∃ m,w' = w.drewN m) :=
  fun w hcw => vgreatest_any b off len cap cs w hlen hf hcw (by omega) hcap hm
 have g0 : 0 ≤ gr cs := Int.le_trans (hall 0 (by omega)).1 (gr_ge (by omega))
 have g1 : gr cs ≤ 100000 := (gr_le (by omega)).2 (fun i hi => (hall i hi).2)
 obtain ⟨M,hM⟩ : ∃ M : Nat,gr cs = (M : Int) := ⟨(gr cs).toNat,by omega⟩
 have hS : Hid (∀ (k j : Nat) (w : World),k < M → j < len → Calls Tryz.prog 172 #[.int .i64 len,.int .i64 j,.int .i64 k] w fun e w' => e = .returned (.int .i64 ((len : Int) * (k : Int) + (j : Int))) ∧ w' = w) := by
  intro k j w hk hj
  have := seqI_any (len : Int) (j : Int) (k : Int) ⟨by omega,by omega⟩ w
  rwa [show seqL (len : Int) (j : Int) (k : Int) = (len : Int) * (k : Int) + (j : Int) by rw [seqL,if_pos (seqB_iff.2 ⟨⟨by omega,by omega⟩,⟨by omega,by omega⟩,by omega,by omega⟩)]] at this
 have eM : (gr cs).toNat = M := by omega
 rw [eM] at hY ⊢
 have HG : Hid (gr cs = (M : Int)) := hM
 have HL : Hid (cs.length = len) := hlen
 have HA : Hid (∀ i,i < len → 0 ≤ el cs i ∧ el cs i ≤ 100000) := fun i hi => hall i (by omega)
 have hm1 : (M : Int) ≤ 100000 := by omega
 clear eM hlen hall g0 g1 h18 hokB hok
 have hG0 := hG.out W hc
 rw [HG.out] at hG0
 clear hM hG HG
 refine callsIn_of_wp Tryz.func171 rfl trivial ?_ rfl
 simp only [Tryz.ntmps171,List.size_toArray,List.length_cons,List.length_nil,Nat.reduceAdd,Nat.reduceSub,Array.replicate_succ,Array.replicate_zero,List.push_toArray,List.append_toArray,List.nil_append,List.cons_append]
 gi_wp2_with (refine ⟨trivial, ?_⟩;gi_at_call 160;refine (callsIn_wide.2 hG0).mono ?_;rintro e w' ⟨rfl,m,rfl⟩)
 have hK0 : Kp7 n₀ Bn W (W.drewN m) := (Kp7.refl _ _ _).drewN m
 have hJ0 : J (wovs cs 0) (W.drewN m) := abides_drewN hAb h0 m
 generalize W.drewN m = W1 at *
 gi_loopw [11] (fun i wr => ∃ k : Nat,k ≤ M ∧ i = .int .i64 k ∧ J (wovs cs k) wr ∧ Kp7 n₀ Bn W wr)
  (fun i _ => M - (intOf i).toNat)
 case atStart => exact ⟨0,Nat.zero_le _,rfl,hJ0,hK0⟩
 case round =>
  obtain ⟨k,hk,rfl,hJs,hnx⟩ := hrel
  have hbx := hnx.box hBn
  by_cases hlt : k < M
  ·gi_wp2
   gi_loopw [16] (fun i wr2 => ∃ j : Nat,j ≤ len ∧ i = .int .i64 j ∧ J (wovs cs k ++ wrow cs k j) wr2 ∧ Kp7 n₀ Bn W wr2)
    (fun i _ => len - (intOf i).toNat)
   case atStart => exact ⟨0,Nat.zero_le _,rfl,by simpa [wrow] using hJs,hnx⟩
   case round =>
    obtain ⟨j,hj,rfl,hJ2,hn2⟩ := hrel
    by_cases hjl : j < len
    ·have hcx := (hn2.1.cell (p := ⟨b,off + j,none⟩) hb).trans (hc j hjl)
     have hbd := HA.out j hjl
     by_cases hx : (k : Int) < el cs j
     ·have HW : Hid (wrow cs k (j + 1) = wrow cs k j ++ [(len : Int) * (k : Int) + (j : Int)]) := by rw [Hid,wrow_succ,if_pos hx,HL.out]
      have HP : Hid (wovs cs k ++ wrow cs k (j + 1) <+: wovs cs M) := part_prefix hlt (by rw [HL.out];omega)
      have hS1 := fun w => hS.out k j w hlt hjl
      obtain ⟨fn,tmps,assign,body,hy,hR⟩ := hY _ ((len : Int) * (k : Int) + (j : Int)) wr hJ2 (by
       have := HP.out.length_le
       rw [HW.out] at this
       simp only [List.length_append,List.length_cons,List.length_nil] at this ⊢
       omega)
      generalize (len : Int) * (k : Int) + (j : Int) = x at *
      gi_wp2_with (refine ⟨trivial, ?_⟩;gi_at_call 172;refine (callsIn_wide.2 (hS1 _)).mono ?_;rintro e w' ⟨rfl,rfl⟩)
      refine hR.mono ?_
      rintro e W3 (⟨rfl,hJ3,hk3⟩ | ⟨rfl,hJx3⟩)
      ·gi_wp2
       go_roundw
       case rel => exact ⟨j + 1,by omega,by go_num,by rw [HW.out,← List.append_assoc];exact hJ3,hn2.trans hk3⟩
       case measure => simp [intOf];omega
      ·gi_wp2
       refine bodyPost_ret (results_none rfl _ _ _) rfl ?_
       exact ⟨⟨_,rfl⟩,.inr ⟨_,by have := HP.out;rw [HW.out,← List.append_assoc] at this;exact this,hJx3⟩⟩
     ·have HW : Hid (wrow cs k (j + 1) = wrow cs k j) := by rw [Hid,wrow_succ,if_neg hx,List.append_nil]
      gi_wp2
      refine ⟨trivial, ?_⟩
      gi_wp2
      refine ⟨fun _ h => (by cases h), ?_⟩
      gi_wp2
      go_roundw
      case rel => exact ⟨j + 1,by omega,by go_num,by rw [HW.out];exact hJ2,hn2⟩
      case measure => simp [intOf];omega
    ·obtain rfl : j = len := by omega
     have HW : Hid (wovs cs (k + 1) = wovs cs k ++ wrow cs k j) := by rw [Hid,wovs_succ,HL.out]
     gi_wp2
     go_roundw
     case rel => exact ⟨k + 1,by omega,by go_num,by rw [HW.out];exact hJ2,hn2⟩
     case measure => simp [intOf];omega
  ·obtain rfl : k = M := by omega
   gi_wp2
   go_end0
   exact ⟨⟨_,rfl⟩,.inl ⟨_,rfl,hJs⟩⟩
end Go.Proofs.YtidnfdobljihoaaGreat
namespace Go.Proofs.YtidnfdobljihoaaGreat
set_option linter.unusedVariables false
set_option linter.unusedSimpArgs false
open Go.RowKit Go.Sort Go.Shelf
attribute [local go_sem] Oper.semAt_some
set_option maxHeartbeats 400000 in
theorem seqsOf_any (a : Option Addr) (len cap : Nat) (w : World) : Calls Tryz.prog 137 #[.slice a len cap] w fun e w' => e = .returned (.func (.func 171) #[] #[.pointer (some ⟨w.heap.size,0,none⟩)]) ∧ w' = w.alloc (.cells #[.slice a len cap] 158) := by
 go_enter Tryz.func137,Tryz.ntmps137
 go_wp2
 go_ret
 exact ⟨rfl,rfl⟩
theorem seqs_stops (n : Nat) (hn : 1 ≤ n) (Bn n₀ b off len cap : Nat) (cs : List Int) (hok : okCt cs = true) (hlen : cs.length = len) (hf : Fits cs) (hcap : len ≤ cap) (hm : cap ≤ maxLen) (hb : b < n₀) (w : World) (hBn : Bn < w.heap.size) (hn₀ : n₀ ≤ w.heap.size)
  (hc : w.cell? ⟨Bn,0,none⟩ = some (.slice (some ⟨b,off,none⟩) len cap)) (hcs : ∀ i,i < len → w.cell? ⟨b,off + i,none⟩ = some (.int .i64 (el cs i))) :
  SeqStopsK Fence.wide n Tryz.prog 171 #[.pointer (some ⟨Bn,0,none⟩)] (fun x : Int => #[Value.int .i64 x]) (Kp7 n₀ Bn) (fun ys => ys = wovs cs (gr cs).toNat) (fun pre => pre <+: wovs cs (gr cs).toNat) (wovs cs (gr cs).toNat).length w := fun l J Jx W hW hJ _ hY h0 =>
 seqs1_in n hn l Bn n₀ b off len cap cs hok hlen hf hcap hm hb J Jx hY W hJ ((hW.cell (p := ⟨Bn,0,none⟩) hBn).trans hc) (fun i hi => (hW.cell (p := ⟨b,off + i,none⟩) (by show b < _;omega)).trans (hcs i hi)) h0
theorem mins_le (cs : List Int) (M : Nat) : ∀ j,mins cs M j ≤ j * M := by
 intro j
 induction j with
 | zero => simp [mins]
 | succ j ih => rw [mins_succ,Nat.succ_mul];omega
theorem wovs_max {cs : List Int} (hok : okCt cs = true) : (wovs cs (gr cs).toNat).length ≤ 800000 := by
 obtain ⟨hokB,hall⟩ := okCt_all hok
 have h18 := okB_len hokB
 have g1 : gr cs ≤ 100000 := (gr_le (by omega)).2 (fun i hi => (hall i hi).2)
 rw [wovs_len]
 refine Nat.le_trans (mins_le _ _ _) ?_
 exact Nat.mul_le_mul (by omega : cs.length ≤ 8) (by omega : (gr cs).toNat ≤ 100000)
theorem wovs_wov {cs : List Int} (hok : okCt cs = true) : IsWov cs (wovs cs (gr cs).toNat) := by
 obtain ⟨hokB,hall⟩ := okCt_all hok
 have h18 := okB_len hokB
 refine wovs_is (by omega) (fun i hi => ?_)
 have := gr_ge hi
 omega
end Go.Proofs.YtidnfdobljihoaaGreat
namespace Go.Proofs.YtidnfdobljihoaaGreat
set_option linter.unusedVariables false
set_option linter.unusedSimpArgs false
open Go.RowKit Go.Sort Go.Shelf
attribute [local go_sem] Oper.semAt_some
set_option maxRecDepth 100000 in
set_option maxHeartbeats 2000000 in
theorem appendSeq_in (g Bn n₀ b off len cap : Nat) (cs : List Int) (w : World) (hok : okCt cs = true) (hlen : cs.length = len) (hf : Fits cs) (hcap : len ≤ cap) (hm : cap ≤ maxLen) (hb : b < n₀) (hn₀ : n₀ ≤ w.heap.size)
  (hcs : ∀ i,i < len → w.cell? ⟨b,off + i,none⟩ = some (.int .i64 (el cs i))) (hbN : Boxed w Bn 158 (.slice (some ⟨b,off,none⟩) len cap)) (hrow : w.ownsRow n₀ 2 1 (.slice (some ⟨g,0,none⟩) 0 0) 0 []) :
  Calls Tryz.prog 136 #[.slice (some ⟨g,0,none⟩) 0 0,.func (.func 171) #[] #[.pointer (some ⟨Bn,0,none⟩)]] w fun e W' => (∃ g' c,e = .returned (.slice (some ⟨g',0,none⟩) (wovs cs (gr cs).toNat).length c) ∧
   W'.ownsRow n₀ 2 1 (.slice (some ⟨g',0,none⟩) (wovs cs (gr cs).toNat).length c) (wovs cs (gr cs).toNat).length ((wovs cs (gr cs).toNat).map (Value.int .i64))) ∧ Below n₀ w W' := by
 obtain ⟨i0,hi0,hz0,hz1,hz2⟩ := info_parts2n Tryz.info2n
 have hN := wovs_max hok
 have HL : Hid (cs.length = len) := hlen
 clear hlen
 refine (callsIn_wide (n := 3)).1 ?_
 refine callsIn_of_wp_marks Tryz.func136 rfl trivial ?_ rfl
 simp only [Tryz.ntmps136,List.size_toArray,List.length_cons,List.length_nil,Nat.reduceAdd,Nat.reduceSub,Array.replicate_succ,Array.replicate_zero,List.push_toArray,List.append_toArray,List.nil_append,List.cons_append]
 gi_wp2
 have bS := Boxed.new w 25 (.slice (some ⟨g,0,none⟩) 0 0)
 have hB1 : Below n₀ w (w.alloc (.cells #[.slice (some ⟨g,0,none⟩) 0 0] 25)) := (Below.refl _ w).alloc hn₀ _
 have hltN := hbN.lt
 refine wpIn_rangeFunc_ownG rfl (by omega) (gf := 171) (lb := #[.pointer (some ⟨Bn,0,none⟩)]) rfl trivial (enters_of Tryz.func171 (by kernel_rfl) rfl)
  (seqs_stops 2 (by omega) Bn n₀ b off len cap cs hok HL.out hf hcap hm hb _ (by simp;omega) (by simp;omega) (hbN.alloc _).cell (fun i hi => (hB1.cell (p := ⟨b,off + i,none⟩) hb).trans (hcs i hi))) Kp7.trans (Kp7.put (by simp;omega) (by simp;omega)) (Below.refl _ _) (fun _ => rfl)
  (fun pre W => ((∃ v,Boxed W w.heap.size 25 v ∧ W.ownsRow n₀ 2 1 v pre.length (pre.map (Value.int .i64)) ∧ ∃ g c,v = .slice (some ⟨g,0,none⟩) pre.length c) ∧ Boxed W Bn 158 (.slice (some ⟨b,off,none⟩) len cap)) ∧ Below n₀ w W)
  (fun _ _ _ => False)
  (OwnFrom.and (OwnFrom.and (Own.from (holdsRow_own n₀ w.heap.size 25 2 1 (fun pre : List Int => pre.length) (fun pre => pre.map (Value.int .i64)) (fun pre v => ∃ g c,v = .slice (some ⟨g,0,none⟩) pre.length c)) _) (Own.from (boxed_own Bn 158 (fun _ => .slice (some ⟨b,off,none⟩) len cap)) _)) (ownFrom_below hn₀ (by simp;omega)))
  (fun _ _ _ _ _ hs _ _ => hs)
  ⟨⟨⟨_,bS,hrow.alloc _,g,0,rfl⟩,hbN.alloc _⟩,hB1⟩
  (fun x => { tmps := #[.slice (some ⟨g,0,none⟩) 0 0,.func (.func 171) #[] #[.pointer (some ⟨Bn,0,none⟩)],.pointer (some ⟨w.heap.size,0,none⟩),undef,.slice none 0 0,.int .i64 x,.func (.func 171) #[] #[.pointer (some ⟨Bn,0,none⟩)],.int .i64 x,undef,undef,undef,undef,undef],defers := [] }) ?assign ?body ?done ?stop
 case assign =>
  intro l x W K hK
  gi_wp2
  exact hK
 case body =>
  rintro l pre x W ⟨⟨⟨v,hv,hrw,g1,c1,rfl⟩,hbn⟩,hB⟩ hlt
  have hc := hv.cell
  have hpl : pre.length < 800000 := by omega
  have hml : pre.length + 1 ≤ maxLen := by unfold maxLen;omega
  have hsz := hB.size
  gi_wp2_with (gi_at_builtin;refine wpListIn_append_own _ rfl _ _ 25 rfl n₀ 2 i0 (.int .i64 0) 1 8 Tryz.underlying25 hi0 hz0 hz1 hz2 rfl (by decide) _ _ _ rfl (hrw.alloc _) ⟨W.heap.size,0,none⟩ 1 1 [.int .i64 x] rfl rfl (cell_one_new _ _ _) (by simp [Value.oneCell']) (by omega) (by omega) (by simp;omega) ?_;intro v' w1 hown' hgrow _;obtain ⟨g',cap',rfl⟩ := ownsRow_succ hown';obtain ⟨hv1,hv2,hr2,hk2,hb2⟩ := hv.appended (by decide) hrw (Nat.le_trans hn₀ hsz) hn₀ hown' hgrow;have hc1 := hv1.cell;have hf1 := hv1.frozen)
  have hbn2 := ((hbn.alloc _).kept hgrow (hbn.not_row (by decide) hrw)).other (B' := w.heap.size) (by omega) (.slice (some ⟨g',0,none⟩) (pre.length + 1) cap')
  exact ⟨hk2.from _,⟨hb2,hbn2.trans (show W.heap[Bn]? = _ from hbn).symm⟩,⟨⟨_,hv2,by simpa using hr2,g',cap',by simp⟩,hbn2⟩,hB.trans hb2⟩
 case done =>
  rintro D ys W hD rfl ⟨⟨⟨v,hv,hrw,g1,c1,rfl⟩,hbn⟩,hB⟩ hK
  have hc := hv.cell
  gi_wp2
  refine ⟨by simp,.inl ⟨_,_,rfl,run_takeDeferred hK, ?_⟩⟩
  exact ⟨_,results_tmp rfl _ _ _,⟨g1,c1,rfl,ownsRow_putObj hrw _ hK rfl⟩,hB.trans (belowK_b (w := w) hn₀ W D _ _ (by simp at hD;omega) hK rfl rfl)⟩
 case stop =>
  rintro D c pre W _ _ h _
  exact h.elim
set_option maxRecDepth 100000 in
set_option maxHeartbeats 1600000 in
theorem implWoven : ImplWoven := by
 intro a len cap cs w hv hcap hm
 have hAr : Calls Tryz.prog 134 #[.slice a len cap] w fun e w' => e = .returned (.bool (okCt cs)) ∧ Below w.heap.size w w' :=
  (areCounts_any _ len cap cs w hv hcap hm).mono (fun e w' ⟨he,n,hw⟩ => ⟨he,hw ▸ belowN (Below.refl _ _)⟩)
 have hSm : Hid (∀ w1,Below w.heap.size w w1 → Calls Tryz.prog 135 #[.slice a len cap] w1 fun e w' => e = .returned (.int .i64 (sumB cs)) ∧ Below w.heap.size w w') :=
  fun w1 h1 => (implSum_any a len cap cs w1 (hv.below h1 (Nat.le_refl _)) hcap hm).mono (fun e w' ⟨he,n,hw⟩ => ⟨he,hw ▸ belowN h1⟩)
 cases hb : okCt cs with
 | false =>
  rw [hb] at hAr
  have HZ : Hid (IsWoven cs []) := .inr ⟨.inl hb,rfl⟩
  clear hb hSm
  go_enter Tryz.func76,Tryz.ntmps76
  go_wp2_with (go_at_call 134;refine hAr.mono ?_;rintro e w1 ⟨rfl,hB1⟩)
  go_ret
  exact ⟨[],HZ.out,_,0,0,rfl,hB1.size,num_empty _ 2,hB1.alloc hB1.size _⟩
 | true =>
  rw [hb] at hAr
  obtain ⟨hok,hall⟩ := okCt_all hb
  have hsb : sumB cs = sumL cs := by rw [sumB,if_pos hok]
  rw [hsb] at hSm
  by_cases h200 : (200 : Int) < sumL cs
  ·have HZ : Hid (IsWoven cs []) := .inr ⟨.inr h200,rfl⟩
   clear hb hsb hall hok
   generalize sumL cs = z at *
   go_enter Tryz.func76,Tryz.ntmps76
   go_wp2_with (first | (go_at_call 134;refine hAr.mono ?_;rintro e w1 ⟨rfl,hB1⟩) | (go_at_call 135;refine (hSm.out _ hB1).mono ?_;rintro e w2 ⟨rfl,hB2⟩))
   go_ret
   exact ⟨[],HZ.out,_,0,0,rfl,hB2.size,num_empty _ 2,hB2.alloc hB2.size _⟩
  ·have h18 := okB_len hok
   have hl := hv.1
   have hf : Fits cs := hv.2.1
   obtain ⟨b,off,rfl,hc⟩ := hv.cells (by omega)
   have hbl : b < w.heap.size := World.block_lt_of_cell? _ _ (hc 0 (by omega))
   have HZ : Hid (IsWoven cs (wovs cs (gr cs).toNat)) := .inl ⟨hb,by omega,wovs_wov hb⟩
   have hW : Hid (∀ w2,Below w.heap.size w w2 → Calls Tryz.prog 136 #[.slice (some ⟨w2.heap.size,0,none⟩) 0 0,.func (.func 171) #[] #[.pointer (some ⟨w2.heap.size + 1,0,none⟩)]] ((w2.alloc (.cells #[] 2)).alloc (.cells #[.slice (some ⟨b,off,none⟩) len cap] 158)) fun e w' => AnsN w w' e (wovs cs (gr cs).toNat)) := by
    intro w2 h2
    have hs2 := h2.size
    have hB3 : Below w.heap.size w ((w2.alloc (.cells #[] 2)).alloc (.cells #[.slice (some ⟨b,off,none⟩) len cap] 158)) := (h2.alloc hs2 _).alloc (by simp;omega) _
    have bN := Boxed.new (w2.alloc (.cells #[] 2)) 158 (.slice (some ⟨b,off,none⟩) len cap)
    rw [World.size_alloc] at bN
    refine (appendSeq_in w2.heap.size (w2.heap.size + 1) w.heap.size b off len cap cs _ hb hl hf hcap hm hbl (by simp;omega) (fun i hi => (hB3.cell (p := ⟨b,off + i,none⟩) hbl).trans (hc i hi)) bN ((World.ownsRow_made w2 #[] 0 hs2 (Nat.zero_le _) rfl).alloc _)).mono ?_
    rintro e W' ⟨⟨g,c,rfl,ho⟩,hB⟩
    obtain ⟨g2,c2,hv2,hg2,ho2⟩ := OSl.of_ownsRow ho (by simp)
    cases hv2
    exact ⟨g,0,c,rfl,hg2,ho2,hB3.trans hB⟩
   have hd : decide ((200 : Int) < sumL cs) = false := by simpa using h200
   clear hb hsb hall hok hc h18 hl h200 hv hf
   generalize wovs cs (gr cs).toNat = Z at *
   generalize sumL cs = z at *
   go_enter Tryz.func76,Tryz.ntmps76
   go_wp2_with (first | (go_at_call 134;refine hAr.mono ?_;rintro e w1 ⟨rfl,hB1⟩) | (go_at_call 135;refine (hSm.out _ hB1).mono ?_;rintro e w2 ⟨rfl,hB2⟩) | (go_at_call 137;refine (seqsOf_any _ _ _ _).mono ?_;rintro e w3 ⟨rfl,rfl⟩) | (go_at_call 136;refine (hW.out _ hB2).mono ?_;rintro e w4 ⟨g,og,c,rfl,hg,ho,hB4⟩))
   go_ret
   exact ⟨_,HZ.out,g,og,c,rfl,hg,ho,hB4⟩
end Go.Proofs.YtidnfdobljihoaaGreat
namespace Go.Proofs.YtidnfdobljihoaaGreat
set_option linter.unusedVariables false
set_option linter.unusedSimpArgs false
open Go.RowKit Go.Sort
theorem putL_end : ∀ {L : List Int} {x : Int},(∀ y ∈ L,y < x) → putL L x = L ++ [x]
 | [],x,_ => rfl
 | y :: L,x,h => by
  rw [putL,if_pos (h y List.mem_cons_self),putL_end (fun z hz => h z (List.mem_cons_of_mem _ hz))]
  rfl
theorem el_lt_of_take {Z : List Int} (hr : Z.Pairwise (· < ·)) {j : Nat} (hj : j < Z.length) {y : Int} (hy : y ∈ Z.take j) : y < el Z j := by
 obtain ⟨k,hk,rfl⟩ := List.mem_iff_getElem.1 hy
 rw [List.length_take] at hk
 rw [List.getElem_take]
 have : el Z j = Z[j] := by simp [el,hj]
 rw [this]
 exact (List.pairwise_iff_getElem.1 hr) k j (by omega) hj (by omega)
theorem songP_end {s Z : List Int} (hs : ∀ q,q < s.length → el s q = (q : Int)) (hr : Z.Pairwise (· < ·)) (h0 : ∀ x ∈ Z,0 ≤ x) {j : Nat} (hj : j < Z.length) (hn : el Z j ∉ songP s Z j) : putL (songP s Z j) (el Z j) = songP s Z j ++ [el Z j] := by
 refine putL_end (fun y hy => ?_)
 rcases mem_songF.1 hy with h | h
 ·obtain ⟨q,hq,rfl⟩ := (mem_upto hs).1 h
  have hx := h0 _ (el_mem hj)
  rcases Int.lt_or_le (q : Int) (el Z j) with h1 | h1
  ·exact h1
  ·refine absurd (mem_songF.2 (.inl ((mem_upto hs).2 ⟨(el Z j).toNat,by omega,by omega⟩))) hn
 ·exact el_lt_of_take hr hj h
theorem ends_at {R : List Rw} {id : Nat} {o : Rw} {L : List Nat} (h : ends R id o L = true) {k : Nat} (hk : k ∈ L) : (rowN R k).rdy = true := by
 rw [ends,List.all_eq_true] at h
 have := h k hk
 simp only [Bool.and_eq_true] at this
 exact this.1
theorem isWov_12 {T : List Int} {n : Nat} (hn : 1 ≤ n ∧ n ≤ 5) (hl : T.length = n) (h12 : ∀ j,j < n → 0 ≤ el T j ∧ el T j ≤ 12) {Z : List Int} (h : IsWoven T Z) : Z = wovs T 12 := by
 refine h.unique (.inl ⟨?_, ?_,wovs_is (by omega) (fun i hi => by have := h12 i (by omega);omega)⟩)
 ·obtain ⟨h1,h2⟩ := (small_iff hn hl).2 h12
  simp only [okCt,Bool.and_eq_true,List.all_eq_true,decide_eq_true_eq]
  exact ⟨h1,fun x hx => by have := h2 x hx;omega⟩
 ·have h1 := wovs_count (cs := T) (M := 12) (fun i hi => h12 i (by omega))
  have h2 := wovs_le T 12
  omega
theorem Iw.rowK {w X : World} {B : Nat} {m : Mb} {fp : Fp} {g off c : Nat} (h : Iw w X B m fp g off c) (hf : FitM m) {k : Nat} (hk : k < m.rows.length) : ∃ Ak : Ra,C8 X g (off + k * 8) (.int .i64 (rowN m.rows k).ver) (.slice Ak.ta (rowN m.rows k).txt.length Ak.tc) (.slice Ak.ga (rowN m.rows k).got.length Ak.gc) (.slice Ak.sa (rowN m.rows k).sus.length Ak.sc) (.bool (rowN m.rows k).wed) (.bool (rowN m.rows k).rdy) (.int .i64 (rowN m.rows k).by_) (.slice Ak.ma (rowN m.rows k).trm.length Ak.mc) ∧ RwS X Ak (rowN m.rows k) ∧ ((rowN m.rows k).got.length ≤ Ak.gc ∧ Ak.gc ≤ maxLen) ∧ ((rowN m.rows k).trm.length ≤ Ak.mc ∧ Ak.mc ≤ maxLen) := by
 obtain ⟨Ak,h8,hs⟩ := h.row hf hk
 obtain ⟨f1,f2,f3⟩ := hf.1 _ (rowN_mem hk)
 obtain ⟨⟨q0,q1,q2,q3⟩,q4,q5,q6,q7⟩ := h8
 refine ⟨Ak,⟨⟨q0,q1,q2,q3⟩,q4,q5,q6,q7⟩,hs, ?_, ?_⟩
 ·obtain ⟨u,f,hu,_,how,_⟩ := h.at hk (j := 2) rfl
  obtain ⟨a,cc,e,_,h1,h2⟩ := vw_icl (Cel.ow_vw how) f1
  have := Option.some.inj (q2.symm.trans (hu.trans (by rw [e])))
  simp only [Value.slice.injEq] at this
  rw [this.2.2]
  exact ⟨h1,h2⟩
 ·obtain ⟨u,f,hu,_,how,_⟩ := h.at hk (j := 7) rfl
  obtain ⟨a,cc,e,_,h1,h2⟩ := vw_icl (Cel.ow_vw how) f3
  have := Option.some.inj (q7.symm.trans (hu.trans (by rw [e])))
  simp only [Value.slice.injEq] at this
  rw [this.2.2]
  exact ⟨h1,h2⟩
def endM (m : Mb) (i n : Nat) : Mb := if n < 2 * (leftN n (rowN m.rows i).sus).length ∧ ends m.rows i (rowN m.rows i) (leftN n (rowN m.rows i).sus) = true then { m with sung := songT m.sung (rowN m.rows i).trm,done := true } else m
set_option maxRecDepth 100000 in
set_option maxHeartbeats 3200000 in
theorem enp_any (w0 : World) (B : Nat) (m : Mb) (i n : Nat) (fp : Fp) (g off c : Nat) (X : World) (M : Iw w0 X B m fp g off c) (ok : OkM m i n) (hd : m.done = false) :
  Calls Tryz.prog 86 #[.pointer (some ⟨B,0,none⟩)] X fun e w' => e = .returned (.tuple #[]) ∧ Iw w0 w' B (endM m i n) fp g off c := by
 have hil : i < m.rows.length := by rw [ok.len];exact ok.lt
 have hr := ok.ok i ok.lt
 have hn5 := ok.n5
 have hL := lft_any w0 B m i n fp g off c X M ok
 have HM0 : Hid (Iw w0 X B m fp g off c) := M
 have HLn : Hid (∀ k ∈ leftN n (rowN m.rows i).sus,k < n) := fun k hk => (mem_leftN.1 hk).1
 have HLi : Hid (i ∈ leftN n (rowN m.rows i).sus) := mem_leftN.2 ⟨ok.lt,ok.self⟩
 have hLL := leftN_len n (rowN m.rows i).sus
 have HE : Hid (endM m i n = if n < 2 * (leftN n (rowN m.rows i).sus).length ∧ ends m.rows i (rowN m.rows i) (leftN n (rowN m.rows i).sus) = true then { m with sung := songT m.sung (rowN m.rows i).trm,done := true } else m) := rfl
 generalize endM m i n = mE at *
 generalize hLe : leftN n (rowN m.rows i).sus = L at *
 have hL5 : L.length ≤ 5 := by omega
 clear hLe M
 go_enter Tryz.func86,Tryz.ntmps86
 go_wp2_with fail
 refine hL.mono ?_
 rintro e wl ⟨la,lc,rfl,fl,hl1,hl2,hl3⟩
 rw [lN_len] at hl1 ⊢
 have hLv : Vec wl la (lN L).length (lN L) := vec_of_ow (by rw [lN_len];exact hl1) (lN_fits HLn.out (by omega))
 have HM1 : Hid (Iw w0 wl B m fp g off c) := HM0.out.step hl3
 have hMs := mst_any B m.rows.length c L.length lc (some ⟨g,off,none⟩) la wl HM1.out.rws (by omega) (by rw [ok.len];exact hn5.2)
 have hHo := hoe_any w0 B m i n fp g off c wl HM1.out ok.okw L la lc hLv HLn.out hL5
 rw [ok.len] at hMs
 clear hl1 hl2 hl3 hL HM0 hLv
 by_cases hmj : n < 2 * L.length
 rotate_left
 ·have HN : Hid (mE = m) := by rw [Hid,HE.out,if_neg (fun h => hmj h.1)]
  rw [decide_eq_false hmj] at hMs
  clear HE hmj hHo
  go_wp2_with (go_at_call 145;refine hMs.mono ?_;rintro e w' ⟨rfl,hw'⟩;rw [hw'];clear hw')
  try simp only [Exit.inBlock,Exit.then]
  refine bodyPost_ret (results_none rfl _ _ _) rfl ?_
  exact ⟨rfl,by rw [HN.out];exact HM1.out⟩
 rw [decide_eq_true hmj] at hMs
 cases hen : ends m.rows i (rowN m.rows i) L with
 | false =>
  have HN : Hid (mE = m) := by rw [Hid,HE.out,if_neg (fun h => by rw [hen] at h;cases h.2)]
  rw [hen] at hHo
  clear HE hmj hen
  go_wp2_with (first | (go_at_call 145;refine hMs.mono ?_;rintro e w' ⟨rfl,hw'⟩;rw [hw'];clear hw') | (go_at_call 147;refine hHo.mono ?_;rintro e w2 ⟨rfl,hb2⟩;have HB2 : Hid (Below wl.heap.size wl w2) := hb2;clear hb2))
  try simp only [Exit.inBlock,Exit.then]
  refine bodyPost_ret (results_none rfl _ _ _) rfl ?_
  exact ⟨rfl,by rw [HN.out];exact HM1.out.step HB2.out⟩
 | true =>
  have HRD : Hid ((rowN m.rows i).rdy = true) := ends_at hen HLi.out
  have HN : Hid (mE = { m with sung := songT m.sung (rowN m.rows i).trm,done := true }) := by rw [Hid,HE.out,if_pos ⟨hmj,hen⟩]
  rw [hen] at hHo
  clear HE hmj hen
  go_upto_region 2 with (first | (go_at_call 145;refine hMs.mono ?_;rintro e w' ⟨rfl,hw'⟩;rw [hw'];clear hw') | (go_at_call 147;refine hHo.mono ?_;rintro e w2 ⟨rfl,hb2⟩;have HB2 : Hid (Below wl.heap.size wl w2) := hb2;clear hb2))
  have M2 := HM1.out.step HB2.out
  clear hMs hHo HM1 HB2
  obtain ⟨u4,f4,q1,q2,q3,_,q4⟩ := M2.mat (j := 3) (cl := .v (.bool m.done)) rfl (by omega)
  obtain ⟨rfl,_⟩ := q3
  obtain ⟨_,_,M3⟩ := q4 w2 (.v (.bool true)) (.bool true) (fun _ => False) { m with done := true } rfl rfl (Wrt.refl _ _) ⟨rfl,fun _ h => h⟩ (fun b hb => hb.elim)
  have HM3 : Hid (Iw w0 (w2.setCell ⟨B,0 + 3,none⟩ (.bool true)) B { m with done := true } fp g off c) := M3
  have q1' : w2.cell? ⟨B,3,none⟩ = some (.bool m.done) := by simpa using q1
  have q2' : w2.frozen? ⟨B,3,none⟩ = false := by simpa using q2
  clear M2 M3 q4 q1 q2
  rw [show 0 + 3 = 3 from rfl] at HM3
  go_upto_region 3 with fail
  generalize w2.setCell ⟨B,3,none⟩ (.bool true) = W3 at *
  clear q1' q2'
  obtain ⟨c0,_⟩ := HM3.out.id'
  have c1 := HM3.out.rws
  simp only at c0 c1
  rw [ok.hid] at c0
  have hOw := own_any B i m.rows.length g off c W3 c0 c1 hil
  clear c0 c1
  go_wp2_with fail
  refine hOw.mono ?_
  rintro e W4 ⟨rfl,hb4⟩
  have HM4 : Hid (Iw w0 W4 B { m with done := true } fp g off c) := HM3.out.step hb4
  clear hOw hb4 HM3
  obtain ⟨Ai,⟨⟨_,_,_,_⟩,_,_,_,d7⟩,hri,_,hkm⟩ := HM4.out.rowK (m := { m with done := true }) ok.fit hil
  simp only at d7 hri hkm
  obtain ⟨_,_,hok3,htl,h12⟩ := hr.rdy HRD.out
  have hsm := (small_iff hr.n5 htl).1 ⟨hok3,h12⟩
  have hW := implWoven Ai.ma (rowN m.rows i).trm.length Ai.mc (rowN m.rows i).trm W4 hri.trm hkm.1 hkm.2
  have HTL : Hid ((rowN m.rows i).trm.length = n) := htl
  have HSm : Hid (∀ j,j < n → 0 ≤ el (rowN m.rows i).trm j ∧ el (rowN m.rows i).trm j ≤ 12) := hsm
  have HSg : Hid (songT m.sung (rowN m.rows i).trm = songP m.sung (wovs (rowN m.rows i).trm 12) (wovs (rowN m.rows i).trm 12).length) := by rw [Hid,songP_all];rfl
  clear hri htl hsm hok3 h12 hr hkm
  generalize (rowN m.rows i).trm = T at *
  go_wp2_with (go_at_call 76;refine hW.mono ?_;rintro e W5 ⟨Z,hZ,sg,so,sc,rfl,hsg,hO,hb5⟩)
  obtain rfl := isWov_12 hn5 HTL.out HSm.out hZ
  have hZl : (wovs T 12).length ≤ 60 := by
   have := wovs_le T 12
   rw [HTL.out] at this
   omega
  have hZf : Fits (wovs T 12) := wovs_fits (by rw [HTL.out];omega) (by omega)
  have HZr : Hid ((wovs T 12).Pairwise (· < ·)) := wovs_rises T 12
  have HZ0 : Hid (∀ x ∈ wovs T 12,0 ≤ x) := fun x hx => by
   obtain ⟨k,j,_,_,_,rfl⟩ := mem_wovs.1 hx
   have : (T.length : Int) * (k : Int) = ((T.length * k : Nat) : Int) := by simp
   omega
  obtain ⟨fp5,f1,f2,_,M5,f4'⟩ := HM4.out.sub hb5
  have HF4 : Hid (∀ (Y : World) (m' : Mb),Iw W5 Y B m' fp5 g off c → Iw w0 Y B m' fp g off c) := f4'
  have HM5 : Hid (Iw W5 W5 B { m with done := true } fp5 g off c) := M5
  have HsB : Hid (¬ fp5 sg ∧ sg ≠ B) := ⟨fun k => by have := f1 _ k;omega,by omega⟩
  have HUp : Hid (∀ q,q < m.sung.length → el m.sung q = (q : Int)) := fun q hq => (ok.sg q hq).2 hd
  generalize wovs T 12 = Z at *
  have HOs : Hid (Cel.ow W5 (icl Z) (.slice (some ⟨sg,so,none⟩) Z.length sc) (fun b => b = sg)) := ow_icl.2 ⟨_,sc,some sg,rfl,OSo.of hO,fun b => by simp [eq_comm]⟩
  clear hW hZ hO hb5 f1 f2 f4' M5 hsg HM4 d7
  go_wp2_with fail
  go_loopw [35] (fun v wr => ∃ j : Nat,j ≤ Z.length ∧ v = .int .i64 (j : Int) ∧ Iw W5 wr B { m with done := true,sung := songP m.sung Z j } fp5 g off c) (fun v _ => Z.length - (intOf v).toNat)
  case atStart => exact ⟨0,Nat.zero_le _,rfl,HM5.out⟩
  case round =>
   obtain ⟨j,hj,rfl,M⟩ := hrel
   by_cases hlt2 : j < Z.length
   ·have j1 : (j : Int) < (Z.length : Int) := by omega
    have j0 : (0 : Int) ≤ (j : Int) := by omega
    have hsl := songP_len (s := m.sung) (Z := Z) j
    have hsf := songP_fits (s := m.sung) (Z := Z) ok.fit.2 hZf j
    have hms := ok.sl
    have HNx : Hid (songP m.sung Z (j + 1) = if el Z j ∈ songP m.sung Z j then songP m.sung Z j else putL (songP m.sung Z j) (el Z j)) := songP_next hlt2
    have HNe : Hid (el Z j ∉ songP m.sung Z j → putL (songP m.sung Z j) (el Z j) = songP m.sung Z j ++ [el Z j]) := fun h => songP_end HUp.out HZr.out HZ0.out hlt2 h
    have hZv := vec_of_ow (M.cel HOs.out (fun b hb => by rw [hb];exact HsB.out)) hZf
    rcases hZv.2.2 with hz | ⟨zb,zo,ez,hzc⟩
    ·omega
    cases ez
    have hzj := hzc j hlt2
    generalize el Z j = x at *
    generalize hsj : songP m.sung Z j = sj at *
    have hfm : FitM { m with done := true,sung := sj } := ⟨ok.fit.1,hsf⟩
    obtain ⟨sa,sc2,⟨c0,c1,c2,c3⟩,hms2⟩ := M.box hfm
    simp only at c2
    have hsv : Vec wr sa sj.length sj := hms2.sung
    have hC := con14_any sa sc2 sj x wr hsv (by unfold maxLen;omega)
    have HM : Hid (Iw W5 wr B { m with done := true,sung := sj } fp5 g off c) := M
    have HSj : Hid (sj.length ≤ 1000) := by rw [Hid];omega
    clear hms2 hsv hzc hZv hsf hsl M c0 c1 c3
    by_cases hin : x ∈ sj
    ·rw [decide_eq_true hin] at hC
     have HK : Hid (songP m.sung Z (j + 1) = sj) := by rw [Hid,HNx.out,if_pos hin]
     clear hin HNx HNe hsj
     go_wp2_with (go_at_call 101;refine hC.mono ?_;rintro e w' ⟨rfl,hw'⟩;rw [hw'];clear hw')
     go_roundw
     case rel => exact ⟨j + 1,by omega,by go_num,by rw [HK.out];exact HM.out⟩
     case measure => simp [intOf];omega
    ·rw [decide_eq_false hin] at hC
     have HK : Hid (songP m.sung Z (j + 1) = sj ++ [x]) := by rw [Hid,HNx.out,if_neg hin,HNe.out hin]
     clear hin HNx HNe hsj
     obtain ⟨u,f,hu,hz,how,hlt,hset⟩ := HM.out.mat (j := 2) rfl (by decide)
     obtain rfl := Option.some.inj (hu.symm.trans c2)
     obtain ⟨sa',sc',es,hA⟩ := ow_int_app x how (Nat.le_trans HSj.out (by decide))
     cases es
     have HSet : Hid (∀ (X1 : World) (c' : Cel) (u' : Value) (f' : Fp) (m' : Mb),(mb4 { m with done := true,sung := sj }).set 2 c' = mb4 m' → m'.rows.length = m.rows.length → Wrt f wr X1 → Cel.ow X1 c' u' f' → (∀ b,f' b → f b ∨ wr.heap.size ≤ b) → X1.cell? ⟨B,2,none⟩ = some (.slice sa sj.length sc2) ∧ X1.frozen? ⟨B,2,none⟩ = false ∧ Iw W5 (X1.setCell ⟨B,2,none⟩ u') B m' fp5 g off c) := by rw [Hid];simpa using hset
     clear hset hu hz hlt how
     go_upto_region 7 with (go_at_call 101;refine hC.mono ?_;rintro e w' ⟨rfl,hw'⟩;rw [hw'];clear hw')
     clear hzj
     go_upto_region 8 with (at_builtin;refine wpList_append_of (by rfl) _ _ _ _ (by rfl) _ _ (by rfl) (by rfl) hA ⟨rfl,rfl,rfl,rfl⟩ ?_;rintro v1 w1 ⟨a1,e1,f1,rfl,k1,k2,k3⟩;obtain ⟨q1,q2,M2⟩ := HSet.out w1 (icl (sj ++ [x])) (.slice a1 (sj.length + 1) e1) f1 { m with done := true,sung := sj ++ [x] } rfl rfl k3 k1 k2;have HM2 : Hid (Iw W5 (w1.setCell ⟨B,2,none⟩ (.slice a1 (sj.length + 1) e1)) B { m with done := true,sung := sj ++ [x] } fp5 g off c) := M2;clear M2 k1 k2 k3 hA c2 hC)
     generalize w1.setCell ⟨B,2,none⟩ (.slice a1 (sj.length + 1) e1) = W9 at *
     clear q1 q2
     go_wp2
     go_roundw
     case rel => exact ⟨j + 1,by omega,by go_num,by rw [HK.out];exact HM2.out⟩
     case measure => simp [intOf];omega
   ·have j1 : ¬ ((j : Int) < (Z.length : Int)) := by omega
    obtain rfl : j = Z.length := by omega
    have HK : Hid (Iw w0 wr B mE fp g off c) := by
     rw [Hid,HN.out,HSg.out]
     exact HF4.out _ _ M
    clear M
    go_wp2
    first | go_end0 | go_ret
    exact ⟨rfl,HK.out⟩
end Go.Proofs.YtidnfdobljihoaaGreat
namespace Go.Proofs.YtidnfdobljihoaaGreat
set_option linter.unusedVariables false
set_option linter.unusedSimpArgs false
open Go.RowKit Go.Sort
end Go.Proofs.YtidnfdobljihoaaGreat
namespace Go.Proofs.YtidnfdobljihoaaGreat
set_option linter.unusedVariables false
set_option linter.unusedSimpArgs false
open Go.RowKit Go.Sort
theorem infoSl10 : (Tryz.prog.info? 25).map (fun i => (i.zero,i.size,i.bytes)) = some (some (.slice none 0 0),1,24) := by kernel_rfl
end Go.Proofs.YtidnfdobljihoaaGreat
namespace Go.Proofs.YtidnfdobljihoaaGreat
set_option linter.unusedVariables false
set_option linter.unusedSimpArgs false
open Go.RowKit Go.Sort
end Go.Proofs.YtidnfdobljihoaaGreat
namespace Go.Proofs.YtidnfdobljihoaaGreat
set_option linter.unusedVariables false
set_option linter.unusedSimpArgs false
open Go.RowKit Go.Sort
end Go.Proofs.YtidnfdobljihoaaGreat
namespace Go.Proofs.YtidnfdobljihoaaGreat
set_option linter.unusedVariables false
set_option linter.unusedSimpArgs false
open Go.RowKit Go.Sort
end Go.Proofs.YtidnfdobljihoaaGreat
namespace Go.Proofs.YtidnfdobljihoaaGreat
set_option linter.unusedVariables false
set_option linter.unusedSimpArgs false
open Go.RowKit Go.Sort
theorem vv_cells {w : World} {a : Option Addr} {n c : Nat} {H : List (List Int)} (h : VV w a n c H) (hn : 0 < n) : ∃ b off,a = some ⟨b,off,none⟩ ∧ ∀ i,i < n → ∃ x cx,w.cell? ⟨b,off + i,none⟩ = some (.slice x (row H i).length cx) ∧ Vec w x (row H i).length (row H i) ∧ (row H i).length ≤ cx ∧ cx ≤ maxLen := by
 obtain ⟨b,off,_,_,ha,_⟩ := h.row 0 hn
 refine ⟨b,off,ha,fun i hi => ?_⟩
 obtain ⟨b',off',x,cx,ha',h1,h2,h3,h4⟩ := h.row i hi
 rw [ha] at ha'
 cases ha'
 exact ⟨x,cx,h1,h2,h3,h4⟩
end Go.Proofs.YtidnfdobljihoaaGreat
namespace Go.Proofs.YtidnfdobljihoaaGreat
set_option linter.unusedVariables false
set_option linter.unusedSimpArgs false
open Go.RowKit Go.Sort
end Go.Proofs.YtidnfdobljihoaaGreat
namespace Go.Proofs.YtidnfdobljihoaaGreat
set_option linter.unusedVariables false
set_option linter.unusedSimpArgs false
open Go.RowKit Go.Sort
end Go.Proofs.YtidnfdobljihoaaGreat
namespace Go.Proofs.YtidnfdobljihoaaGreat
set_option linter.unusedVariables false
set_option linter.unusedSimpArgs false
open Go.RowKit Go.Sort
end Go.Proofs.YtidnfdobljihoaaGreat
namespace Go.Proofs.YtidnfdobljihoaaGreat
set_option linter.unusedVariables false
set_option linter.unusedSimpArgs false
open Go.RowKit Go.Sort
end Go.Proofs.YtidnfdobljihoaaGreat
namespace Go.Proofs.YtidnfdobljihoaaGreat
set_option linter.unusedVariables false
set_option linter.unusedSimpArgs false
open Go.RowKit Go.Sort
end Go.Proofs.YtidnfdobljihoaaGreat
namespace Go.Proofs.YtidnfdobljihoaaGreat
set_option linter.unusedVariables false
set_option linter.unusedSimpArgs false
open Go.RowKit Go.Sort
end Go.Proofs.YtidnfdobljihoaaGreat
namespace Go.Proofs.YtidnfdobljihoaaGreat
set_option linter.unusedVariables false
set_option linter.unusedSimpArgs false
open Go.RowKit Go.Sort
end Go.Proofs.YtidnfdobljihoaaGreat
namespace Go.Proofs.YtidnfdobljihoaaGreat
set_option linter.unusedVariables false
set_option linter.unusedSimpArgs false
open Go.RowKit Go.Sort
end Go.Proofs.YtidnfdobljihoaaGreat
namespace Go.Proofs.YtidnfdobljihoaaGreat
set_option linter.unusedVariables false
set_option linter.unusedSimpArgs false
open Go.RowKit Go.Sort
set_option maxRecDepth 100000 in
set_option maxHeartbeats 800000 in
theorem overI_any (F : Nat) (C : Array Value) (a : Option Addr) (n cap : Nat) (H : List (List Int)) (I : Nat → Option Addr → Nat → Nat → World → Prop) (a0 : Option Addr) (m0 c0 : Nat) (w : World) (hn : n ≤ 8)
  (hE : ∀ (args : Array Value) (w : World),(callFunc F args).run Tryz.prog w = .ok (.enter F args) w) (hV : ∀ k x m c X,I k x m c X → VV X a n cap H)
  (hF : ∀ k x m c X y cy,k < n → I k x m c X → Vec X y (row H k).length (row H k) → (row H k).length ≤ cy → cy ≤ maxLen → Calls Tryz.prog F (#[.slice x m c,.slice y (row H k).length cy] ++ C) X fun e w' => ∃ x' m' c',e = .returned (.slice x' m' c') ∧ I (k + 1) x' m' c' w')
  (h0 : I 0 a0 m0 c0 w) : Calls Tryz.prog 205 #[.func (.func F) #[] C,.slice a n cap,.slice a0 m0 c0] w fun e w' => ∃ x m c,e = .returned (.slice x m c) ∧ I n x m c w' := by
 have HV : Hid (∀ k x m c X,I k x m c X → VV X a n cap H) := hV
 clear hV
 go_enter Tryz.func205,Tryz.ntmps205
 go_wp2
 go_loopw [7,9,13] (fun v _ i wr => ∃ (k : Nat) (x : Option Addr) (m c : Nat),k ≤ n ∧ i = .int .i64 (k : Int) ∧ v = .slice x m c ∧ I k x m c wr) (fun _ _ i _ => n - (intOf i).toNat)
 case atStart => exact ⟨0,a0,m0,c0,Nat.zero_le _,rfl,rfl,h0⟩
 case round =>
  obtain ⟨k,x,m,c,hk,rfl,rfl,hI⟩ := hrel
  have HI : Hid (I k x m c wr) := hI
  clear hI h0
  by_cases hlt : k < n
  ·have k1 : (k : Int) < (n : Int) := by omega
   have k0 : (0 : Int) ≤ (k : Int) := by omega
   obtain ⟨b,off,rfl,hc⟩ := vv_cells (HV.out _ _ _ _ _ HI.out) (by omega)
   obtain ⟨y,cy,hcy,hvy,hl,hm⟩ := hc k hlt
   have hC := hF k x m c wr y cy hlt HI.out hvy hl hm
   clear hc hvy hF
   generalize (row H k).length = L at *
   go_wp2_with fail
   refine hC.mono ?_
   rintro e w1 ⟨x1,m1,c1,rfl,hI1⟩
   have HI1 : Hid (I (k + 1) x1 m1 c1 w1) := hI1
   clear hI1 hC hcy
   go_wp2
   go_roundw
   case rel => exact ⟨k + 1,x1,m1,c1,by omega,by go_num,rfl,HI1.out⟩
   case measure => simp [intOf];omega
  ·have k1 : ¬ ((k : Int) < (n : Int)) := by omega
   obtain rfl : k = n := by omega
   go_wp2
   go_ret
   exact ⟨x,m,c,rfl,HI.out⟩
end Go.Proofs.YtidnfdobljihoaaGreat
namespace Go.Proofs.YtidnfdobljihoaaGreat
set_option linter.unusedVariables false
set_option linter.unusedSimpArgs false
open Go.RowKit Go.Sort
def foF (f : Int → Int → Int) (L : List (List Int)) : Nat → List Int
 | 0 => row L 0
 | k + 1 => pairB f (foF f L k) (row L k)
def EvR (L : List (List Int)) : Prop := ∀ k,k < L.length → okB (row L k) = true ∧ (row L k).length = (row L 0).length
theorem pair_self {f : Int → Int → Int} (hf : ∀ x,f x x = x) {r : List Int} (h : okB r = true) : pairB f r r = r := by
 have ht : twoB r r = true := by simp [twoB,h]
 rw [pairB,if_pos ht]
 refine List.ext_getElem (by rw [jn_length]) (fun i h1 h2 => ?_)
 simp [jn,hf,el,h2]
theorem foF_ok {f : Int → Int → Int} (hf : ∀ x y,(0 ≤ x ∧ x ≤ 1000000) → (0 ≤ y ∧ y ≤ 1000000) → 0 ≤ f x y ∧ f x y ≤ 1000000) {L : List (List Int)} (h : EvR L) (h1 : 1 ≤ L.length) : ∀ k,k ≤ L.length → okB (foF f L k) = true ∧ (foF f L k).length = (row L 0).length
 | 0,_ => h 0 (by omega)
 | k + 1,hk => by
  obtain ⟨i1,i2⟩ := foF_ok hf h h1 k (by omega)
  obtain ⟨a1,a2⟩ := h k (by omega)
  obtain ⟨e1,e2,e3⟩ := pair_ok hf i1 a1 (by rw [i2,a2])
  exact ⟨e3,by rw [foF,e2,i2]⟩
theorem row_app {L : List (List Int)} {x : List Int} {k : Nat} (hk : k < L.length) : row (L ++ [x]) k = row L k := by
 simp [row,List.getD_eq_getElem?_getD,List.getElem?_append_left hk]
theorem row_last {L : List (List Int)} {x : List Int} : row (L ++ [x]) L.length = x := by simp [row]
theorem ok_fits {Z : List Int} (h : okB Z = true) : Fits Z := fun y hy => by
 obtain ⟨j,hj,rfl⟩ := List.mem_iff_getElem.1 hy
 have := okB_el h hj
 simp [el,hj] at this
 omega
set_option maxRecDepth 100000 in
set_option maxHeartbeats 800000 in
theorem folded_any (F : Nat) (f : Int → Int → Int) (hf : ∀ x y,(0 ≤ x ∧ x ≤ 1000000) → (0 ≤ y ∧ y ≤ 1000000) → 0 ≤ f x y ∧ f x y ≤ 1000000)
  (hE : ∀ (args : Array Value) (w : World),(callFunc F args).run Tryz.prog w = .ok (.enter F args) w)
  (hP : ∀ (a a' : Option Addr) (len cap len' cap' : Nat) (xs ys : List Int) (w : World),Vec w a len xs → Vec w a' len' ys → len ≤ cap → len' ≤ cap' → cap ≤ maxLen → cap' ≤ maxLen → Calls Tryz.prog F #[.slice a len cap,.slice a' len' cap'] w fun e w' => ∃ g c,e = .returned (.slice (some ⟨g,0,none⟩) (pairB f xs ys).length c) ∧ w.heap.size ≤ g ∧ OwnAt w' g c (pairB f xs ys) ∧ Below w.heap.size w w')
  (a : Option Addr) (n cap : Nat) (L : List (List Int)) (w : World) (hv : VV w a n cap L) (hn : n ≤ 8) (hL : EvR L) :
  Calls Tryz.prog 199 #[.slice a n cap,.func (.func F) #[] #[]] w fun e w' => AnsN w w' e (if n = 0 then [] else foF f L n) := by
 have HN : Hid (L.length = n) := hv.n
 by_cases h0 : n = 0
 ·subst h0
  have HA : Hid (OI (w.alloc (.cells #[] 2)) w.heap.size 0 0 0 [] ∧ Below w.heap.size w (w.alloc (.cells #[] 2))) := ⟨num_empty w 2,(Below.refl _ _).alloc (Nat.le_refl _) _⟩
  clear hv hP hE
  go_enter Tryz.func199,Tryz.ntmps199
  go_wp2
  go_ret
  exact ⟨_,0,0,rfl,Nat.le_refl _,HA.out.1,HA.out.2⟩
 ·rw [if_neg h0]
  have hF := foF_ok hf hL (by rw [HN.out];omega)
  rw [HN.out] at hF
  obtain ⟨b,off,rfl,hc⟩ := vv_cells hv (by omega)
  obtain ⟨x0,c0,hc0,hv0,hl0,hm0⟩ := hc 0 (by omega)
  rw [Nat.add_zero] at hc0
  have hO := overI_any F #[] (some ⟨b,off,none⟩) n cap L (fun k x m c X => m = (foF f L k).length ∧ Below w.heap.size w X ∧ Vec X x m (foF f L k) ∧ m ≤ c ∧ c ≤ maxLen ∧ (0 < k → ∃ g o,x = some ⟨g,o,none⟩ ∧ w.heap.size ≤ g ∧ OI X g o m c (foF f L k))) x0 (row L 0).length c0 w hn hE
   (fun k x m c X h => hv.below h.2.1)
   (fun k x m c X y cy hk h hy hl hm => by
    obtain ⟨h1,h2,h3,h4,h5,_⟩ := h
    refine (hP x y m c (row L k).length cy (foF f L k) (row L k) X h3 hy h4 hl h5 hm).mono ?_
    rintro e w' ⟨g,c',rfl,hg,hown,hb⟩
    have hoi := OI.own hown
    have hfit := ok_fits (hF (k + 1) (by omega)).1
    refine ⟨_,_,_,rfl,rfl,h2.trans (hb.mono h2.size),hoi.vec hfit,hoi.le,hoi.max,fun _ => ⟨g,0,rfl,Nat.le_trans h2.size hg,hoi⟩⟩)
   ⟨rfl,Below.refl _ _,hv0,hl0,hm0,fun h => absurd h (by omega)⟩
  have n0 : (0 : Int) < (n : Int) := by omega
  have n1 : ((n : Int) == 0) = false := by simp;omega
  have HS : Hid (0 < n) := by rw [Hid];omega
  clear hv hc hv0 hP hE hF
  generalize (row L 0).length = L0 at *
  go_enter Tryz.func199,Tryz.ntmps199
  go_wp2_with fail
  refine hO.mono ?_
  rintro e w1 ⟨x,m,c,rfl,hm,hb,_,_,_,hg⟩
  obtain ⟨g,o,hx,hgs,hoi⟩ := hg HS.out
  have HH : Hid (m = (foF f L n).length ∧ Below w.heap.size w w1 ∧ x = some ⟨g,o,none⟩ ∧ w.heap.size ≤ g ∧ OI w1 g o m c (foF f L n)) := ⟨hm,hb,hx,hgs,hoi⟩
  clear hm hb hx hgs hoi hg hO hc0
  go_wp2
  go_ret
  obtain ⟨q1,q2,q3,q4,q5⟩ := HH.out
  subst q1
  subst q3
  exact ⟨g,o,c,rfl,q4,q5,q2⟩
def SvR (w : World) (L : List (List Int)) (vs : List Value) : Prop := vs.length = L.length ∧ ∀ i,i < L.length → ∃ x c,vs[i]? = some (.slice x (row L i).length c) ∧ Vec w x (row L i).length (row L i) ∧ (row L i).length ≤ c ∧ c ≤ maxLen
theorem SvR.snoc {w : World} {L : List (List Int)} {vs : List Value} (h : SvR w L vs) {r : List Int} {x : Option Addr} {c : Nat} (hv : Vec w x r.length r) (h1 : r.length ≤ c) (h2 : c ≤ maxLen) : SvR w (L ++ [r]) (vs ++ [.slice x r.length c]) := by
 refine ⟨by simp [h.1],fun i hi => ?_⟩
 by_cases e : i = L.length
 ·rw [e,row_last]
  exact ⟨x,c,by rw [← h.1];simp,hv,h1,h2⟩
 ·have hi' : i < L.length := by simp at hi;omega
  obtain ⟨y,d,a1,a2,a3,a4⟩ := h.2 i hi'
  rw [row_app hi']
  exact ⟨y,d,by rw [List.getElem?_append_left (by rw [h.1];exact hi')];exact a1,a2,a3,a4⟩
theorem SvR.vv {w w' : World} {L : List (List Int)} {vs : List Value} {g o c : Nat} (h : SvR w L vs) (hb : Below w.heap.size w w') (ho : OSl w' 1 g o L.length c vs) : VV w' (some ⟨g,o,none⟩) L.length c L := by
 refine ⟨rfl,ho.le,ho.max,fun i hi => ?_⟩
 obtain ⟨x,d,a1,a2,a3,a4⟩ := h.2 i hi
 exact ⟨g,o,x,d,rfl,by rw [ho.cell i (by omega),a1],a2.below hb (Nat.le_refl _),a3,a4⟩
end Go.Proofs.YtidnfdobljihoaaGreat
namespace Go.Proofs.YtidnfdobljihoaaGreat
set_option linter.unusedVariables false
set_option linter.unusedSimpArgs false
open Go.RowKit Go.Sort
end Go.Proofs.YtidnfdobljihoaaGreat