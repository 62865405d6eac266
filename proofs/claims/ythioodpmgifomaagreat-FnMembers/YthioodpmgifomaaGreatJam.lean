/-
  Texts in one: Mde Hrs Mdf LawSd LawMb Bvd.
-/
import Derived.Test.YthioodpmgifomaaGreatJak
import Derived.Test.YthioodpmgifomaaGreatJal
import Derived.Test.YthioodpmgifomaaGreatJaa
import Derived.Test.YthioodpmgifomaaGreatJad
namespace Go.Proofs.YthioodpmgifomaaGreat
set_option linter.unusedVariables false
set_option linter.unusedSimpArgs false
open Go.RowKit Go.Sort
set_option maxRecDepth 100000 in
set_option maxHeartbeats 3200000 in
theorem likeMb_any (A D : Ma) (m : Mb) (w : World) (hv : MbS w A m) (hu : MbS w D m) :
  Calls Tryz.prog 19 #[mbV A m,mbV D m] w fun e w' => e = .returned (.bool true) ∧ Below w.heap.size w w' := by
 have hmix := mixed17
 have hB0 : Below w.heap.size w ((w.alloc (.cells #[.int .i64 m.id,.int .i64 m.n,.slice A.ra m.rows.length A.rc,.slice A.sa m.sung.length A.sc,.bool m.done] 27)).alloc (.cells #[.int .i64 m.id,.int .i64 m.n,.slice D.ra m.rows.length D.rc,.slice D.sa m.sung.length D.sc,.bool m.done] 27)) := (oneA16 w _).trans ((oneA16 _ _).mono (oneA16 w _).size)
 have hx : Bx ((w.alloc (.cells #[.int .i64 m.id,.int .i64 m.n,.slice A.ra m.rows.length A.rc,.slice A.sa m.sung.length A.sc,.bool m.done] 27)).alloc (.cells #[.int .i64 m.id,.int .i64 m.n,.slice D.ra m.rows.length D.rc,.slice D.sa m.sung.length D.sc,.bool m.done] 27)) w.heap.size 27 #[.int .i64 m.id,.int .i64 m.n,.slice A.ra m.rows.length A.rc,.slice A.sa m.sung.length A.sc,.bool m.done] := (Bx.new w _ _).alloc _
 have hy : Bx ((w.alloc (.cells #[.int .i64 m.id,.int .i64 m.n,.slice A.ra m.rows.length A.rc,.slice A.sa m.sung.length A.sc,.bool m.done] 27)).alloc (.cells #[.int .i64 m.id,.int .i64 m.n,.slice D.ra m.rows.length D.rc,.slice D.sa m.sung.length D.sc,.bool m.done] 27)) (w.heap.size + 1) 27 #[.int .i64 m.id,.int .i64 m.n,.slice D.ra m.rows.length D.rc,.slice D.sa m.sung.length D.sc,.bool m.done] := by
  have := Bx.new (w.alloc (.cells #[.int .i64 m.id,.int .i64 m.n,.slice A.ra m.rows.length A.rc,.slice A.sa m.sung.length A.sc,.bool m.done] 27)) 27 #[.int .i64 m.id,.int .i64 m.n,.slice D.ra m.rows.length D.rc,.slice D.sa m.sung.length D.sc,.bool m.done]
  simpa using this
 have hm := hv.mr
 unfold maxLen at hm
 have hE : ∀ X,Below w.heap.size w X → Calls Tryz.prog 36 #[.slice A.sa m.sung.length A.sc,.slice D.sa m.sung.length D.sc] X fun e w' => e = .returned (.bool true) ∧ Below X.heap.size X w' := fun X h => (like_any A.sa D.sa m.sung.length A.sc m.sung.length D.sc m.sung m.sung X (hv.sung.below h (Nat.le_refl _)) (hu.sung.below h (Nat.le_refl _)) hv.ms).mono (fun e w' ⟨h1,q,h2⟩ => ⟨by rw [h1];simp [sameB],by rw [h2];exact belowN (Below.refl _ _)⟩)
 have HV : Hid (∀ X,Below w.heap.size w X → MbS X A m) := fun X h => hv.below h
 have HU : Hid (∀ X,Below w.heap.size w X → MbS X D m) := fun X h => hu.below h
 unfold mbV mbC
 generalize hWW : (w.alloc (.cells #[.int .i64 m.id,.int .i64 m.n,.slice A.ra m.rows.length A.rc,.slice A.sa m.sung.length A.sc,.bool m.done] 27)).alloc (.cells #[.int .i64 m.id,.int .i64 m.n,.slice D.ra m.rows.length D.rc,.slice D.sa m.sung.length D.sc,.bool m.done] 27) = W at *
 have n1 : (m.id != m.id) = false := by simp
 have n2 : (m.n != m.n) = false := by simp
 have n3 : (m.done != m.done) = false := by simp
 have n4 : ((m.rows.length : Int) != (m.rows.length : Int)) = false := by simp
 have HX : Hid (Bx W w.heap.size 27 #[.int .i64 m.id,.int .i64 m.n,.slice A.ra m.rows.length A.rc,.slice A.sa m.sung.length A.sc,.bool m.done]) := hx
 have HY : Hid (Bx W (w.heap.size + 1) 27 #[.int .i64 m.id,.int .i64 m.n,.slice D.ra m.rows.length D.rc,.slice D.sa m.sung.length D.sc,.bool m.done]) := hy
 have HB : Hid (Below w.heap.size w W) := hB0
 obtain ⟨c0,c1,c2,c3,c4⟩ := Bx.r5 hx
 obtain ⟨d0,d1,d2,d3,d4⟩ := Bx.r5 hy
 clear hv hu hB0 hx hy
 go_enter Tryz.func19,Tryz.ntmps19
 go_wp2_with fail
 refine (hE _ HB.out).mono ?_
 rintro e w1 ⟨rfl,hb1⟩
 have HB1 : Hid (Below w.heap.size w w1) := HB.out.trans (hb1.mono HB.out.size)
 have HX1 : Hid (Bx w1 w.heap.size 27 #[.int .i64 m.id,.int .i64 m.n,.slice A.ra m.rows.length A.rc,.slice A.sa m.sung.length A.sc,.bool m.done]) := HX.out.below hb1
 have HY1 : Hid (Bx w1 (w.heap.size + 1) 27 #[.int .i64 m.id,.int .i64 m.n,.slice D.ra m.rows.length D.rc,.slice D.sa m.sung.length D.sc,.bool m.done]) := HY.out.below hb1
 clear c0 c1 c2 c3 c4 d0 d1 d2 d3 d4 hE hb1 HX HY
 obtain ⟨c0,c1,c2,c3,c4⟩ := Bx.r5 HX1.out
 obtain ⟨d0,d1,d2,d3,d4⟩ := Bx.r5 HY1.out
 go_wp2_with fail
 clear c0 c1 c2 c3 c4 d0 d1 d2 d3 d4 n1 n2 n3 n4
 go_loopw [5] (fun v wr => ∃ k : Nat,k ≤ m.rows.length ∧ v = .int .i64 (k : Int) ∧ Below w1.heap.size w1 wr) (fun v _ => m.rows.length - (intOf v).toNat)
 case atStart => exact ⟨0,Nat.zero_le _,rfl,Below.refl _ _⟩
 case round =>
  obtain ⟨k,hk,rfl,hb⟩ := hrel
  have HBr : Hid (Below w1.heap.size w1 wr) := hb
  have HBw : Hid (Below w.heap.size w wr) := HB1.out.trans (hb.mono HB1.out.size)
  obtain ⟨c0,c1,c2,c3,c4⟩ := Bx.r5 (HX1.out.below hb)
  obtain ⟨d0,d1,d2,d3,d4⟩ := Bx.r5 (HY1.out.below hb)
  by_cases hlt : k < m.rows.length
  ·have k1 : (k : Int) < (m.rows.length : Int) := by omega
   have k0 : (0 : Int) ≤ (k : Int) := by omega
   have hva := HV.out wr HBw.out
   have hvd := HU.out wr HBw.out
   obtain ⟨g,off,Ak,ea,⟨⟨x0,x1,x2,x3⟩,x4,x5,x6,x7⟩,hr1⟩ := hva.row hlt
   obtain ⟨g',off',Dk,ed,⟨⟨y0,y1,y2,y3⟩,y4,y5,y6,y7⟩,hr2⟩ := hvd.row hlt
   rw [ea] at c2
   rw [ed] at d2
   have CL : ∀ q : Bk wr,Calls Tryz.prog 26 #[rwV Ak (rowN m.rows k),rwV Dk (rowN m.rows k)] q.w fun e w' => e = .returned (.bool true) ∧ Below q.w.heap.size q.w w' := fun q => (likeRw_any Ak Dk (rowN m.rows k) q.w (hr1.below q.h) (hr2.below q.h)).mono (fun e w' h => ⟨h.1,h.2.1⟩)
   unfold rwV rwC at CL
   have T : ∀ {x v},wr.cell? x = some v → ∀ q : Bk wr,q.w.cell? x = some v := fun h q => (q.h.cell (World.block_lt_of_cell? _ _ h)).trans h
   have pc2 := T c2
   have pd2 := T d2
   have px0 := T x0
   have px1 := T x1
   have px2 := T x2
   have px3 := T x3
   have px4 := T x4
   have px5 := T x5
   have px6 := T x6
   have px7 := T x7
   have py0 := T y0
   have py1 := T y1
   have py2 := T y2
   have py3 := T y3
   have py4 := T y4
   have py5 := T y5
   have py6 := T y6
   have py7 := T y7
   have wk : wrap64 ((k : Int) + 1) = (k : Int) + 1 := by unfold wrap64;omega
   generalize rowN m.rows k = r at *
   clear hva hvd hr1 hr2 T x0 x1 x2 x3 x4 x5 x6 x7 y0 y1 y2 y3 y4 y5 y6 y7 d2 c0 c1 c3 c4 d0 d1 d3 d4 hb
   go_wp2_with fail
   refine wp_region_bk (by kernel_rfl) (by kernel_rfl) ?_
   repeat (go_big_quiet_step ((first | (go_at_call 26;exact bk_call _ (CL _)) | rfl)))
   refine wpQuiet_nil ?_
   intro wE hw'
   obtain ⟨⟨w11,hb11⟩,hw''⟩ := hw'
   have hwe : wE = w11 := hw''
   clear hw''
   subst hwe
   have HB2 : Hid (Below w1.heap.size w1 wE) := HBr.out.trans (hb11.mono HBr.out.size)
   clear CL pc2 pd2 px0 px1 px2 px3 px4 px5 px6 px7 py0 py1 py2 py3 py4 py5 py6 py7 c2 hb11
   go_wp2
   go_roundw
   case rel => exact ⟨k + 1,by omega,by go_num,HB2.out⟩
   case measure => simp [intOf];omega
  ·have k1 : ¬ ((k : Int) < (m.rows.length : Int)) := by omega
   clear hb
   go_wp2
   go_ret
   exact ⟨rfl,HBw.out⟩
end Go.Proofs.YthioodpmgifomaaGreat
namespace Go.Proofs.YthioodpmgifomaaGreat
set_option linter.unusedSimpArgs false
set_option linter.unusedVariables false
open Go.RowKit Go.Sort
theorem el_mem9 {xs : List Int} {x : Int} : x ∈ xs ↔ ∃ j,j < xs.length ∧ el xs j = x := by
 constructor
 ·intro h
  obtain ⟨j,hj,rfl⟩ := List.getElem_of_mem h
  exact ⟨j,hj,el_eq hj⟩
 ·rintro ⟨j,hj,rfl⟩
  exact el_mem hj
set_option maxHeartbeats 400000 in
theorem has9_any (b off len cap : Nat) (x : Int) (xs : List Int) (w : World) (hlen : xs.length = len) (hc : ∀ i,i < len → w.cell? ⟨b,off + i,none⟩ = some (.int .i64 (el xs i))) (hm : len ≤ maxLen) :
  Calls Tryz.prog 25 #[.slice (some ⟨b,off,none⟩) len cap,.int .i64 x] w fun e w' => e = .returned (.bool (decide (x ∈ xs))) ∧ w' = w := by
 unfold maxLen at hm
 have HL : Hid (xs.length = len) := hlen
 clear hlen
 go_enter Tryz.func25,Tryz.ntmps25
 go_wp2
 go_loop [5] (fun i => ∃ k : Nat,k ≤ len ∧ i = .int .i64 k ∧ ∀ j,j < k → el xs j ≠ x) (fun i => len - (intOf i).toNat)
 case atStart => exact ⟨0,Nat.zero_le _,rfl,fun j hj => by omega⟩
 case round =>
  obtain ⟨k,hk,rfl,hno⟩ := hrel
  have HN : Hid (∀ j,j < k → el xs j ≠ x) := hno
  clear hno
  by_cases hlt : k < len
  ·have hck := hc k hlt
   by_cases he : el xs k = x
   ·have hb : (el xs k == x) = true := by simpa using he
    have HF : Hid (decide (x ∈ xs) = true) := by rw [Hid,decide_eq_true_eq];exact el_mem9.2 ⟨k,by rw [HL.out];exact hlt,he⟩
    clear he
    go_wp2
    go_ret
    exact ⟨ret_bool (by rw [HF.out]),rfl⟩
   ·have hb : (el xs k == x) = false := by simpa using he
    have HE : Hid (el xs k ≠ x) := he
    clear he
    go_wp2
    go_round
    case rel => exact ⟨k + 1,by omega,by go_num,fun j hj => by
     rcases Nat.lt_succ_iff_lt_or_eq.1 hj with h | h
     ·exact HN.out j h
     ·rw [h];exact HE.out⟩
    case measure => simp [intOf];omega
  ·have HF : Hid (decide (x ∈ xs) = false) := by
    rw [Hid,decide_eq_false_iff_not,el_mem9]
    rintro ⟨j,hj,e⟩
    exact HN.out j (by rw [HL.out] at hj;omega) e
   go_wp2
   go_ret
   exact ⟨ret_bool (by rw [HF.out]),rfl⟩
end Go.Proofs.YthioodpmgifomaaGreat
namespace Go.Proofs.YthioodpmgifomaaGreat
set_option linter.unusedVariables false
set_option linter.unusedSimpArgs false
open Go.RowKit Go.Sort
set_option maxHeartbeats 400000 in
theorem has17_any (a : Option Addr) (cap : Nat) (x : Int) (xs : List Int) (w : World) (hv : Vec w a xs.length xs) (hm : xs.length ≤ maxLen) :
  Calls Tryz.prog 25 #[.slice a xs.length cap,.int .i64 x] w fun e w' => e = .returned (.bool (decide (x ∈ xs))) ∧ Below w.heap.size w w' := by
 rcases hv.2.2 with h | ⟨b,off,rfl,hc⟩
 ·obtain rfl : xs = [] := List.eq_nil_of_length_eq_zero h
  have hd : decide (x ∈ ([] : List Int)) = false := by simp
  rw [hd]
  clear hv h hm hd
  go_enter Tryz.func25,Tryz.ntmps25
  go_wp2
  go_loop [5] (fun i => i = .int .i64 0) (fun i => 0)
  case atStart => rfl
  case round =>
   obtain rfl := hrel
   go_wp2
   go_ret
   exact ⟨rfl,Below.refl _ _⟩
 ·exact (has9_any b off xs.length cap x xs w rfl hc hm).mono (fun e w' h => ⟨h.1,by rw [h.2];exact Below.refl _ _⟩)
structure Mx (w : World) (o : Nat) (A : Ma) (m : Mb) : Prop where
 box : Bx w o 27 #[.int .i64 m.id,.int .i64 m.n,.slice A.ra m.rows.length A.rc,.slice A.sa m.sung.length A.sc,.bool m.done]
 own : ∃ f,owL w (mbCels m) (mbVals A m) f
 fit : FitM m
section
variable {w w' : World} {o : Nat} {A : Ma} {m : Mb}
theorem Mx.below (h : Mx w o A m) (hb : Below w.heap.size w w') : Mx w' o A m := ⟨h.box.below hb,h.own.imp (fun f h => owL_below h hb),h.fit⟩
theorem Mx.mbs (h : Mx w o A m) : MbS w A m := by
 obtain ⟨f,hf⟩ := h.own
 exact mbs_of (owL_vw hf) h.fit
theorem Mx.mbp (h : Mx w o A m) (h6 : Mb64 m) (hs : szMb m ≤ 1048576) : MbP w A m := ⟨h.own,h.fit,h6,hs⟩
theorem Mx.new {lo hi : Nat} (h : It w (mbCels m) (mbVals A m) lo hi) (hf : FitM m) : Mx (w.alloc (.cells #[.int .i64 m.id,.int .i64 m.n,.slice A.ra m.rows.length A.rc,.slice A.sa m.sung.length A.sc,.bool m.done] 27)) w.heap.size A m := ⟨Bx.new _ _ _,by obtain ⟨f,hf,_⟩ := h.below (oneA16 w _);exact ⟨f,hf⟩,hf⟩
end
theorem OkM.p64 {m : Mb} {i n : Nat} (h : OkM m i n) : Mb64 m ∧ szMb m ≤ 1048576 := by
 have h5 := h.n5
 have hl := h.lt
 refine ⟨⟨⟨by rw [h.hid];omega,by rw [h.hid];omega⟩,⟨by rw [h.hn];omega,by rw [h.hn];omega⟩,fun r hr => ?_⟩,by have := h.small.2.2.2;omega⟩
 have hr := h.rowOk r hr
 have hv := hr.ver
 cases e : r.rdy with
 | true => have := (hr.rdy e).2.1;exact ⟨⟨by omega,by omega⟩,by omega,by omega⟩
 | false => rw [Rw64,(hr.not e).1];exact ⟨⟨by omega,by omega⟩,by omega,by omega⟩
end Go.Proofs.YthioodpmgifomaaGreat
namespace Go.Proofs.YthioodpmgifomaaGreat
set_option linter.unusedVariables false
set_option linter.unusedSimpArgs false
open Go.RowKit Go.Sort
theorem Mx.rwp {w : World} {o : Nat} {A : Ma} {m : Mb} (h : Mx w o A m) {k : Nat} (hk : k < m.rows.length) (h6 : Rw64 (rowN m.rows k)) (hs : szRw (rowN m.rows k) ≤ 1048576) : ∃ g off Ak,A.ra = some ⟨g,off,none⟩ ∧ C8 w g (off + k * 8) (.int .i64 (rowN m.rows k).ver) (.slice Ak.ta (rowN m.rows k).txt.length Ak.tc) (.slice Ak.ga (rowN m.rows k).got.length Ak.gc) (.slice Ak.sa (rowN m.rows k).sus.length Ak.sc) (.bool (rowN m.rows k).wed) (.bool (rowN m.rows k).rdy) (.int .i64 (rowN m.rows k).by_) (.slice Ak.ma (rowN m.rows k).trm.length Ak.mc) ∧ RwP w Ak (rowN m.rows k) := by
 obtain ⟨f,hf⟩ := h.own
 obtain ⟨f1,f2,o1,o2,_,_⟩ := owL_two hf
 obtain ⟨g,off,f3,hra,_,_,⟨vs,hpc,hov,_⟩,_⟩ := ow_elF rw8_len (by omega) o1 (rowN_at hk)
 obtain ⟨Ak,rfl,hl⟩ := rw8_ow hov
 have hl8 : (rwC Ak (rowN m.rows k)).toList.length = 8 := rfl
 have c := hpc.cell
 have hfit : FitR (rowN m.rows k) := h.fit.1 _ (rowN_mem hk)
 exact ⟨g,off,Ak,hra,⟨⟨c 0 (by rw [hl8];omega),c 1 (by rw [hl8];omega),c 2 (by rw [hl8];omega),c 3 (by rw [hl8];omega)⟩,c 4 (by rw [hl8];omega),c 5 (by rw [hl8];omega),c 6 (by rw [hl8];omega),c 7 (by rw [hl8];omega)⟩,it_rwp (owL_it hl (lo := 0) (fun b _ => Nat.zero_le b)) hfit h6 hs⟩
theorem OkM.rw64 {m : Mb} {i n : Nat} (h : OkM m i n) {k : Nat} (hk : k < m.rows.length) : Rw64 (rowN m.rows k) ∧ szRw (rowN m.rows k) ≤ 1048576 := ⟨h.p64.1.2.2 _ (rowN_mem hk),by have := (h.rowOk _ (rowN_mem hk)).c8.2;omega⟩
attribute [local irreducible] sv
end Go.Proofs.YthioodpmgifomaaGreat
namespace Go.Proofs.YthioodpmgifomaaGreat
set_option linter.unusedVariables false
set_option linter.unusedSimpArgs false
open Go.RowKit Go.Sort
structure Rx (w : World) (o : Nat) (A : Ra) (r : Rw) : Prop where
 box : Bx w o 37 #[.int .i64 r.ver,.slice A.ta r.txt.length A.tc,.slice A.ga r.got.length A.gc,.slice A.sa r.sus.length A.sc,.bool r.wed,.bool r.rdy,.int .i64 r.by_,.slice A.ma r.trm.length A.mc]
 rwp : RwP w A r
theorem Rx.below {w w' : World} {o : Nat} {A : Ra} {r : Rw} (h : Rx w o A r) (hb : Below w.heap.size w w') : Rx w' o A r := ⟨h.box.below hb,h.rwp.below hb⟩
theorem wk_ab {L P : Nat} (h : P = L + 1) (hL : L ≤ 12) : wrap64 ((L : Int) + 1) = (P : Int) ∧ wrap64 ((P : Int) - 1) = (L : Int) ∧ (0 : Int) ≤ (L : Int) ∧ (L : Int) < (P : Int) := by
 have e1 : (P : Int) = (L : Int) + 1 := by omega
 have e2 : (P : Int) - 1 = (L : Int) := by omega
 rw [e2,e1]
 refine ⟨?_, ?_,by omega,by omega⟩
 ·unfold wrap64;omega
 ·unfold wrap64;omega
theorem okMb_p64 {m : Mb} (h : okMb m = true) : Mb64 m ∧ szMb m ≤ 1048576 := by
 obtain ⟨i,n,ok⟩ := okMb_iff.1 h
 exact ok.p64
theorem sayM_ok {m : Mb} {t : List UInt8} (h : okMb m = true) : okMb (sayM m t).1 = true ∧ ((sayM m t).2 = false → (sayM m t).1 = m) := by
 obtain ⟨i,n,ok⟩ := okMb_iff.1 h
 rw [sayM,if_pos h]
 exact ⟨okMb_iff.2 ⟨i,n,(say_loc ok t).1⟩,(say_loc ok t).2.1⟩
theorem dbtM_ok {m : Mb} {x : Int} (h : okMb m = true) : okMb (dbtM m x).1 = true ∧ ((dbtM m x).2 = false → (dbtM m x).1 = m) := by
 obtain ⟨i,n,ok⟩ := okMb_iff.1 h
 rw [dbtM,if_pos h]
 exact ⟨okMb_iff.2 ⟨i,n,(doubt_loc ok x).1⟩,(doubt_loc ok x).2.1⟩
theorem hrdM_ok {m : Mb} {x : Int} {r : Rw} (h : okMb m = true) : okMb (hrdM m x r).1 = true ∧ ((hrdM m x r).2 = false → (hrdM m x r).1 = m) := by
 obtain ⟨i,n,ok⟩ := okMb_iff.1 h
 rw [hrdM,if_pos h]
 exact ⟨okMb_iff.2 ⟨i,n,(heard_loc ok x r).1⟩,(heard_loc ok x r).2.1⟩
theorem sayM_true {m : Mb} {t : List UInt8} (h : (sayM m t).2 = true) : ∃ i n,OkM m i n ∧ OkM (sayM m t).1 i n ∧ (rowN (sayM m t).1.rows i).txt = (rowN m.rows i).txt ++ [t] := by
 unfold sayM at h ⊢
 split at h
 ·rename_i hk
  obtain ⟨i,n,ok⟩ := okMb_iff.1 hk
  rw [if_pos hk]
  exact ⟨i,n,ok,(say_loc ok t).1,(say_loc ok t).2.2.1 h⟩
 ·cases h
theorem dbtM_true {m : Mb} {x : Int} (h : (dbtM m x).2 = true) : ∃ i n,OkM (dbtM m x).1 i n ∧ x ∈ (rowN (dbtM m x).1.rows i).sus ∧ (rowN (dbtM m x).1.rows i).wed = true := by
 unfold dbtM at h ⊢
 split at h
 ·rename_i hk
  obtain ⟨i,n,ok⟩ := okMb_iff.1 hk
  rw [if_pos hk]
  exact ⟨i,n,(doubt_loc ok x).1,(doubt_loc ok x).2.2.1 h⟩
 ·cases h
theorem hrdM_true {m : Mb} {x : Int} {r : Rw} (h : (hrdM m x r).2 = true) : ∃ j i n : Nat,x = (j : Int) ∧ j < n ∧ OkM (hrdM m x r).1 i n ∧ rowN (hrdM m x r).1.rows j = r := by
 unfold hrdM at h ⊢
 split at h
 ·rename_i hk
  obtain ⟨i,n,ok⟩ := okMb_iff.1 hk
  rw [if_pos hk]
  have hl := heard_loc ok x r
  have hin : 0 ≤ x ∧ x ≤ m.n - 1 := by
   unfold heardMb at h
   split at h
   ·cases h
   ·rename_i hc
    have : inB x 0 (m.n - 1) = true := by
     cases hb : inB x 0 (m.n - 1) with
     | true => rfl
     | false => exact absurd (Or.inl hb) hc
    simpa [inB] using this
  have hn := ok.hn
  exact ⟨x.toNat,i,n,by omega,by omega,hl.1,hl.2.2.1 h⟩
 ·cases h
attribute [local irreducible] sv
set_option maxRecDepth 100000 in
set_option maxHeartbeats 12800000 in
theorem lawFnMembers (hMo : ImplMemberOk) (hNm : ImplNewMember) (hSy : ImplSay) (hDb : ImplDoubt) (hHe : ImplHeard) (a : Option Addr) (len cap : Nat) (bs : Nat → Int) (w : World) (hv : BVec w a len bs) :
  Calls Tryz.prog 3 #[.slice a len cap] w fun e w' => e = .returned (.bool true) ∧ Below w.heap.size w w' := by
 have hmix := mixed17
 by_cases hbig : (4096 : Int) < (len : Int)
 ·have hB := big_any a len cap w
  rw [decide_eq_true hbig] at hB
  go_enter Tryz.func3,Tryz.ntmps3
  go_wp2_with fail
  refine hB.mono ?_
  rintro e w1 ⟨rfl,hw1⟩
  have HW : Hid (w1 = w) := hw1
  clear hw1
  go_wp2
  go_ret
  exact ⟨rfl,by rw [HW.out];exact Below.refl _ _⟩
 have hB := big_any a len cap w
 rw [decide_eq_false hbig] at hB
 have hl : len ≤ 4096 := by omega
 have HW_0 : Hid (Below w.heap.size w w) := Below.refl _ _
 go_enter Tryz.func3,Tryz.ntmps3
 go_wp2_with fail
 refine hB.mono ?_
 rintro e w0 ⟨rfl,hw0⟩
 rw [hw0]
 clear hw0 hB hbig
 have hD := drawSy_any a len cap bs w (hv.below HW_0.out (Nat.le_refl _)) hl
 unfold mbV mbC at hD
 go_wp2_with fail
 refine hD.mono ?_
 rintro e w1 ⟨A,ma,na,t,rfl,ht,hI,hS,hb1⟩
 have HSa : Hid (DmS ma na) := hS
 have hbx := oneA16 w1 (.cells #[.int .i64 ma.id,.int .i64 ma.n,.slice A.ra ma.rows.length A.rc,.slice A.sa ma.sung.length A.sc,.bool ma.done] 27)
 have hbb := hb1.trans (hbx.mono hb1.size)
 have Ha_1 : Hid (Mx (w1.alloc (.cells #[.int .i64 ma.id,.int .i64 ma.n,.slice A.ra ma.rows.length A.rc,.slice A.sa ma.sung.length A.sc,.bool ma.done] 27)) w1.heap.size A ma) := Mx.new hI hS.fit
 have HW_1 : Hid (Below w.heap.size w (w1.alloc (.cells #[.int .i64 ma.id,.int .i64 ma.n,.slice A.ra ma.rows.length A.rc,.slice A.sa ma.sung.length A.sc,.bool ma.done] 27))) := HW_0.out.trans (hbb.mono HW_0.out.size)
 clear HW_0
 clear hbx hbb hD hI hS hb1
 go_upto_region 4 with fail
 generalize hWW : w1.alloc (.cells #[.int .i64 ma.id,.int .i64 ma.n,.slice A.ra ma.rows.length A.rc,.slice A.sa ma.sung.length A.sc,.bool ma.done] 27) = W1 at *
 generalize w1.heap.size = oa at *
 clear hWW
 have hI := hSy A ma t W1 (Ha_1.out.mbp HSa.out.i64 HSa.out.sz) (by omega)
 unfold mbV mbC at hI
 obtain ⟨mx,sd,hxe_x⟩ : ∃ x sd,Hid (x = (sayM ma t).1 ∧ sd = (sayM ma t).2) := ⟨_,_,rfl,rfl⟩
 rw [← hxe_x.out.1,← hxe_x.out.2] at hI
 have hxs_x : SmM mx := by rw [hxe_x.out.1];exact sayM_small ma t
 obtain ⟨c0,c1,c2,c3,c4⟩ := Bx.r5 Ha_1.out.box
 go_wp2_with fail
 refine hI.mono ?_
 rintro e w2 ⟨Ax,rfl,hN⟩
 have hI2 := It.of_new hN
 have hb2 : Below W1.heap.size W1 w2 := hN.choose_spec.2.2
 unfold mbV mbC
 have hbx := oneA16 w2 (.cells #[.int .i64 mx.id,.int .i64 mx.n,.slice Ax.ra mx.rows.length Ax.rc,.slice Ax.sa mx.sung.length Ax.sc,.bool mx.done] 27)
 have hbb := hb2.trans (hbx.mono hb2.size)
 have Hx_2 : Hid (Mx (w2.alloc (.cells #[.int .i64 mx.id,.int .i64 mx.n,.slice Ax.ra mx.rows.length Ax.rc,.slice Ax.sa mx.sung.length Ax.sc,.bool mx.done] 27)) w2.heap.size Ax mx) := Mx.new hI2 hxs_x.1
 have Ha_2 : Hid (Mx (w2.alloc (.cells #[.int .i64 mx.id,.int .i64 mx.n,.slice Ax.ra mx.rows.length Ax.rc,.slice Ax.sa mx.sung.length Ax.sc,.bool mx.done] 27)) oa A ma) := Ha_1.out.below hbb
 have HW_2 : Hid (Below w.heap.size w (w2.alloc (.cells #[.int .i64 mx.id,.int .i64 mx.n,.slice Ax.ra mx.rows.length Ax.rc,.slice Ax.sa mx.sung.length Ax.sc,.bool mx.done] 27))) := HW_1.out.trans (hbb.mono HW_1.out.size)
 clear Ha_1 HW_1
 clear hbx hbb hI hN hI2 hb2 c0 c1 c2 c3 c4
 go_upto_region 5 with fail
 generalize hWW : w2.alloc (.cells #[.int .i64 mx.id,.int .i64 mx.n,.slice Ax.ra mx.rows.length Ax.rc,.slice Ax.sa mx.sung.length Ax.sc,.bool mx.done] 27) = W2 at *
 generalize w2.heap.size = ox at *
 clear hWW
 have hD := drawDb_any a len cap bs W2 (hv.below HW_2.out (Nat.le_refl _)) hl
 unfold mbV mbC at hD
 go_wp2_with fail
 refine hD.mono ?_
 rintro e w3 ⟨B,mb,nb,who,rfl,hwho,hI,hS,hb1⟩
 have HSb : Hid (DmS mb nb) := hS
 have hbx := oneA16 w3 (.cells #[.int .i64 mb.id,.int .i64 mb.n,.slice B.ra mb.rows.length B.rc,.slice B.sa mb.sung.length B.sc,.bool mb.done] 27)
 have hbb := hb1.trans (hbx.mono hb1.size)
 have Hb_3 : Hid (Mx (w3.alloc (.cells #[.int .i64 mb.id,.int .i64 mb.n,.slice B.ra mb.rows.length B.rc,.slice B.sa mb.sung.length B.sc,.bool mb.done] 27)) w3.heap.size B mb) := Mx.new hI hS.fit
 have Ha_3 : Hid (Mx (w3.alloc (.cells #[.int .i64 mb.id,.int .i64 mb.n,.slice B.ra mb.rows.length B.rc,.slice B.sa mb.sung.length B.sc,.bool mb.done] 27)) oa A ma) := Ha_2.out.below hbb
 have Hx_3 : Hid (Mx (w3.alloc (.cells #[.int .i64 mb.id,.int .i64 mb.n,.slice B.ra mb.rows.length B.rc,.slice B.sa mb.sung.length B.sc,.bool mb.done] 27)) ox Ax mx) := Hx_2.out.below hbb
 have HW_3 : Hid (Below w.heap.size w (w3.alloc (.cells #[.int .i64 mb.id,.int .i64 mb.n,.slice B.ra mb.rows.length B.rc,.slice B.sa mb.sung.length B.sc,.bool mb.done] 27))) := HW_2.out.trans (hbb.mono HW_2.out.size)
 clear Ha_2 Hx_2 HW_2
 clear hbx hbb hD hI hS hb1
 go_upto_region 6 with fail
 generalize hWW : w3.alloc (.cells #[.int .i64 mb.id,.int .i64 mb.n,.slice B.ra mb.rows.length B.rc,.slice B.sa mb.sung.length B.sc,.bool mb.done] 27) = W3 at *
 generalize w3.heap.size = ob at *
 clear hWW
 have hI := hDb B mb who W3 (Hb_3.out.mbp HSb.out.i64 HSb.out.sz) ⟨by omega,by omega⟩
 unfold mbV mbC at hI
 obtain ⟨my,dd,hxe_y⟩ : ∃ x sd,Hid (x = (dbtM mb who).1 ∧ sd = (dbtM mb who).2) := ⟨_,_,rfl,rfl⟩
 rw [← hxe_y.out.1,← hxe_y.out.2] at hI
 have hxs_y : SmM my := by rw [hxe_y.out.1];exact dbtM_small mb who
 obtain ⟨c0,c1,c2,c3,c4⟩ := Bx.r5 Hb_3.out.box
 go_wp2_with fail
 refine hI.mono ?_
 rintro e w4 ⟨By,rfl,hN⟩
 have hI2 := It.of_new hN
 have hb2 : Below W3.heap.size W3 w4 := hN.choose_spec.2.2
 unfold mbV mbC
 have hbx := oneA16 w4 (.cells #[.int .i64 my.id,.int .i64 my.n,.slice By.ra my.rows.length By.rc,.slice By.sa my.sung.length By.sc,.bool my.done] 27)
 have hbb := hb2.trans (hbx.mono hb2.size)
 have Hy_4 : Hid (Mx (w4.alloc (.cells #[.int .i64 my.id,.int .i64 my.n,.slice By.ra my.rows.length By.rc,.slice By.sa my.sung.length By.sc,.bool my.done] 27)) w4.heap.size By my) := Mx.new hI2 hxs_y.1
 have Ha_4 : Hid (Mx (w4.alloc (.cells #[.int .i64 my.id,.int .i64 my.n,.slice By.ra my.rows.length By.rc,.slice By.sa my.sung.length By.sc,.bool my.done] 27)) oa A ma) := Ha_3.out.below hbb
 have Hx_4 : Hid (Mx (w4.alloc (.cells #[.int .i64 my.id,.int .i64 my.n,.slice By.ra my.rows.length By.rc,.slice By.sa my.sung.length By.sc,.bool my.done] 27)) ox Ax mx) := Hx_3.out.below hbb
 have Hb_4 : Hid (Mx (w4.alloc (.cells #[.int .i64 my.id,.int .i64 my.n,.slice By.ra my.rows.length By.rc,.slice By.sa my.sung.length By.sc,.bool my.done] 27)) ob B mb) := Hb_3.out.below hbb
 have HW_4 : Hid (Below w.heap.size w (w4.alloc (.cells #[.int .i64 my.id,.int .i64 my.n,.slice By.ra my.rows.length By.rc,.slice By.sa my.sung.length By.sc,.bool my.done] 27))) := HW_3.out.trans (hbb.mono HW_3.out.size)
 clear Ha_3 Hx_3 Hb_3 HW_3
 clear hbx hbb hI hN hI2 hb2 c0 c1 c2 c3 c4
 go_upto_region 7 with fail
 generalize hWW : w4.alloc (.cells #[.int .i64 my.id,.int .i64 my.n,.slice By.ra my.rows.length By.rc,.slice By.sa my.sung.length By.sc,.bool my.done] 27) = W4 at *
 generalize w4.heap.size = oy at *
 clear hWW
 have hD := drawHe_any a len cap bs W4 (hv.below HW_4.out (Nat.le_refl _)) hl
 unfold mbV mbC rwV rwC at hD
 go_wp2_with fail
 refine hD.mono ?_
 rintro e w5 ⟨C,mc,nc,fr,Ar,r,rfl,hfr,⟨hI,hS,hb1⟩,hrp⟩
 have HSc : Hid (DmS mc nc) := hS
 have hbx := oneA16 w5 (.cells #[.int .i64 mc.id,.int .i64 mc.n,.slice C.ra mc.rows.length C.rc,.slice C.sa mc.sung.length C.sc,.bool mc.done] 27)
 have hby := oneA16 (w5.alloc (.cells #[.int .i64 mc.id,.int .i64 mc.n,.slice C.ra mc.rows.length C.rc,.slice C.sa mc.sung.length C.sc,.bool mc.done] 27)) (.cells #[.int .i64 r.ver,.slice Ar.ta r.txt.length Ar.tc,.slice Ar.ga r.got.length Ar.gc,.slice Ar.sa r.sus.length Ar.sc,.bool r.wed,.bool r.rdy,.int .i64 r.by_,.slice Ar.ma r.trm.length Ar.mc] 37)
 have hbz := hbx.trans (hby.mono hbx.size)
 have hbb := hb1.trans (hbz.mono hb1.size)
 have Hc_5 : Hid (Mx ((w5.alloc (.cells #[.int .i64 mc.id,.int .i64 mc.n,.slice C.ra mc.rows.length C.rc,.slice C.sa mc.sung.length C.sc,.bool mc.done] 27)).alloc (.cells #[.int .i64 r.ver,.slice Ar.ta r.txt.length Ar.tc,.slice Ar.ga r.got.length Ar.gc,.slice Ar.sa r.sus.length Ar.sc,.bool r.wed,.bool r.rdy,.int .i64 r.by_,.slice Ar.ma r.trm.length Ar.mc] 37)) w5.heap.size C mc) := (Mx.new hI hS.fit).below hby
 have Hr_5 : Hid (Rx ((w5.alloc (.cells #[.int .i64 mc.id,.int .i64 mc.n,.slice C.ra mc.rows.length C.rc,.slice C.sa mc.sung.length C.sc,.bool mc.done] 27)).alloc (.cells #[.int .i64 r.ver,.slice Ar.ta r.txt.length Ar.tc,.slice Ar.ga r.got.length Ar.gc,.slice Ar.sa r.sus.length Ar.sc,.bool r.wed,.bool r.rdy,.int .i64 r.by_,.slice Ar.ma r.trm.length Ar.mc] 37)) (w5.heap.size + 1) Ar r) := ⟨by
  have := Bx.new (w5.alloc (.cells #[.int .i64 mc.id,.int .i64 mc.n,.slice C.ra mc.rows.length C.rc,.slice C.sa mc.sung.length C.sc,.bool mc.done] 27)) 37 #[.int .i64 r.ver,.slice Ar.ta r.txt.length Ar.tc,.slice Ar.ga r.got.length Ar.gc,.slice Ar.sa r.sus.length Ar.sc,.bool r.wed,.bool r.rdy,.int .i64 r.by_,.slice Ar.ma r.trm.length Ar.mc]
  rw [World.size_alloc] at this
  exact this,hrp.below hbz⟩
 have Ha_5 : Hid (Mx ((w5.alloc (.cells #[.int .i64 mc.id,.int .i64 mc.n,.slice C.ra mc.rows.length C.rc,.slice C.sa mc.sung.length C.sc,.bool mc.done] 27)).alloc (.cells #[.int .i64 r.ver,.slice Ar.ta r.txt.length Ar.tc,.slice Ar.ga r.got.length Ar.gc,.slice Ar.sa r.sus.length Ar.sc,.bool r.wed,.bool r.rdy,.int .i64 r.by_,.slice Ar.ma r.trm.length Ar.mc] 37)) oa A ma) := Ha_4.out.below hbb
 have Hx_5 : Hid (Mx ((w5.alloc (.cells #[.int .i64 mc.id,.int .i64 mc.n,.slice C.ra mc.rows.length C.rc,.slice C.sa mc.sung.length C.sc,.bool mc.done] 27)).alloc (.cells #[.int .i64 r.ver,.slice Ar.ta r.txt.length Ar.tc,.slice Ar.ga r.got.length Ar.gc,.slice Ar.sa r.sus.length Ar.sc,.bool r.wed,.bool r.rdy,.int .i64 r.by_,.slice Ar.ma r.trm.length Ar.mc] 37)) ox Ax mx) := Hx_4.out.below hbb
 have Hb_5 : Hid (Mx ((w5.alloc (.cells #[.int .i64 mc.id,.int .i64 mc.n,.slice C.ra mc.rows.length C.rc,.slice C.sa mc.sung.length C.sc,.bool mc.done] 27)).alloc (.cells #[.int .i64 r.ver,.slice Ar.ta r.txt.length Ar.tc,.slice Ar.ga r.got.length Ar.gc,.slice Ar.sa r.sus.length Ar.sc,.bool r.wed,.bool r.rdy,.int .i64 r.by_,.slice Ar.ma r.trm.length Ar.mc] 37)) ob B mb) := Hb_4.out.below hbb
 have Hy_5 : Hid (Mx ((w5.alloc (.cells #[.int .i64 mc.id,.int .i64 mc.n,.slice C.ra mc.rows.length C.rc,.slice C.sa mc.sung.length C.sc,.bool mc.done] 27)).alloc (.cells #[.int .i64 r.ver,.slice Ar.ta r.txt.length Ar.tc,.slice Ar.ga r.got.length Ar.gc,.slice Ar.sa r.sus.length Ar.sc,.bool r.wed,.bool r.rdy,.int .i64 r.by_,.slice Ar.ma r.trm.length Ar.mc] 37)) oy By my) := Hy_4.out.below hbb
 have HW_5 : Hid (Below w.heap.size w ((w5.alloc (.cells #[.int .i64 mc.id,.int .i64 mc.n,.slice C.ra mc.rows.length C.rc,.slice C.sa mc.sung.length C.sc,.bool mc.done] 27)).alloc (.cells #[.int .i64 r.ver,.slice Ar.ta r.txt.length Ar.tc,.slice Ar.ga r.got.length Ar.gc,.slice Ar.sa r.sus.length Ar.sc,.bool r.wed,.bool r.rdy,.int .i64 r.by_,.slice Ar.ma r.trm.length Ar.mc] 37))) := HW_4.out.trans (hbb.mono HW_4.out.size)
 clear Ha_4 Hx_4 Hb_4 Hy_4 HW_4
 clear hbx hby hbz hbb hD hI hS hb1 hrp
 go_upto_region 8 with fail
 generalize hWW : (w5.alloc (.cells #[.int .i64 mc.id,.int .i64 mc.n,.slice C.ra mc.rows.length C.rc,.slice C.sa mc.sung.length C.sc,.bool mc.done] 27)).alloc (.cells #[.int .i64 r.ver,.slice Ar.ta r.txt.length Ar.tc,.slice Ar.ga r.got.length Ar.gc,.slice Ar.sa r.sus.length Ar.sc,.bool r.wed,.bool r.rdy,.int .i64 r.by_,.slice Ar.ma r.trm.length Ar.mc] 37) = W5 at *
 generalize w5.heap.size + 1 = orr at *
 generalize w5.heap.size = oc at *
 clear hWW
 have hI := hHe C mc fr Ar r W5 (Hc_5.out.mbp HSc.out.i64 HSc.out.sz) ⟨by omega,by omega⟩ Hr_5.out.rwp
 try unfold mbV mbC at hI
 unfold rwV rwC at hI
 obtain ⟨mz,hd,hxe_z⟩ : ∃ x sd,Hid (x = (hrdM mc fr r).1 ∧ sd = (hrdM mc fr r).2) := ⟨_,_,rfl,rfl⟩
 have hxs_z : SmM mz := by rw [hxe_z.out.1];exact hrdM_small mc fr r
 rw [← hxe_z.out.1,← hxe_z.out.2] at hI
 obtain ⟨c0,c1,c2,c3,c4⟩ := Bx.r5 Hc_5.out.box
 have g0 := Hr_5.out.box.at 0 rfl
 have g1 := Hr_5.out.box.at 1 rfl
 have g2 := Hr_5.out.box.at 2 rfl
 have g3 := Hr_5.out.box.at 3 rfl
 have g4 := Hr_5.out.box.at 4 rfl
 have g5 := Hr_5.out.box.at 5 rfl
 have g6 := Hr_5.out.box.at 6 rfl
 have g7 := Hr_5.out.box.at 7 rfl
 go_wp2_with fail
 refine hI.mono ?_
 rintro e w6 ⟨Cz,rfl,hN⟩
 have hI2 := It.of_new hN
 have hb2 : Below W5.heap.size W5 w6 := hN.choose_spec.2.2
 unfold mbV mbC
 have hbx := oneA16 w6 (.cells #[.int .i64 mz.id,.int .i64 mz.n,.slice Cz.ra mz.rows.length Cz.rc,.slice Cz.sa mz.sung.length Cz.sc,.bool mz.done] 27)
 have hbb := hb2.trans (hbx.mono hb2.size)
 have Hz_6 : Hid (Mx (w6.alloc (.cells #[.int .i64 mz.id,.int .i64 mz.n,.slice Cz.ra mz.rows.length Cz.rc,.slice Cz.sa mz.sung.length Cz.sc,.bool mz.done] 27)) w6.heap.size Cz mz) := Mx.new hI2 hxs_z.1
 have Ha_6 : Hid (Mx (w6.alloc (.cells #[.int .i64 mz.id,.int .i64 mz.n,.slice Cz.ra mz.rows.length Cz.rc,.slice Cz.sa mz.sung.length Cz.sc,.bool mz.done] 27)) oa A ma) := Ha_5.out.below hbb
 have Hx_6 : Hid (Mx (w6.alloc (.cells #[.int .i64 mz.id,.int .i64 mz.n,.slice Cz.ra mz.rows.length Cz.rc,.slice Cz.sa mz.sung.length Cz.sc,.bool mz.done] 27)) ox Ax mx) := Hx_5.out.below hbb
 have Hb_6 : Hid (Mx (w6.alloc (.cells #[.int .i64 mz.id,.int .i64 mz.n,.slice Cz.ra mz.rows.length Cz.rc,.slice Cz.sa mz.sung.length Cz.sc,.bool mz.done] 27)) ob B mb) := Hb_5.out.below hbb
 have Hy_6 : Hid (Mx (w6.alloc (.cells #[.int .i64 mz.id,.int .i64 mz.n,.slice Cz.ra mz.rows.length Cz.rc,.slice Cz.sa mz.sung.length Cz.sc,.bool mz.done] 27)) oy By my) := Hy_5.out.below hbb
 have Hc_6 : Hid (Mx (w6.alloc (.cells #[.int .i64 mz.id,.int .i64 mz.n,.slice Cz.ra mz.rows.length Cz.rc,.slice Cz.sa mz.sung.length Cz.sc,.bool mz.done] 27)) oc C mc) := Hc_5.out.below hbb
 have Hr_6 : Hid (Rx (w6.alloc (.cells #[.int .i64 mz.id,.int .i64 mz.n,.slice Cz.ra mz.rows.length Cz.rc,.slice Cz.sa mz.sung.length Cz.sc,.bool mz.done] 27)) orr Ar r) := Hr_5.out.below hbb
 have HW_6 : Hid (Below w.heap.size w (w6.alloc (.cells #[.int .i64 mz.id,.int .i64 mz.n,.slice Cz.ra mz.rows.length Cz.rc,.slice Cz.sa mz.sung.length Cz.sc,.bool mz.done] 27))) := HW_5.out.trans (hbb.mono HW_5.out.size)
 clear Ha_5 Hx_5 Hb_5 Hy_5 Hc_5 Hr_5 HW_5
 clear hbx hbb hI hN hI2 hb2 c0 c1 c2 c3 c4 g0 g1 g2 g3 g4 g5 g6 g7
 go_upto_region 9 with fail
 generalize hWW : w6.alloc (.cells #[.int .i64 mz.id,.int .i64 mz.n,.slice Cz.ra mz.rows.length Cz.rc,.slice Cz.sa mz.sung.length Cz.sc,.bool mz.done] 27) = W6 at *
 generalize w6.heap.size = oz at *
 clear hWW
 have hD := drawNm_any a len cap bs W6 (hv.below HW_6.out (Nat.le_refl _)) hl
 go_wp2_with fail
 refine hD.mono ?_
 rintro e W7 ⟨id,n,rfl,hid,hn,hb1⟩
 have Ha_7 : Hid (Mx W7 oa A ma) := Ha_6.out.below hb1
 have Hx_7 : Hid (Mx W7 ox Ax mx) := Hx_6.out.below hb1
 have Hb_7 : Hid (Mx W7 ob B mb) := Hb_6.out.below hb1
 have Hy_7 : Hid (Mx W7 oy By my) := Hy_6.out.below hb1
 have Hc_7 : Hid (Mx W7 oc C mc) := Hc_6.out.below hb1
 have Hr_7 : Hid (Rx W7 orr Ar r) := Hr_6.out.below hb1
 have Hz_7 : Hid (Mx W7 oz Cz mz) := Hz_6.out.below hb1
 have HW_7 : Hid (Below w.heap.size w W7) := HW_6.out.trans (hb1.mono HW_6.out.size)
 clear Ha_6 Hx_6 Hb_6 Hy_6 Hc_6 Hr_6 Hz_6 HW_6
 clear hD hb1
 go_upto_region 10 with fail
 have hI := hNm id n W7 ⟨by omega,by omega⟩ ⟨by omega,by omega⟩
 try unfold mbV mbC at hI
 obtain ⟨mw,md,hxe_w⟩ : ∃ x sd,Hid (x = (newMb id n).1 ∧ sd = (newMb id n).2) := ⟨_,_,rfl,rfl⟩
 have hxs_w : SmM mw := by rw [hxe_w.out.1];exact newMb_small id n
 rw [← hxe_w.out.1,← hxe_w.out.2] at hI
 go_wp2_with fail
 refine hI.mono ?_
 rintro e w8 ⟨Dw,rfl,hN⟩
 have hI2 := It.of_new hN
 have hb2 : Below W7.heap.size W7 w8 := hN.choose_spec.2.2
 unfold mbV mbC
 have hbx := oneA16 w8 (.cells #[.int .i64 mw.id,.int .i64 mw.n,.slice Dw.ra mw.rows.length Dw.rc,.slice Dw.sa mw.sung.length Dw.sc,.bool mw.done] 27)
 have hbb := hb2.trans (hbx.mono hb2.size)
 have Hw_8 : Hid (Mx (w8.alloc (.cells #[.int .i64 mw.id,.int .i64 mw.n,.slice Dw.ra mw.rows.length Dw.rc,.slice Dw.sa mw.sung.length Dw.sc,.bool mw.done] 27)) w8.heap.size Dw mw) := Mx.new hI2 hxs_w.1
 have Ha_8 : Hid (Mx (w8.alloc (.cells #[.int .i64 mw.id,.int .i64 mw.n,.slice Dw.ra mw.rows.length Dw.rc,.slice Dw.sa mw.sung.length Dw.sc,.bool mw.done] 27)) oa A ma) := Ha_7.out.below hbb
 have Hx_8 : Hid (Mx (w8.alloc (.cells #[.int .i64 mw.id,.int .i64 mw.n,.slice Dw.ra mw.rows.length Dw.rc,.slice Dw.sa mw.sung.length Dw.sc,.bool mw.done] 27)) ox Ax mx) := Hx_7.out.below hbb
 have Hb_8 : Hid (Mx (w8.alloc (.cells #[.int .i64 mw.id,.int .i64 mw.n,.slice Dw.ra mw.rows.length Dw.rc,.slice Dw.sa mw.sung.length Dw.sc,.bool mw.done] 27)) ob B mb) := Hb_7.out.below hbb
 have Hy_8 : Hid (Mx (w8.alloc (.cells #[.int .i64 mw.id,.int .i64 mw.n,.slice Dw.ra mw.rows.length Dw.rc,.slice Dw.sa mw.sung.length Dw.sc,.bool mw.done] 27)) oy By my) := Hy_7.out.below hbb
 have Hc_8 : Hid (Mx (w8.alloc (.cells #[.int .i64 mw.id,.int .i64 mw.n,.slice Dw.ra mw.rows.length Dw.rc,.slice Dw.sa mw.sung.length Dw.sc,.bool mw.done] 27)) oc C mc) := Hc_7.out.below hbb
 have Hr_8 : Hid (Rx (w8.alloc (.cells #[.int .i64 mw.id,.int .i64 mw.n,.slice Dw.ra mw.rows.length Dw.rc,.slice Dw.sa mw.sung.length Dw.sc,.bool mw.done] 27)) orr Ar r) := Hr_7.out.below hbb
 have Hz_8 : Hid (Mx (w8.alloc (.cells #[.int .i64 mw.id,.int .i64 mw.n,.slice Dw.ra mw.rows.length Dw.rc,.slice Dw.sa mw.sung.length Dw.sc,.bool mw.done] 27)) oz Cz mz) := Hz_7.out.below hbb
 have HW_8 : Hid (Below w.heap.size w (w8.alloc (.cells #[.int .i64 mw.id,.int .i64 mw.n,.slice Dw.ra mw.rows.length Dw.rc,.slice Dw.sa mw.sung.length Dw.sc,.bool mw.done] 27))) := HW_7.out.trans (hbb.mono HW_7.out.size)
 clear Ha_7 Hx_7 Hb_7 Hy_7 Hc_7 Hr_7 Hz_7 HW_7
 clear hbx hbb hI hN hI2 hb2 
 go_upto_region 11 with fail
 generalize hWW : w8.alloc (.cells #[.int .i64 mw.id,.int .i64 mw.n,.slice Dw.ra mw.rows.length Dw.rc,.slice Dw.sa mw.sung.length Dw.sc,.bool mw.done] 27) = W8 at *
 generalize w8.heap.size = ow at *
 clear hWW
 clear hv hl
 have hI := sayS_any A ma t W8 Ha_8.out.mbs (by omega)
 try unfold mbV mbC at hI
 rw [← hxe_x.out.1,← hxe_x.out.2] at hI
 obtain ⟨c0,c1,c2,c3,c4⟩ := Bx.r5 Ha_8.out.box
 go_wp2_with fail
 refine hI.mono ?_
 rintro e w9 ⟨As,rfl,hN⟩
 have hI2 := It.of_new hN
 have hb2 : Below W8.heap.size W8 w9 := hN.choose_spec.2.2
 unfold mbV mbC
 have hbx := oneA16 w9 (.cells #[.int .i64 mx.id,.int .i64 mx.n,.slice As.ra mx.rows.length As.rc,.slice As.sa mx.sung.length As.sc,.bool mx.done] 27)
 have hbb := hb2.trans (hbx.mono hb2.size)
 have Hs_9 : Hid (Mx (w9.alloc (.cells #[.int .i64 mx.id,.int .i64 mx.n,.slice As.ra mx.rows.length As.rc,.slice As.sa mx.sung.length As.sc,.bool mx.done] 27)) w9.heap.size As mx) := Mx.new hI2 hxs_x.1
 have Ha_9 : Hid (Mx (w9.alloc (.cells #[.int .i64 mx.id,.int .i64 mx.n,.slice As.ra mx.rows.length As.rc,.slice As.sa mx.sung.length As.sc,.bool mx.done] 27)) oa A ma) := Ha_8.out.below hbb
 have Hx_9 : Hid (Mx (w9.alloc (.cells #[.int .i64 mx.id,.int .i64 mx.n,.slice As.ra mx.rows.length As.rc,.slice As.sa mx.sung.length As.sc,.bool mx.done] 27)) ox Ax mx) := Hx_8.out.below hbb
 have Hb_9 : Hid (Mx (w9.alloc (.cells #[.int .i64 mx.id,.int .i64 mx.n,.slice As.ra mx.rows.length As.rc,.slice As.sa mx.sung.length As.sc,.bool mx.done] 27)) ob B mb) := Hb_8.out.below hbb
 have Hy_9 : Hid (Mx (w9.alloc (.cells #[.int .i64 mx.id,.int .i64 mx.n,.slice As.ra mx.rows.length As.rc,.slice As.sa mx.sung.length As.sc,.bool mx.done] 27)) oy By my) := Hy_8.out.below hbb
 have Hc_9 : Hid (Mx (w9.alloc (.cells #[.int .i64 mx.id,.int .i64 mx.n,.slice As.ra mx.rows.length As.rc,.slice As.sa mx.sung.length As.sc,.bool mx.done] 27)) oc C mc) := Hc_8.out.below hbb
 have Hr_9 : Hid (Rx (w9.alloc (.cells #[.int .i64 mx.id,.int .i64 mx.n,.slice As.ra mx.rows.length As.rc,.slice As.sa mx.sung.length As.sc,.bool mx.done] 27)) orr Ar r) := Hr_8.out.below hbb
 have Hz_9 : Hid (Mx (w9.alloc (.cells #[.int .i64 mx.id,.int .i64 mx.n,.slice As.ra mx.rows.length As.rc,.slice As.sa mx.sung.length As.sc,.bool mx.done] 27)) oz Cz mz) := Hz_8.out.below hbb
 have Hw_9 : Hid (Mx (w9.alloc (.cells #[.int .i64 mx.id,.int .i64 mx.n,.slice As.ra mx.rows.length As.rc,.slice As.sa mx.sung.length As.sc,.bool mx.done] 27)) ow Dw mw) := Hw_8.out.below hbb
 have HW_9 : Hid (Below w.heap.size w (w9.alloc (.cells #[.int .i64 mx.id,.int .i64 mx.n,.slice As.ra mx.rows.length As.rc,.slice As.sa mx.sung.length As.sc,.bool mx.done] 27))) := HW_8.out.trans (hbb.mono HW_8.out.size)
 clear Ha_8 Hx_8 Hb_8 Hy_8 Hc_8 Hr_8 Hz_8 Hw_8 HW_8
 clear hbx hbb hI hN hI2 hb2 c0 c1 c2 c3 c4
 go_upto_region 12 with fail
 generalize hWW : w9.alloc (.cells #[.int .i64 mx.id,.int .i64 mx.n,.slice As.ra mx.rows.length As.rc,.slice As.sa mx.sung.length As.sc,.bool mx.done] 27) = W9 at *
 generalize w9.heap.size = os at *
 clear hWW
 have CL : ∀ q : Bk W9,Calls Tryz.prog 19 #[mbV Ax mx,mbV As mx] q.w fun e w' => e = .returned (.bool true) ∧ Below q.w.heap.size q.w w' := fun q => likeMb_any Ax As mx q.w (Hx_9.out.below q.h).mbs (Hs_9.out.below q.h).mbs
 have CM : ∀ q : Bk W9,Calls Tryz.prog 20 #[mbV A ma] q.w fun e w' => e = .returned (.bool (okMb ma)) ∧ Below q.w.heap.size q.w w' := fun q => hMo A ma q.w ((Ha_9.out.below q.h).mbp HSa.out.i64 HSa.out.sz)
 have CS : ∀ q : Bk W9,Calls Tryz.prog 21 #[mbV A ma] q.w fun e w' => e = .returned (.bool (okMb ma)) ∧ Below q.w.heap.size q.w w' := fun q => mbkS_any A ma q.w (Ha_9.out.below q.h).mbs
 obtain ⟨ka,hka⟩ : ∃ k,Hid (k = okMb ma) := ⟨_,rfl⟩
 rw [← hka.out] at CM CS
 unfold mbV mbC at CL CM CS
 have n1 : (sd != sd) = false := bne_self_eq_false _
 have n2 : (ka != ka) = false := bne_self_eq_false _
 have T : ∀ {x v},W9.cell? x = some v → ∀ q : Bk W9,q.w.cell? x = some v := fun h q => (q.h.cell (World.block_lt_of_cell? _ _ h)).trans h
 obtain ⟨c0,c1,c2,c3,c4⟩ := Bx.r5 Ha_9.out.box
 have pc0 := T c0
 have pc1 := T c1
 have pc2 := T c2
 have pc3 := T c3
 have pc4 := T c4
 clear c0 c1 c2 c3 c4
 obtain ⟨d0,d1,d2,d3,d4⟩ := Bx.r5 Hx_9.out.box
 have pd0 := T d0
 have pd1 := T d1
 have pd2 := T d2
 have pd3 := T d3
 have pd4 := T d4
 clear d0 d1 d2 d3 d4
 obtain ⟨e0,e1,e2,e3,e4⟩ := Bx.r5 Hs_9.out.box
 have pe0 := T e0
 have pe1 := T e1
 have pe2 := T e2
 have pe3 := T e3
 have pe4 := T e4
 clear e0 e1 e2 e3 e4
 clear T
 refine wp_region_bk (by kernel_rfl) (by kernel_rfl) ?_
 repeat (go_big_quiet_step ((first | (go_at_call 19;exact bk_call _ (CL _)) | (go_at_call 20;exact bk_call _ (CM _)) | (go_at_call 21;exact bk_call _ (CS _)) | rfl)))
 refine wpQuiet_nil ?_
 intro wE hw'
 obtain ⟨⟨w11,hb11⟩,hw''⟩ := hw'
 have hwe : wE = w11 := hw''
 clear hw''
 subst hwe
 clear CL CM CS n1 n2 pc0 pc1 pc2 pc3 pc4 pd0 pd1 pd2 pd3 pd4 pe0 pe1 pe2 pe3 pe4 Hs_9
 have Ha_10 : Hid (Mx wE oa A ma) := Ha_9.out.below hb11
 have Hx_10 : Hid (Mx wE ox Ax mx) := Hx_9.out.below hb11
 have Hb_10 : Hid (Mx wE ob B mb) := Hb_9.out.below hb11
 have Hy_10 : Hid (Mx wE oy By my) := Hy_9.out.below hb11
 have Hc_10 : Hid (Mx wE oc C mc) := Hc_9.out.below hb11
 have Hr_10 : Hid (Rx wE orr Ar r) := Hr_9.out.below hb11
 have Hz_10 : Hid (Mx wE oz Cz mz) := Hz_9.out.below hb11
 have Hw_10 : Hid (Mx wE ow Dw mw) := Hw_9.out.below hb11
 have HW_10 : Hid (Below w.heap.size w wE) := HW_9.out.trans (hb11.mono HW_9.out.size)
 clear Ha_9 Hx_9 Hb_9 Hy_9 Hc_9 Hr_9 Hz_9 Hw_9 HW_9
 clear hb11
 generalize wE = W10 at *
 go_upto_region 14 with fail
 have hI := dbtS_any B mb who W10 Hb_10.out.mbs
 try unfold mbV mbC at hI
 rw [← hxe_y.out.1,← hxe_y.out.2] at hI
 obtain ⟨c0,c1,c2,c3,c4⟩ := Bx.r5 Hb_10.out.box
 go_wp2_with fail
 refine hI.mono ?_
 rintro e w11 ⟨Bu,rfl,hN⟩
 have hI2 := It.of_new hN
 have hb2 : Below W10.heap.size W10 w11 := hN.choose_spec.2.2
 unfold mbV mbC
 have hbx := oneA16 w11 (.cells #[.int .i64 my.id,.int .i64 my.n,.slice Bu.ra my.rows.length Bu.rc,.slice Bu.sa my.sung.length Bu.sc,.bool my.done] 27)
 have hbb := hb2.trans (hbx.mono hb2.size)
 have Hu_11 : Hid (Mx (w11.alloc (.cells #[.int .i64 my.id,.int .i64 my.n,.slice Bu.ra my.rows.length Bu.rc,.slice Bu.sa my.sung.length Bu.sc,.bool my.done] 27)) w11.heap.size Bu my) := Mx.new hI2 hxs_y.1
 have Ha_11 : Hid (Mx (w11.alloc (.cells #[.int .i64 my.id,.int .i64 my.n,.slice Bu.ra my.rows.length Bu.rc,.slice Bu.sa my.sung.length Bu.sc,.bool my.done] 27)) oa A ma) := Ha_10.out.below hbb
 have Hx_11 : Hid (Mx (w11.alloc (.cells #[.int .i64 my.id,.int .i64 my.n,.slice Bu.ra my.rows.length Bu.rc,.slice Bu.sa my.sung.length Bu.sc,.bool my.done] 27)) ox Ax mx) := Hx_10.out.below hbb
 have Hb_11 : Hid (Mx (w11.alloc (.cells #[.int .i64 my.id,.int .i64 my.n,.slice Bu.ra my.rows.length Bu.rc,.slice Bu.sa my.sung.length Bu.sc,.bool my.done] 27)) ob B mb) := Hb_10.out.below hbb
 have Hy_11 : Hid (Mx (w11.alloc (.cells #[.int .i64 my.id,.int .i64 my.n,.slice Bu.ra my.rows.length Bu.rc,.slice Bu.sa my.sung.length Bu.sc,.bool my.done] 27)) oy By my) := Hy_10.out.below hbb
 have Hc_11 : Hid (Mx (w11.alloc (.cells #[.int .i64 my.id,.int .i64 my.n,.slice Bu.ra my.rows.length Bu.rc,.slice Bu.sa my.sung.length Bu.sc,.bool my.done] 27)) oc C mc) := Hc_10.out.below hbb
 have Hr_11 : Hid (Rx (w11.alloc (.cells #[.int .i64 my.id,.int .i64 my.n,.slice Bu.ra my.rows.length Bu.rc,.slice Bu.sa my.sung.length Bu.sc,.bool my.done] 27)) orr Ar r) := Hr_10.out.below hbb
 have Hz_11 : Hid (Mx (w11.alloc (.cells #[.int .i64 my.id,.int .i64 my.n,.slice Bu.ra my.rows.length Bu.rc,.slice Bu.sa my.sung.length Bu.sc,.bool my.done] 27)) oz Cz mz) := Hz_10.out.below hbb
 have Hw_11 : Hid (Mx (w11.alloc (.cells #[.int .i64 my.id,.int .i64 my.n,.slice Bu.ra my.rows.length Bu.rc,.slice Bu.sa my.sung.length Bu.sc,.bool my.done] 27)) ow Dw mw) := Hw_10.out.below hbb
 have HW_11 : Hid (Below w.heap.size w (w11.alloc (.cells #[.int .i64 my.id,.int .i64 my.n,.slice Bu.ra my.rows.length Bu.rc,.slice Bu.sa my.sung.length Bu.sc,.bool my.done] 27))) := HW_10.out.trans (hbb.mono HW_10.out.size)
 clear Ha_10 Hx_10 Hb_10 Hy_10 Hc_10 Hr_10 Hz_10 Hw_10 HW_10
 clear hbx hbb hI hN hI2 hb2 c0 c1 c2 c3 c4
 go_upto_region 15 with fail
 generalize hWW : w11.alloc (.cells #[.int .i64 my.id,.int .i64 my.n,.slice Bu.ra my.rows.length Bu.rc,.slice Bu.sa my.sung.length Bu.sc,.bool my.done] 27) = W11 at *
 generalize w11.heap.size = ou at *
 clear hWW
 have CL : ∀ q : Bk W11,Calls Tryz.prog 19 #[mbV By my,mbV Bu my] q.w fun e w' => e = .returned (.bool true) ∧ Below q.w.heap.size q.w w' := fun q => likeMb_any By Bu my q.w (Hy_11.out.below q.h).mbs (Hu_11.out.below q.h).mbs
 have hL := CL ⟨W11,Below.refl _ _⟩
 have n1 : (dd != dd) = false := bne_self_eq_false _
 try dsimp only at hL
 unfold mbV mbC at hL
 clear CL
 obtain ⟨c0,c1,c2,c3,c4⟩ := Bx.r5 Hy_11.out.box
 obtain ⟨d0,d1,d2,d3,d4⟩ := Bx.r5 Hu_11.out.box
 go_wp2_with fail
 refine hL.mono ?_
 rintro e W12 ⟨rfl,hb3⟩
 clear hL n1 c0 c1 c2 c3 c4 d0 d1 d2 d3 d4 Hu_11
 have Ha_12 : Hid (Mx W12 oa A ma) := Ha_11.out.below hb3
 have Hx_12 : Hid (Mx W12 ox Ax mx) := Hx_11.out.below hb3
 have Hb_12 : Hid (Mx W12 ob B mb) := Hb_11.out.below hb3
 have Hy_12 : Hid (Mx W12 oy By my) := Hy_11.out.below hb3
 have Hc_12 : Hid (Mx W12 oc C mc) := Hc_11.out.below hb3
 have Hr_12 : Hid (Rx W12 orr Ar r) := Hr_11.out.below hb3
 have Hz_12 : Hid (Mx W12 oz Cz mz) := Hz_11.out.below hb3
 have Hw_12 : Hid (Mx W12 ow Dw mw) := Hw_11.out.below hb3
 have HW_12 : Hid (Below w.heap.size w W12) := HW_11.out.trans (hb3.mono HW_11.out.size)
 clear Ha_11 Hx_11 Hb_11 Hy_11 Hc_11 Hr_11 Hz_11 Hw_11 HW_11
 clear hb3
 go_upto_region 17 with fail
 have hI := hrdS_any C mc fr Ar r W12 Hc_12.out.mbs Hr_12.out.rwp.rws ⟨by omega,by omega⟩
 try unfold mbV mbC at hI
 unfold rwV rwC at hI
 rw [← hxe_z.out.1,← hxe_z.out.2] at hI
 obtain ⟨c0,c1,c2,c3,c4⟩ := Bx.r5 Hc_12.out.box
 have g0 := Hr_12.out.box.at 0 rfl
 have g1 := Hr_12.out.box.at 1 rfl
 have g2 := Hr_12.out.box.at 2 rfl
 have g3 := Hr_12.out.box.at 3 rfl
 have g4 := Hr_12.out.box.at 4 rfl
 have g5 := Hr_12.out.box.at 5 rfl
 have g6 := Hr_12.out.box.at 6 rfl
 have g7 := Hr_12.out.box.at 7 rfl
 go_wp2_with fail
 refine hI.mono ?_
 rintro e w13 ⟨Cv,rfl,hN⟩
 have hI2 := It.of_new hN
 have hb2 : Below W12.heap.size W12 w13 := hN.choose_spec.2.2
 unfold mbV mbC
 have hbx := oneA16 w13 (.cells #[.int .i64 mz.id,.int .i64 mz.n,.slice Cv.ra mz.rows.length Cv.rc,.slice Cv.sa mz.sung.length Cv.sc,.bool mz.done] 27)
 have hbb := hb2.trans (hbx.mono hb2.size)
 have Hv_13 : Hid (Mx (w13.alloc (.cells #[.int .i64 mz.id,.int .i64 mz.n,.slice Cv.ra mz.rows.length Cv.rc,.slice Cv.sa mz.sung.length Cv.sc,.bool mz.done] 27)) w13.heap.size Cv mz) := Mx.new hI2 hxs_z.1
 have Ha_13 : Hid (Mx (w13.alloc (.cells #[.int .i64 mz.id,.int .i64 mz.n,.slice Cv.ra mz.rows.length Cv.rc,.slice Cv.sa mz.sung.length Cv.sc,.bool mz.done] 27)) oa A ma) := Ha_12.out.below hbb
 have Hx_13 : Hid (Mx (w13.alloc (.cells #[.int .i64 mz.id,.int .i64 mz.n,.slice Cv.ra mz.rows.length Cv.rc,.slice Cv.sa mz.sung.length Cv.sc,.bool mz.done] 27)) ox Ax mx) := Hx_12.out.below hbb
 have Hb_13 : Hid (Mx (w13.alloc (.cells #[.int .i64 mz.id,.int .i64 mz.n,.slice Cv.ra mz.rows.length Cv.rc,.slice Cv.sa mz.sung.length Cv.sc,.bool mz.done] 27)) ob B mb) := Hb_12.out.below hbb
 have Hy_13 : Hid (Mx (w13.alloc (.cells #[.int .i64 mz.id,.int .i64 mz.n,.slice Cv.ra mz.rows.length Cv.rc,.slice Cv.sa mz.sung.length Cv.sc,.bool mz.done] 27)) oy By my) := Hy_12.out.below hbb
 have Hc_13 : Hid (Mx (w13.alloc (.cells #[.int .i64 mz.id,.int .i64 mz.n,.slice Cv.ra mz.rows.length Cv.rc,.slice Cv.sa mz.sung.length Cv.sc,.bool mz.done] 27)) oc C mc) := Hc_12.out.below hbb
 have Hr_13 : Hid (Rx (w13.alloc (.cells #[.int .i64 mz.id,.int .i64 mz.n,.slice Cv.ra mz.rows.length Cv.rc,.slice Cv.sa mz.sung.length Cv.sc,.bool mz.done] 27)) orr Ar r) := Hr_12.out.below hbb
 have Hz_13 : Hid (Mx (w13.alloc (.cells #[.int .i64 mz.id,.int .i64 mz.n,.slice Cv.ra mz.rows.length Cv.rc,.slice Cv.sa mz.sung.length Cv.sc,.bool mz.done] 27)) oz Cz mz) := Hz_12.out.below hbb
 have Hw_13 : Hid (Mx (w13.alloc (.cells #[.int .i64 mz.id,.int .i64 mz.n,.slice Cv.ra mz.rows.length Cv.rc,.slice Cv.sa mz.sung.length Cv.sc,.bool mz.done] 27)) ow Dw mw) := Hw_12.out.below hbb
 have HW_13 : Hid (Below w.heap.size w (w13.alloc (.cells #[.int .i64 mz.id,.int .i64 mz.n,.slice Cv.ra mz.rows.length Cv.rc,.slice Cv.sa mz.sung.length Cv.sc,.bool mz.done] 27))) := HW_12.out.trans (hbb.mono HW_12.out.size)
 clear Ha_12 Hx_12 Hb_12 Hy_12 Hc_12 Hr_12 Hz_12 Hw_12 HW_12
 clear hbx hbb hI hN hI2 hb2 c0 c1 c2 c3 c4 g0 g1 g2 g3 g4 g5 g6 g7
 go_upto_region 18 with fail
 generalize hWW : w13.alloc (.cells #[.int .i64 mz.id,.int .i64 mz.n,.slice Cv.ra mz.rows.length Cv.rc,.slice Cv.sa mz.sung.length Cv.sc,.bool mz.done] 27) = W13 at *
 generalize w13.heap.size = ov at *
 clear hWW
 have CL : ∀ q : Bk W13,Calls Tryz.prog 19 #[mbV Cz mz,mbV Cv mz] q.w fun e w' => e = .returned (.bool true) ∧ Below q.w.heap.size q.w w' := fun q => likeMb_any Cz Cv mz q.w (Hz_13.out.below q.h).mbs (Hv_13.out.below q.h).mbs
 have hL := CL ⟨W13,Below.refl _ _⟩
 have n1 : (hd != hd) = false := bne_self_eq_false _
 try dsimp only at hL
 unfold mbV mbC at hL
 clear CL
 obtain ⟨c0,c1,c2,c3,c4⟩ := Bx.r5 Hz_13.out.box
 obtain ⟨d0,d1,d2,d3,d4⟩ := Bx.r5 Hv_13.out.box
 go_wp2_with fail
 refine hL.mono ?_
 rintro e W14 ⟨rfl,hb3⟩
 clear hL n1 c0 c1 c2 c3 c4 d0 d1 d2 d3 d4 Hv_13
 have Ha_14 : Hid (Mx W14 oa A ma) := Ha_13.out.below hb3
 have Hx_14 : Hid (Mx W14 ox Ax mx) := Hx_13.out.below hb3
 have Hb_14 : Hid (Mx W14 ob B mb) := Hb_13.out.below hb3
 have Hy_14 : Hid (Mx W14 oy By my) := Hy_13.out.below hb3
 have Hc_14 : Hid (Mx W14 oc C mc) := Hc_13.out.below hb3
 have Hr_14 : Hid (Rx W14 orr Ar r) := Hr_13.out.below hb3
 have Hz_14 : Hid (Mx W14 oz Cz mz) := Hz_13.out.below hb3
 have Hw_14 : Hid (Mx W14 ow Dw mw) := Hw_13.out.below hb3
 have HW_14 : Hid (Below w.heap.size w W14) := HW_13.out.trans (hb3.mono HW_13.out.size)
 clear Ha_13 Hx_13 Hb_13 Hy_13 Hc_13 Hr_13 Hz_13 Hw_13 HW_13
 clear hb3
 go_upto_region 20 with fail
 have hI := nmbS_any id n W14
 try unfold mbV mbC at hI
 rw [← hxe_w.out.1,← hxe_w.out.2] at hI
 go_wp2_with fail
 refine hI.mono ?_
 rintro e w15 ⟨Dq,rfl,hN⟩
 have hI2 := It.of_new hN
 have hb2 : Below W14.heap.size W14 w15 := hN.choose_spec.2.2
 unfold mbV mbC
 have hbx := oneA16 w15 (.cells #[.int .i64 mw.id,.int .i64 mw.n,.slice Dq.ra mw.rows.length Dq.rc,.slice Dq.sa mw.sung.length Dq.sc,.bool mw.done] 27)
 have hbb := hb2.trans (hbx.mono hb2.size)
 have Hq_15 : Hid (Mx (w15.alloc (.cells #[.int .i64 mw.id,.int .i64 mw.n,.slice Dq.ra mw.rows.length Dq.rc,.slice Dq.sa mw.sung.length Dq.sc,.bool mw.done] 27)) w15.heap.size Dq mw) := Mx.new hI2 hxs_w.1
 have Ha_15 : Hid (Mx (w15.alloc (.cells #[.int .i64 mw.id,.int .i64 mw.n,.slice Dq.ra mw.rows.length Dq.rc,.slice Dq.sa mw.sung.length Dq.sc,.bool mw.done] 27)) oa A ma) := Ha_14.out.below hbb
 have Hx_15 : Hid (Mx (w15.alloc (.cells #[.int .i64 mw.id,.int .i64 mw.n,.slice Dq.ra mw.rows.length Dq.rc,.slice Dq.sa mw.sung.length Dq.sc,.bool mw.done] 27)) ox Ax mx) := Hx_14.out.below hbb
 have Hb_15 : Hid (Mx (w15.alloc (.cells #[.int .i64 mw.id,.int .i64 mw.n,.slice Dq.ra mw.rows.length Dq.rc,.slice Dq.sa mw.sung.length Dq.sc,.bool mw.done] 27)) ob B mb) := Hb_14.out.below hbb
 have Hy_15 : Hid (Mx (w15.alloc (.cells #[.int .i64 mw.id,.int .i64 mw.n,.slice Dq.ra mw.rows.length Dq.rc,.slice Dq.sa mw.sung.length Dq.sc,.bool mw.done] 27)) oy By my) := Hy_14.out.below hbb
 have Hc_15 : Hid (Mx (w15.alloc (.cells #[.int .i64 mw.id,.int .i64 mw.n,.slice Dq.ra mw.rows.length Dq.rc,.slice Dq.sa mw.sung.length Dq.sc,.bool mw.done] 27)) oc C mc) := Hc_14.out.below hbb
 have Hr_15 : Hid (Rx (w15.alloc (.cells #[.int .i64 mw.id,.int .i64 mw.n,.slice Dq.ra mw.rows.length Dq.rc,.slice Dq.sa mw.sung.length Dq.sc,.bool mw.done] 27)) orr Ar r) := Hr_14.out.below hbb
 have Hz_15 : Hid (Mx (w15.alloc (.cells #[.int .i64 mw.id,.int .i64 mw.n,.slice Dq.ra mw.rows.length Dq.rc,.slice Dq.sa mw.sung.length Dq.sc,.bool mw.done] 27)) oz Cz mz) := Hz_14.out.below hbb
 have Hw_15 : Hid (Mx (w15.alloc (.cells #[.int .i64 mw.id,.int .i64 mw.n,.slice Dq.ra mw.rows.length Dq.rc,.slice Dq.sa mw.sung.length Dq.sc,.bool mw.done] 27)) ow Dw mw) := Hw_14.out.below hbb
 have HW_15 : Hid (Below w.heap.size w (w15.alloc (.cells #[.int .i64 mw.id,.int .i64 mw.n,.slice Dq.ra mw.rows.length Dq.rc,.slice Dq.sa mw.sung.length Dq.sc,.bool mw.done] 27))) := HW_14.out.trans (hbb.mono HW_14.out.size)
 clear Ha_14 Hx_14 Hb_14 Hy_14 Hc_14 Hr_14 Hz_14 Hw_14 HW_14
 clear hbx hbb hI hN hI2 hb2 
 go_upto_region 21 with fail
 generalize hWW : w15.alloc (.cells #[.int .i64 mw.id,.int .i64 mw.n,.slice Dq.ra mw.rows.length Dq.rc,.slice Dq.sa mw.sung.length Dq.sc,.bool mw.done] 27) = W15 at *
 generalize w15.heap.size = oq at *
 clear hWW
 have CL : ∀ q : Bk W15,Calls Tryz.prog 19 #[mbV Dw mw,mbV Dq mw] q.w fun e w' => e = .returned (.bool true) ∧ Below q.w.heap.size q.w w' := fun q => likeMb_any Dw Dq mw q.w (Hw_15.out.below q.h).mbs (Hq_15.out.below q.h).mbs
 have CN : md = true → ∀ q : Bk W15,Calls Tryz.prog 20 #[mbV Dw mw] q.w fun e w' => e = .returned (.bool true) ∧ Below q.w.heap.size q.w w' := fun h q => by
  have hk : okMb mw = true := by rw [hxe_w.out.1];exact new_okM (by rw [← hxe_w.out.2];exact h)
  have := hMo Dw mw q.w ((Hw_15.out.below q.h).mbp (okMb_p64 hk).1 (okMb_p64 hk).2)
  rw [hk] at this
  exact this
 unfold mbV mbC at CL CN
 have T : ∀ {x v},W15.cell? x = some v → ∀ q : Bk W15,q.w.cell? x = some v := fun h q => (q.h.cell (World.block_lt_of_cell? _ _ h)).trans h
 obtain ⟨c0,c1,c2,c3,c4⟩ := Bx.r5 Hw_15.out.box
 have pc0 := T c0
 have pc1 := T c1
 have pc2 := T c2
 have pc3 := T c3
 have pc4 := T c4
 clear c0 c1 c2 c3 c4
 obtain ⟨d0,d1,d2,d3,d4⟩ := Bx.r5 Hq_15.out.box
 have pd0 := T d0
 have pd1 := T d1
 have pd2 := T d2
 have pd3 := T d3
 have pd4 := T d4
 clear d0 d1 d2 d3 d4
 clear T
 obtain ⟨c0,c1,c2,c3,c4⟩ := Bx.r5 Hw_15.out.box
 obtain ⟨d0,d1,d2,d3,d4⟩ := Bx.r5 Hq_15.out.box
 go_cut [152] from 136 to 152 (fun v X => v = .bool false ∧ Below W15.heap.size W15 X)
 case first =>
  cases md with
  | false =>
   clear CN
   go_wp2_with fail
   refine (bk_call (⟨W15,Below.refl _ _⟩ : Bk W15) (CL (⟨W15,Below.refl _ _⟩ : Bk W15))).mono ?_
   rintro e _ ⟨rfl,q1,rfl⟩
   clear c0 c1 c2 c3 c4 d0 d1 d2 d3 d4 CL
   go_wp2_with fail
   go_meet
   case rel => exact ⟨rfl,q1.h⟩
  | true =>
   have CO := CN rfl
   clear CN
   go_wp2_with fail
   refine (bk_call (⟨W15,Below.refl _ _⟩ : Bk W15) (CL (⟨W15,Below.refl _ _⟩ : Bk W15))).mono ?_
   rintro e _ ⟨rfl,q1,rfl⟩
   clear c0 c1 c2 c3 c4 d0 d1 d2 d3 d4 CL
   go_wp2_with fail
   refine (bk_call q1 (CO q1)).mono ?_
   rintro e _ ⟨rfl,q2,rfl⟩
   clear CO
   go_wp2_with fail
   go_meet
   case rel => exact ⟨rfl,q2.h⟩
 case rest =>
 obtain ⟨rfl,hbc⟩ := hcut
 clear CL CN c0 c1 c2 c3 c4 d0 d1 d2 d3 d4 pc0 pc1 pc2 pc3 pc4 pd0 pd1 pd2 pd3 pd4 Hq_15 Hw_15 hxe_w hxs_w
 have Ha_16 : Hid (Mx wc oa A ma) := Ha_15.out.below hbc
 have Hx_16 : Hid (Mx wc ox Ax mx) := Hx_15.out.below hbc
 have Hb_16 : Hid (Mx wc ob B mb) := Hb_15.out.below hbc
 have Hy_16 : Hid (Mx wc oy By my) := Hy_15.out.below hbc
 have Hc_16 : Hid (Mx wc oc C mc) := Hc_15.out.below hbc
 have Hr_16 : Hid (Rx wc orr Ar r) := Hr_15.out.below hbc
 have Hz_16 : Hid (Mx wc oz Cz mz) := Hz_15.out.below hbc
 have HW_16 : Hid (Below w.heap.size w wc) := HW_15.out.trans (hbc.mono HW_15.out.size)
 clear Ha_15 Hx_15 Hb_15 Hy_15 Hc_15 Hr_15 Hz_15 HW_15
 clear hbc
 generalize wc = W16 at *
 go_upto_region 23 with fail
 obtain ⟨kb,hkb⟩ : ∃ k,Hid (k = okMb mb) := ⟨_,rfl⟩
 obtain ⟨kc,hkc⟩ : ∃ k,Hid (k = okMb mc) := ⟨_,rfl⟩
 have CSa : ∀ q : Bk W16,Calls Tryz.prog 21 #[mbV A ma] q.w fun e w' => e = .returned (.bool ka) ∧ Below q.w.heap.size q.w w' := fun q => by
  have := mbkS_any A ma q.w (Ha_16.out.below q.h).mbs
  rw [← hka.out] at this
  exact this
 have CMa : ka = true → ∀ q : Bk W16,Calls Tryz.prog 20 #[mbV Ax mx] q.w fun e w' => e = .returned (.bool true) ∧ Below q.w.heap.size q.w w' := fun h q => by
  have hk : okMb mx = true := by rw [hxe_x.out.1];exact (sayM_ok (hka.out.symm.trans h)).1
  have := hMo Ax mx q.w ((Hx_16.out.below q.h).mbp (okMb_p64 hk).1 (okMb_p64 hk).2)
  rw [hk] at this
  exact this
 have CLa : ka = true → sd = false → ∀ q : Bk W16,Calls Tryz.prog 19 #[mbV Ax mx,mbV A ma] q.w fun e w' => e = .returned (.bool true) ∧ Below q.w.heap.size q.w w' := fun h hf2 q => by
  have h1 := (Hx_16.out.below q.h).mbs
  have h2 := (Ha_16.out.below q.h).mbs
  rw [show mx = ma by rw [hxe_x.out.1];exact (sayM_ok (hka.out.symm.trans h)).2 (hxe_x.out.2.symm.trans hf2)] at h1 ⊢
  exact likeMb_any Ax A ma q.w h1 h2
 have CSb : ∀ q : Bk W16,Calls Tryz.prog 21 #[mbV B mb] q.w fun e w' => e = .returned (.bool kb) ∧ Below q.w.heap.size q.w w' := fun q => by
  have := mbkS_any B mb q.w (Hb_16.out.below q.h).mbs
  rw [← hkb.out] at this
  exact this
 have CMb : kb = true → ∀ q : Bk W16,Calls Tryz.prog 20 #[mbV By my] q.w fun e w' => e = .returned (.bool true) ∧ Below q.w.heap.size q.w w' := fun h q => by
  have hk : okMb my = true := by rw [hxe_y.out.1];exact (dbtM_ok (hkb.out.symm.trans h)).1
  have := hMo By my q.w ((Hy_16.out.below q.h).mbp (okMb_p64 hk).1 (okMb_p64 hk).2)
  rw [hk] at this
  exact this
 have CLb : kb = true → dd = false → ∀ q : Bk W16,Calls Tryz.prog 19 #[mbV By my,mbV B mb] q.w fun e w' => e = .returned (.bool true) ∧ Below q.w.heap.size q.w w' := fun h hf2 q => by
  have h1 := (Hy_16.out.below q.h).mbs
  have h2 := (Hb_16.out.below q.h).mbs
  rw [show my = mb by rw [hxe_y.out.1];exact (dbtM_ok (hkb.out.symm.trans h)).2 (hxe_y.out.2.symm.trans hf2)] at h1 ⊢
  exact likeMb_any By B mb q.w h1 h2
 have CSc : ∀ q : Bk W16,Calls Tryz.prog 21 #[mbV C mc] q.w fun e w' => e = .returned (.bool kc) ∧ Below q.w.heap.size q.w w' := fun q => by
  have := mbkS_any C mc q.w (Hc_16.out.below q.h).mbs
  rw [← hkc.out] at this
  exact this
 have CMc : kc = true → ∀ q : Bk W16,Calls Tryz.prog 20 #[mbV Cz mz] q.w fun e w' => e = .returned (.bool true) ∧ Below q.w.heap.size q.w w' := fun h q => by
  have hk : okMb mz = true := by rw [hxe_z.out.1];exact (hrdM_ok (hkc.out.symm.trans h)).1
  have := hMo Cz mz q.w ((Hz_16.out.below q.h).mbp (okMb_p64 hk).1 (okMb_p64 hk).2)
  rw [hk] at this
  exact this
 have CLc : kc = true → hd = false → ∀ q : Bk W16,Calls Tryz.prog 19 #[mbV Cz mz,mbV C mc] q.w fun e w' => e = .returned (.bool true) ∧ Below q.w.heap.size q.w w' := fun h hf2 q => by
  have h1 := (Hz_16.out.below q.h).mbs
  have h2 := (Hc_16.out.below q.h).mbs
  rw [show mz = mc by rw [hxe_z.out.1];exact (hrdM_ok (hkc.out.symm.trans h)).2 (hxe_z.out.2.symm.trans hf2)] at h1 ⊢
  exact likeMb_any Cz C mc q.w h1 h2
 unfold mbV mbC at CSa CSb CSc CMa CMb CMc CLa CLb CLc
 have T : ∀ {x v},W16.cell? x = some v → ∀ q : Bk W16,q.w.cell? x = some v := fun h q => (q.h.cell (World.block_lt_of_cell? _ _ h)).trans h
 obtain ⟨ca0,ca1,ca2,ca3,ca4⟩ := Bx.r5 Ha_16.out.box
 have pca0 := T ca0
 have pca1 := T ca1
 have pca2 := T ca2
 have pca3 := T ca3
 have pca4 := T ca4
 clear ca0 ca1 ca2 ca3 ca4
 obtain ⟨cx0,cx1,cx2,cx3,cx4⟩ := Bx.r5 Hx_16.out.box
 have pcx0 := T cx0
 have pcx1 := T cx1
 have pcx2 := T cx2
 have pcx3 := T cx3
 have pcx4 := T cx4
 clear cx0 cx1 cx2 cx3 cx4
 obtain ⟨cb0,cb1,cb2,cb3,cb4⟩ := Bx.r5 Hb_16.out.box
 have pcb0 := T cb0
 have pcb1 := T cb1
 have pcb2 := T cb2
 have pcb3 := T cb3
 have pcb4 := T cb4
 clear cb0 cb1 cb2 cb3 cb4
 obtain ⟨cy0,cy1,cy2,cy3,cy4⟩ := Bx.r5 Hy_16.out.box
 have pcy0 := T cy0
 have pcy1 := T cy1
 have pcy2 := T cy2
 have pcy3 := T cy3
 have pcy4 := T cy4
 clear cy0 cy1 cy2 cy3 cy4
 obtain ⟨cc0,cc1,cc2,cc3,cc4⟩ := Bx.r5 Hc_16.out.box
 have pcc0 := T cc0
 have pcc1 := T cc1
 have pcc2 := T cc2
 have pcc3 := T cc3
 have pcc4 := T cc4
 clear cc0 cc1 cc2 cc3 cc4
 obtain ⟨cz0,cz1,cz2,cz3,cz4⟩ := Bx.r5 Hz_16.out.box
 have pcz0 := T cz0
 have pcz1 := T cz1
 have pcz2 := T cz2
 have pcz3 := T cz3
 have pcz4 := T cz4
 clear cz0 cz1 cz2 cz3 cz4
 clear T
 obtain ⟨c0,c1,c2,c3,c4⟩ := Bx.r5 Ha_16.out.box
 go_cut [207] from 153 to 207 (fun v X => v = .bool false ∧ Below W16.heap.size W16 X)
 case first =>
  go_wp2_with fail
  refine (bk_call (⟨W16,Below.refl _ _⟩ : Bk W16) (CSa (⟨W16,Below.refl _ _⟩ : Bk W16))).mono ?_
  rintro e _ ⟨rfl,q1,rfl⟩
  clear c0 c1 c2 c3 c4
  clear CSa
  cases ka with
  | false =>
   clear CMa CLa
   go_wp2_with fail
   refine (bk_call q1 (CSb q1)).mono ?_
   rintro e _ ⟨rfl,q2,rfl⟩
   clear CSb
   cases kb with
   | false =>
    clear CMb CLb
    go_wp2_with fail
    refine (bk_call q2 (CSc q2)).mono ?_
    rintro e _ ⟨rfl,q3,rfl⟩
    clear CSc
    cases kc with
    | false =>
     clear CMc CLc
     go_wp2_with fail
     go_meet
     case rel => exact ⟨rfl,q3.h⟩
    | true =>
     have DM := CMc rfl
     have EL := CLc rfl
     clear CMc CLc
     go_wp2_with fail
     refine (bk_call q3 (DM q3)).mono ?_
     rintro e _ ⟨rfl,q4,rfl⟩
     clear DM
     cases hd with
     | true =>
      clear EL
      go_wp2_with fail
      go_meet
      case rel => exact ⟨rfl,q4.h⟩
     | false =>
      have DL := EL rfl
      clear EL
      go_wp2_with fail
      refine (bk_call q4 (DL q4)).mono ?_
      rintro e _ ⟨rfl,q5,rfl⟩
      clear DL
      go_wp2_with fail
      go_meet
      case rel => exact ⟨rfl,q5.h⟩
   | true =>
    have DM := CMb rfl
    have EL := CLb rfl
    clear CMb CLb
    go_wp2_with fail
    refine (bk_call q2 (DM q2)).mono ?_
    rintro e _ ⟨rfl,q3,rfl⟩
    clear DM
    cases dd with
    | true =>
     clear EL
     go_wp2_with fail
     refine (bk_call q3 (CSc q3)).mono ?_
     rintro e _ ⟨rfl,q4,rfl⟩
     clear CSc
     cases kc with
     | false =>
      clear CMc CLc
      go_wp2_with fail
      go_meet
      case rel => exact ⟨rfl,q4.h⟩
     | true =>
      have DM := CMc rfl
      have EL := CLc rfl
      clear CMc CLc
      go_wp2_with fail
      refine (bk_call q4 (DM q4)).mono ?_
      rintro e _ ⟨rfl,q5,rfl⟩
      clear DM
      cases hd with
      | true =>
       clear EL
       go_wp2_with fail
       go_meet
       case rel => exact ⟨rfl,q5.h⟩
      | false =>
       have DL := EL rfl
       clear EL
       go_wp2_with fail
       refine (bk_call q5 (DL q5)).mono ?_
       rintro e _ ⟨rfl,q6,rfl⟩
       clear DL
       go_wp2_with fail
       go_meet
       case rel => exact ⟨rfl,q6.h⟩
    | false =>
     have DL := EL rfl
     clear EL
     go_wp2_with fail
     refine (bk_call q3 (DL q3)).mono ?_
     rintro e _ ⟨rfl,q4,rfl⟩
     clear DL
     go_wp2_with fail
     refine (bk_call q4 (CSc q4)).mono ?_
     rintro e _ ⟨rfl,q5,rfl⟩
     clear CSc
     cases kc with
     | false =>
      clear CMc CLc
      go_wp2_with fail
      go_meet
      case rel => exact ⟨rfl,q5.h⟩
     | true =>
      have DM := CMc rfl
      have EL := CLc rfl
      clear CMc CLc
      go_wp2_with fail
      refine (bk_call q5 (DM q5)).mono ?_
      rintro e _ ⟨rfl,q6,rfl⟩
      clear DM
      cases hd with
      | true =>
       clear EL
       go_wp2_with fail
       go_meet
       case rel => exact ⟨rfl,q6.h⟩
      | false =>
       have DL := EL rfl
       clear EL
       go_wp2_with fail
       refine (bk_call q6 (DL q6)).mono ?_
       rintro e _ ⟨rfl,q7,rfl⟩
       clear DL
       go_wp2_with fail
       go_meet
       case rel => exact ⟨rfl,q7.h⟩
  | true =>
   have DM := CMa rfl
   have EL := CLa rfl
   clear CMa CLa
   go_wp2_with fail
   refine (bk_call q1 (DM q1)).mono ?_
   rintro e _ ⟨rfl,q2,rfl⟩
   clear DM
   cases sd with
   | true =>
    clear EL
    go_wp2_with fail
    refine (bk_call q2 (CSb q2)).mono ?_
    rintro e _ ⟨rfl,q3,rfl⟩
    clear CSb
    cases kb with
    | false =>
     clear CMb CLb
     go_wp2_with fail
     refine (bk_call q3 (CSc q3)).mono ?_
     rintro e _ ⟨rfl,q4,rfl⟩
     clear CSc
     cases kc with
     | false =>
      clear CMc CLc
      go_wp2_with fail
      go_meet
      case rel => exact ⟨rfl,q4.h⟩
     | true =>
      have DM := CMc rfl
      have EL := CLc rfl
      clear CMc CLc
      go_wp2_with fail
      refine (bk_call q4 (DM q4)).mono ?_
      rintro e _ ⟨rfl,q5,rfl⟩
      clear DM
      cases hd with
      | true =>
       clear EL
       go_wp2_with fail
       go_meet
       case rel => exact ⟨rfl,q5.h⟩
      | false =>
       have DL := EL rfl
       clear EL
       go_wp2_with fail
       refine (bk_call q5 (DL q5)).mono ?_
       rintro e _ ⟨rfl,q6,rfl⟩
       clear DL
       go_wp2_with fail
       go_meet
       case rel => exact ⟨rfl,q6.h⟩
    | true =>
     have DM := CMb rfl
     have EL := CLb rfl
     clear CMb CLb
     go_wp2_with fail
     refine (bk_call q3 (DM q3)).mono ?_
     rintro e _ ⟨rfl,q4,rfl⟩
     clear DM
     cases dd with
     | true =>
      clear EL
      go_wp2_with fail
      refine (bk_call q4 (CSc q4)).mono ?_
      rintro e _ ⟨rfl,q5,rfl⟩
      clear CSc
      cases kc with
      | false =>
       clear CMc CLc
       go_wp2_with fail
       go_meet
       case rel => exact ⟨rfl,q5.h⟩
      | true =>
       have DM := CMc rfl
       have EL := CLc rfl
       clear CMc CLc
       go_wp2_with fail
       refine (bk_call q5 (DM q5)).mono ?_
       rintro e _ ⟨rfl,q6,rfl⟩
       clear DM
       cases hd with
       | true =>
        clear EL
        go_wp2_with fail
        go_meet
        case rel => exact ⟨rfl,q6.h⟩
       | false =>
        have DL := EL rfl
        clear EL
        go_wp2_with fail
        refine (bk_call q6 (DL q6)).mono ?_
        rintro e _ ⟨rfl,q7,rfl⟩
        clear DL
        go_wp2_with fail
        go_meet
        case rel => exact ⟨rfl,q7.h⟩
     | false =>
      have DL := EL rfl
      clear EL
      go_wp2_with fail
      refine (bk_call q4 (DL q4)).mono ?_
      rintro e _ ⟨rfl,q5,rfl⟩
      clear DL
      go_wp2_with fail
      refine (bk_call q5 (CSc q5)).mono ?_
      rintro e _ ⟨rfl,q6,rfl⟩
      clear CSc
      cases kc with
      | false =>
       clear CMc CLc
       go_wp2_with fail
       go_meet
       case rel => exact ⟨rfl,q6.h⟩
      | true =>
       have DM := CMc rfl
       have EL := CLc rfl
       clear CMc CLc
       go_wp2_with fail
       refine (bk_call q6 (DM q6)).mono ?_
       rintro e _ ⟨rfl,q7,rfl⟩
       clear DM
       cases hd with
       | true =>
        clear EL
        go_wp2_with fail
        go_meet
        case rel => exact ⟨rfl,q7.h⟩
       | false =>
        have DL := EL rfl
        clear EL
        go_wp2_with fail
        refine (bk_call q7 (DL q7)).mono ?_
        rintro e _ ⟨rfl,q8,rfl⟩
        clear DL
        go_wp2_with fail
        go_meet
        case rel => exact ⟨rfl,q8.h⟩
   | false =>
    have DL := EL rfl
    clear EL
    go_wp2_with fail
    refine (bk_call q2 (DL q2)).mono ?_
    rintro e _ ⟨rfl,q3,rfl⟩
    clear DL
    go_wp2_with fail
    refine (bk_call q3 (CSb q3)).mono ?_
    rintro e _ ⟨rfl,q4,rfl⟩
    clear CSb
    cases kb with
    | false =>
     clear CMb CLb
     go_wp2_with fail
     refine (bk_call q4 (CSc q4)).mono ?_
     rintro e _ ⟨rfl,q5,rfl⟩
     clear CSc
     cases kc with
     | false =>
      clear CMc CLc
      go_wp2_with fail
      go_meet
      case rel => exact ⟨rfl,q5.h⟩
     | true =>
      have DM := CMc rfl
      have EL := CLc rfl
      clear CMc CLc
      go_wp2_with fail
      refine (bk_call q5 (DM q5)).mono ?_
      rintro e _ ⟨rfl,q6,rfl⟩
      clear DM
      cases hd with
      | true =>
       clear EL
       go_wp2_with fail
       go_meet
       case rel => exact ⟨rfl,q6.h⟩
      | false =>
       have DL := EL rfl
       clear EL
       go_wp2_with fail
       refine (bk_call q6 (DL q6)).mono ?_
       rintro e _ ⟨rfl,q7,rfl⟩
       clear DL
       go_wp2_with fail
       go_meet
       case rel => exact ⟨rfl,q7.h⟩
    | true =>
     have DM := CMb rfl
     have EL := CLb rfl
     clear CMb CLb
     go_wp2_with fail
     refine (bk_call q4 (DM q4)).mono ?_
     rintro e _ ⟨rfl,q5,rfl⟩
     clear DM
     cases dd with
     | true =>
      clear EL
      go_wp2_with fail
      refine (bk_call q5 (CSc q5)).mono ?_
      rintro e _ ⟨rfl,q6,rfl⟩
      clear CSc
      cases kc with
      | false =>
       clear CMc CLc
       go_wp2_with fail
       go_meet
       case rel => exact ⟨rfl,q6.h⟩
      | true =>
       have DM := CMc rfl
       have EL := CLc rfl
       clear CMc CLc
       go_wp2_with fail
       refine (bk_call q6 (DM q6)).mono ?_
       rintro e _ ⟨rfl,q7,rfl⟩
       clear DM
       cases hd with
       | true =>
        clear EL
        go_wp2_with fail
        go_meet
        case rel => exact ⟨rfl,q7.h⟩
       | false =>
        have DL := EL rfl
        clear EL
        go_wp2_with fail
        refine (bk_call q7 (DL q7)).mono ?_
        rintro e _ ⟨rfl,q8,rfl⟩
        clear DL
        go_wp2_with fail
        go_meet
        case rel => exact ⟨rfl,q8.h⟩
     | false =>
      have DL := EL rfl
      clear EL
      go_wp2_with fail
      refine (bk_call q5 (DL q5)).mono ?_
      rintro e _ ⟨rfl,q6,rfl⟩
      clear DL
      go_wp2_with fail
      refine (bk_call q6 (CSc q6)).mono ?_
      rintro e _ ⟨rfl,q7,rfl⟩
      clear CSc
      cases kc with
      | false =>
       clear CMc CLc
       go_wp2_with fail
       go_meet
       case rel => exact ⟨rfl,q7.h⟩
      | true =>
       have DM := CMc rfl
       have EL := CLc rfl
       clear CMc CLc
       go_wp2_with fail
       refine (bk_call q7 (DM q7)).mono ?_
       rintro e _ ⟨rfl,q8,rfl⟩
       clear DM
       cases hd with
       | true =>
        clear EL
        go_wp2_with fail
        go_meet
        case rel => exact ⟨rfl,q8.h⟩
       | false =>
        have DL := EL rfl
        clear EL
        go_wp2_with fail
        refine (bk_call q8 (DL q8)).mono ?_
        rintro e _ ⟨rfl,q9,rfl⟩
        clear DL
        go_wp2_with fail
        go_meet
        case rel => exact ⟨rfl,q9.h⟩
 case rest =>
 obtain ⟨rfl,hbc⟩ := hcut
 clear CSa CSb CSc CMa CMb CMc CLa CLb CLc c0 c1 c2 c3 c4 pca0 pca1 pca2 pca3 pca4 pcx0 pcx1 pcx2 pcx3 pcx4 pcb0 pcb1 pcb2 pcb3 pcb4 pcy0 pcy1 pcy2 pcy3 pcy4 pcc0 pcc1 pcc2 pcc3 pcc4 pcz0 pcz1 pcz2 pcz3 pcz4 hka hkb hkc
 have Ha_17 : Hid (Mx wc oa A ma) := Ha_16.out.below hbc
 have Hx_17 : Hid (Mx wc ox Ax mx) := Hx_16.out.below hbc
 have Hb_17 : Hid (Mx wc ob B mb) := Hb_16.out.below hbc
 have Hy_17 : Hid (Mx wc oy By my) := Hy_16.out.below hbc
 have Hc_17 : Hid (Mx wc oc C mc) := Hc_16.out.below hbc
 have Hr_17 : Hid (Rx wc orr Ar r) := Hr_16.out.below hbc
 have Hz_17 : Hid (Mx wc oz Cz mz) := Hz_16.out.below hbc
 have HW_17 : Hid (Below w.heap.size w wc) := HW_16.out.trans (hbc.mono HW_16.out.size)
 clear Ha_16 Hx_16 Hb_16 Hy_16 Hc_16 Hr_16 Hz_16 HW_16
 clear hbc
 generalize wc = W17 at *
 go_upto_if 208 with fail
 go_cut [28] from 209 to 237 (fun _ X => Below W17.heap.size W17 X)
 case first =>
  cases sd with
  | false =>
   go_wp2
   go_meet
   case rel => exact Below.refl _ _
  | true =>
   obtain ⟨i,n',ok,okx,htx⟩ := sayM_true hxe_x.out.2.symm
   rw [← hxe_x.out.1] at okx htx
   have hil : i < ma.rows.length := by rw [ok.len];exact ok.lt
   have hxl : i < mx.rows.length := by rw [okx.len];exact ok.lt
   have i0 : (0 : Int) ≤ (i : Int) := by omega
   have i1 : (i : Int) < (ma.rows.length : Int) := by omega
   have i2 : (i : Int) < (mx.rows.length : Int) := by omega
   obtain ⟨g,off,Ak,ea,⟨⟨d0,d1,d2,d3⟩,d4,d5,d6,d7⟩,hrs⟩ := Ha_17.out.rwp hil (ok.rw64 hil).1 (ok.rw64 hil).2
   obtain ⟨g',off',Bk9,eb,⟨⟨y0,y1,y2,y3⟩,y4,y5,y6,y7⟩,hrx⟩ := Hx_17.out.rwp hxl (okx.rw64 hxl).1 (okx.rw64 hxl).2
   obtain ⟨c0,c1,c2,c3,c4⟩ := Bx.r5 Ha_17.out.box
   obtain ⟨e0,e1,e2,e3,e4⟩ := Bx.r5 Hx_17.out.box
   rw [ea] at c2
   rw [eb] at e2
   rw [ok.hid] at c0
   rw [okx.hid] at e0
   have htl := (ok.ok i ok.lt).tl
   obtain ⟨tb,tof,hta,htc⟩ : ∃ b off,Bk9.ta = some ⟨b,off,none⟩ ∧ ∀ j,j < (rowN mx.rows i).txt.length → W17.cell? ⟨b,off + j,none⟩ = some (.string (sv ((rowN mx.rows i).txt.getD j []))) := by
    rcases hrx.txt.txs with h | h
    ·rw [htx,List.length_append] at h;simp at h
    ·exact h
   have hct := htc (rowN ma.rows i).txt.length (by rw [htx,List.length_append];simp)
   have hPL : (rowN mx.rows i).txt.length = (rowN ma.rows i).txt.length + 1 := by rw [htx,List.length_append];rfl
   have hg : (rowN mx.rows i).txt.getD (rowN ma.rows i).txt.length [] = t := by rw [htx];simp
   rw [hg] at hct
   rw [hta] at y1
   clear hg hta htc htx hrs hrx ea eb ok okx hil hxl hxe_x hxe_y hxe_z d0 d2 d3 d4 d5 d6 d7 y0 y2 y3 y4 y5 y6 y7 c1 c3 c4 e1 e3 e4
   generalize (rowN mx.rows i).txt.length = Pn at *
   generalize (rowN ma.rows i).txt.length = L at *
   obtain ⟨wk1,wk2,l0,l1⟩ := wk_ab hPL htl
   have nP : ((Pn : Int) != (Pn : Int)) = false := bne_self_eq_false _
   have nt : ((sv t).toList == (sv t).toList) = true := by simp
   clear hPL htl
   go_wp2_with fail
   go_meet
   case rel => exact Below.refl _ _
 case rest =>
 have hbc := hcut
 clear hcut hxe_x hxs_x Ha_17 Hx_17
 have Hb_18 : Hid (Mx wc ob B mb) := Hb_17.out.below hbc
 have Hy_18 : Hid (Mx wc oy By my) := Hy_17.out.below hbc
 have Hc_18 : Hid (Mx wc oc C mc) := Hc_17.out.below hbc
 have Hr_18 : Hid (Rx wc orr Ar r) := Hr_17.out.below hbc
 have Hz_18 : Hid (Mx wc oz Cz mz) := Hz_17.out.below hbc
 have HW_18 : Hid (Below w.heap.size w wc) := HW_17.out.trans (hbc.mono HW_17.out.size)
 clear Hb_17 Hy_17 Hc_17 Hr_17 Hz_17 HW_17
 clear hbc
 generalize wc = W18 at *
 go_upto_region 29 with fail
 go_cut [260] from 238 to 260 (fun v X => v = .bool false ∧ Below W18.heap.size W18 X)
 case first =>
  cases dd with
  | false =>
   go_wp2_with fail
   go_meet
   case rel => exact ⟨rfl,Below.refl _ _⟩
  | true =>
   obtain ⟨i,n',ok,hwh,hwd⟩ := dbtM_true hxe_y.out.2.symm
   rw [← hxe_y.out.1] at ok hwh hwd
   have hil : i < my.rows.length := by rw [ok.len];exact ok.lt
   have i0 : (0 : Int) ≤ (i : Int) := by omega
   have i1 : (i : Int) < (my.rows.length : Int) := by omega
   obtain ⟨g,off,Ak,ea,⟨⟨d0,d1,d2,d3⟩,d4,d5,d6,d7⟩,hrs⟩ := Hy_18.out.rwp hil (ok.rw64 hil).1 (ok.rw64 hil).2
   obtain ⟨c0,c1,c2,c3,c4⟩ := Bx.r5 Hy_18.out.box
   rw [ea] at c2
   rw [ok.hid] at c0
   rw [hwd] at d4
   have CH : ∀ q : Bk W18,Calls Tryz.prog 25 #[.slice Ak.sa (rowN my.rows i).sus.length Ak.sc,.int .i64 who] q.w fun e w' => e = .returned (.bool true) ∧ Below q.w.heap.size q.w w' := fun q => by
    have := has17_any Ak.sa Ak.sc who (rowN my.rows i).sus q.w (hrs.below q.h).sus.vec (hrs.below q.h).rws.ms
    rw [decide_eq_true hwh] at this
    exact this
   have T : ∀ {x v},W18.cell? x = some v → ∀ q : Bk W18,q.w.cell? x = some v := fun h q => (q.h.cell (World.block_lt_of_cell? _ _ h)).trans h
   have pc0 := T c0
   have pc2 := T c2
   have pd3 := T d3
   have pd4 := T d4
   clear T hwh hwd ea ok hil hrs hxe_y hxe_z d0 d1 d2 d5 d6 d7 c1 c3 c4
   go_wp2_with fail
   refine (bk_call (⟨W18,Below.refl _ _⟩ : Bk W18) (CH (⟨W18,Below.refl _ _⟩ : Bk W18))).mono ?_
   rintro e _ ⟨rfl,q1,rfl⟩
   clear CH c0 c2 d3 d4
   go_wp2_with fail
   go_meet
   case rel => exact ⟨rfl,q1.h⟩
 case rest =>
 obtain ⟨rfl,hbc⟩ := hcut
 clear hxe_y hxs_y Hb_18 Hy_18
 have Hc_19 : Hid (Mx wc oc C mc) := Hc_18.out.below hbc
 have Hr_19 : Hid (Rx wc orr Ar r) := Hr_18.out.below hbc
 have Hz_19 : Hid (Mx wc oz Cz mz) := Hz_18.out.below hbc
 have HW_19 : Hid (Below w.heap.size w wc) := HW_18.out.trans (hbc.mono HW_18.out.size)
 clear Hc_18 Hr_18 Hz_18 HW_18
 clear hbc
 generalize wc = W19 at *
 go_upto_region 31 with fail
 cases hd with
 | false =>
  clear hxe_z
  refine wp_region_bk (by kernel_rfl) (by kernel_rfl) ?_
  repeat (go_big_quiet_step ((first | (go_at_call 25;exact bk_call _ (hmix _)) | rfl)))
  refine wpQuiet_nil ?_
  intro wE hw'
  obtain ⟨⟨w11,hb11⟩,hw''⟩ := hw'
  have hwe : wE = w11 := hw''
  clear hw''
  subst hwe
  have HE : Hid (Below w.heap.size w wE) := HW_19.out.trans (hb11.mono HW_19.out.size)
  clear hb11
  go_wp2
  go_ret
  exact ⟨rfl,HE.out⟩
 | true =>
  obtain ⟨j,i,n',rfl,hjn,ok,hrow⟩ := hrdM_true hxe_z.out.2.symm
  rw [← hxe_z.out.1] at ok hrow
  have hil : j < mz.rows.length := by rw [ok.len];exact hjn
  have i0 : (0 : Int) ≤ (j : Int) := by omega
  have i1 : (j : Int) < (mz.rows.length : Int) := by omega
  obtain ⟨g,off,Ak,ea,⟨⟨d0,d1,d2,d3⟩,d4,d5,d6,d7⟩,hrs⟩ := Hz_19.out.rwp hil (ok.rw64 hil).1 (ok.rw64 hil).2
  obtain ⟨c0,c1,c2,c3,c4⟩ := Bx.r5 Hz_19.out.box
  rw [ea] at c2
  rw [hrow] at hrs d0 d1 d2 d3 d4 d5 d6 d7
  have CL : ∀ q : Bk W19,Calls Tryz.prog 26 #[rwV Ak r,rwV Ar r] q.w fun e w' => e = .returned (.bool true) ∧ Below q.w.heap.size q.w w' := fun q => (likeRw_any Ak Ar r q.w (hrs.below q.h).rws (Hr_19.out.below q.h).rwp.rws).mono (fun e w' h => ⟨h.1,h.2.1⟩)
  unfold rwV rwC at CL
  have T : ∀ {x v},W19.cell? x = some v → ∀ q : Bk W19,q.w.cell? x = some v := fun h q => (q.h.cell (World.block_lt_of_cell? _ _ h)).trans h
  have pg0 := T (Hr_19.out.box.at 0 rfl)
  have pg1 := T (Hr_19.out.box.at 1 rfl)
  have pg2 := T (Hr_19.out.box.at 2 rfl)
  have pg3 := T (Hr_19.out.box.at 3 rfl)
  have pg4 := T (Hr_19.out.box.at 4 rfl)
  have pg5 := T (Hr_19.out.box.at 5 rfl)
  have pg6 := T (Hr_19.out.box.at 6 rfl)
  have pg7 := T (Hr_19.out.box.at 7 rfl)
  have pd0 := T d0
  have pd1 := T d1
  have pd2 := T d2
  have pd3 := T d3
  have pd4 := T d4
  have pd5 := T d5
  have pd6 := T d6
  have pd7 := T d7
  have pc2 := T c2
  clear T hrow ea ok hil hrs hjn hxe_z d0 d1 d2 d3 d4 d5 d6 d7 c0 c1 c3 c4 c2
  refine wp_region_bk (by kernel_rfl) (by kernel_rfl) ?_
  repeat (go_big_quiet_step ((first | (go_at_call 26;exact bk_call _ (CL _)) | rfl)))
  refine wpQuiet_nil ?_
  intro wE hw'
  obtain ⟨⟨w11,hb11⟩,hw''⟩ := hw'
  have hwe : wE = w11 := hw''
  clear hw''
  subst hwe
  clear CL pc2 pd0 pd1 pd2 pd3 pd4 pd5 pd6 pd7 pg0 pg1 pg2 pg3 pg4 pg5 pg6 pg7
  have HE : Hid (Below w.heap.size w wE) := HW_19.out.trans (hb11.mono HW_19.out.size)
  clear hb11
  go_wp2
  go_ret
  exact ⟨rfl,HE.out⟩
end Go.Proofs.YthioodpmgifomaaGreat
namespace Go.Proofs.YthioodpmgifomaaGreat
set_option linter.unusedSimpArgs false
set_option linter.unusedVariables false
open Go.RowKit
theorem IsRow.bvec {w : World} {a : Option Addr} {len cap : Nat} {zs : List Int} (h : IsRow .u8 w a len cap zs) : BVec w a len (fun i => zs.getD i 0) := by
 rcases h with ⟨rfl,rfl,rfl,rfl⟩ | ⟨x,rfl,hl,hm,hz,hcell,hwz⟩
 ·exact ⟨fun i hi => absurd hi (Nat.not_lt_zero _),.inl rfl⟩
 ·refine ⟨fun i hi => ?_, ?_⟩
  ·have := bounds_u8 (hwz (zs.getD i 0) (by
    have hi' : i < zs.length := by omega
    simp [hi']))
   omega
  ·by_cases h0 : len = 0
   ·exact .inl h0
   ·obtain ⟨b,off,spot⟩ := x
    have hc := hcell 0 (by omega)
    have hspot : spot = none := by simpa [Addr.add] using World.cell?_spot hc
    subst hspot
    refine .inr ⟨b,off,rfl,fun i hi => ?_⟩
    have := hcell i (by omega)
    by_cases hi0 : i = 0
    ·subst hi0;simpa [Addr.add] using this
    ·simpa [Addr.add,hi0] using this
end Go.Proofs.YthioodpmgifomaaGreat