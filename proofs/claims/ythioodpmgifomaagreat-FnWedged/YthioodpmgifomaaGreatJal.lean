/-
  Texts in one: Mdb Mdc Mdd Rzl Mde Hrs Mdf LawWd Bvd Nmf Nms.
-/
import Derived.Test.YthioodpmgifomaaGreatJak
import Derived.Test.YthioodpmgifomaaGreatJae
import Derived.Test.YthioodpmgifomaaGreatJaj
import Derived.Test.YthioodpmgifomaaGreatJac
import Derived.Test.YthioodpmgifomaaGreatJaa
import Derived.Test.YthioodpmgifomaaGreatJab
import Derived.Test.YthioodpmgifomaaGreatJaf
import Derived.Deep.CutRange
import Derived.Lib.Overlaps
import Derived.Lib.AppendZerosOnto
import Derived.Lib.SlicesSearch
import Derived.Lib.JoinLaws
import Derived.Lib.SliceRun
import Derived.Laws.IdiomCopy
import Derived.Laws.NewBlocks
import Derived.Laws.Externs
import Derived.Deep.LoopGhost
import Derived.Deep.Draws
import Derived.Lib.Walk
import Derived.Shelf.RegionOpenPlain
namespace Go.Proofs.YthioodpmgifomaaGreat
set_option linter.unusedVariables false
set_option linter.unusedSimpArgs false
open Go.RowKit Go.Sort
structure DmS (m : Mb) (n : Nat) : Prop where
 id' : -1 ≤ m.id ∧ m.id ≤ 7
 hn : m.n = (n : Int)
 n5 : 1 ≤ n ∧ n ≤ 5
 ok : ∀ r ∈ m.rows,OkR r n
 rl : m.rows.length ≤ 5
 sl : m.sung.length ≤ 61
 sg : ∀ x ∈ m.sung,-1 ≤ x ∧ x ≤ 62
 vb : Vb m 13
theorem OkM.dms {m : Mb} {i n : Nat} (h : OkM m i n) (hv : Vb m 13) : DmS m n := by
 have h5 := h.n5
 have hl := h.lt
 exact ⟨by rw [h.hid];omega,h.hn,h5,h.rowOk,by rw [h.len];omega,by have := h.sl;omega,fun x hx => by have := h.elem hx;omega,hv⟩
theorem DmS.own {m : Mb} {n : Nat} (h : DmS m n) (hok : okMb m = true) : m.own.ver < 1000000 := by
 have := h.vb.row (by omega) m.i
 unfold Mb.own
 omega
theorem DmS.fit {m : Mb} {n : Nat} (h : DmS m n) : FitM m := ⟨fun r hr => (h.ok r hr).fit,fun x hx => by have := h.sg x hx;omega⟩
theorem DmS.i64 {m : Mb} {n : Nat} (h : DmS m n) : Mb64 m := by
 have h1 := h.id'
 have h5 := h.n5
 refine ⟨⟨by omega,by omega⟩,⟨by rw [h.hn];omega,by rw [h.hn];omega⟩,fun r hr => ?_⟩
 have hr := h.ok r hr
 have hv := hr.ver
 cases e : r.rdy with
 | true => have := (hr.rdy e).2.1;exact ⟨⟨by omega,by omega⟩,by omega,by omega⟩
 | false => rw [Rw64,(hr.not e).1];exact ⟨⟨by omega,by omega⟩,by omega,by omega⟩
theorem DmS.sz {m : Mb} {n : Nat} (h : DmS m n) : szMb m ≤ 1048576 := by
 have e2 : szP m.rows m.rows.length ≤ 300 * m.rows.length := by
  unfold szP
  rw [List.take_length]
  exact sum_le szRw 300 m.rows (fun r hr => (h.ok r hr).c8.2)
 have := h.rl
 have := h.sl
 unfold szMb szRs
 omega
theorem ow_tailF {α : Type} {F : α → List Cel} {s : Nat} (hF : ∀ x,(F x).length = s) (hs : 0 < s) {w : World} {x : α} {xs : List α} {g off c : Nat} {f : Fp} (h : Cel.ow w (lcl s F (x :: xs)) (.slice (some ⟨g,off,none⟩) (xs.length + 1) c) f) :
  (c = 1 → Cel.ow w (lcl s F xs) (.slice (some ⟨g,off,none⟩) 0 0) (fun _ => False) ∧ xs = []) ∧ (1 < c → ∃ f',Cel.ow w (lcl s F xs) (.slice (some ⟨g,off + s,none⟩) xs.length (c - 1)) f' ∧ ∀ b,f' b → f b) := by
 obtain ⟨a0,c0,us,G,f0,e,ho,hl,hn,hf⟩ := h
 cases e
 have hlen : (x :: xs).length = xs.length + 1 := rfl
 rw [hlen] at ho
 rcases ho with ⟨h0,_⟩ | ⟨g0,off0,e,ho,rfl⟩
 ·omega
 cases e
 have hle := ho.le
 refine ⟨fun hc => ?_,fun hc => ?_⟩
 ·have : xs = [] := List.eq_nil_of_length_eq_zero (by omega)
  subst this
  exact ⟨⟨_,0,[],none,fun _ => False,rfl,OSo.nil _ _ (plainS _ _),⟨rfl,fun _ h => h⟩,fun _ _ h => h,fun b => by simp⟩,rfl⟩
 ·rw [List.flatMap_cons] at hl
  obtain ⟨u1,u2,f1,f2,rfl,l1,l2,hd,hff⟩ := owL_split hl
  have hu1 : u1.length = s := by rw [owL_len l1,hF]
  refine ⟨fun b => some g = some b ∨ f2 b,⟨some ⟨g,off + s,none⟩,c - 1,u2,some g,f2,rfl,OSo.of ?_,l2,fun b hb hk => hn b hb ((hff b).2 (.inr hk)),fun b => Iff.rfl⟩,fun b hb => (hf b).2 (hb.imp id (fun h => (hff b).2 (.inr h)))⟩
  have hm : (xs.length + 1) * s = xs.length * s + s := by rw [Nat.add_mul,Nat.one_mul]
  have hlu := ho.len
  rw [List.length_append,hu1,hm] at hlu
  have hcs : (c - 1) * s + s = c * s := by
   have : c = (c - 1) + 1 := by omega
   rw [this,Nat.add_mul,Nat.one_mul]
   simp
  refine ⟨by omega,by omega,by have := ho.max;omega,ho.blk,fun i hi => ?_,fun i hi => ?_,fun i hi => ?_⟩
  ·have := ho.cell (s + i) (by rw [hm];omega)
   rw [show off + s + i = off + (s + i) by omega,this,List.getElem?_append_right (by omega),hu1]
   simp
  ·have := ho.some (s + i) (by omega)
   rwa [show off + s + i = off + (s + i) by omega]
  ·have := ho.free (s + i) (by omega)
   rwa [show off + s + i = off + (s + i) by omega]
set_option maxRecDepth 100000 in
set_option maxHeartbeats 6400000 in
theorem drawMa_any {w X : World} {p : Nat} {a : Option Addr} {len cap : Nat} {bs : Nat → Int} (h : Cc w X p a len cap bs) :
  Calls Tryz.prog 53 #[.pointer (some ⟨p,0,none⟩)] X fun e X' => ∃ m n,DmS m n ∧ AnsDm w X X' p a len cap bs e m := by
 have hmix := mixed17
 have hpX := h.lt
 have hwp := h.hp
 have b0 := oneA16 X (.cells #[.int .i64 0,.int .i64 0,.slice none 0 0,.slice none 0 0,.bool false] 27)
 have HR0 : Hid (Bx (X.alloc (.cells #[.int .i64 0,.int .i64 0,.slice none 0 0,.slice none 0 0,.bool false] 27)) X.heap.size 27 #[.int .i64 0,.int .i64 0,.slice none 0 0,.slice none 0 0,.bool false]) := Bx.new X _ _
 have HC0 : Hid (Cc w (X.alloc (.cells #[.int .i64 0,.int .i64 0,.slice none 0 0,.slice none 0 0,.bool false] 27)) p a len cap bs) := h.step b0
 have HG0 : Hid (X.grownBy (X.alloc (.cells #[.int .i64 0,.int .i64 0,.slice none 0 0,.slice none 0 0,.bool false] 27)) (some p)) := ⟨b0.os,b0.tape,b0.output,b0.size,fun x hx _ => b0.block x hx⟩
 have hX0 : X.heap.size < (X.alloc (.cells #[.int .i64 0,.int .i64 0,.slice none 0 0,.slice none 0 0,.bool false] 27)).heap.size := HR0.out.lt
 clear h b0
 generalize hWW : X.alloc (.cells #[.int .i64 0,.int .i64 0,.slice none 0 0,.slice none 0 0,.bool false] 27) = W0 at *
 have hD := drawMb_any HC0.out
 go_enter Tryz.func53,Tryz.ntmps53
 go_wp2_with fail
 refine hD.mono ?_
 rintro e W3 ⟨m0,⟨⟨i,n,hok⟩,hvb⟩,A,f0,rfl,hl,hf0,c3,g3⟩
 have HO0 : Hid (DmS m0 n) := hok.dms hvb
 have HN0 : Hid (m0.rows.length = n ∧ 1 ≤ n) := ⟨hok.len,hok.n5.1⟩
 have HSl : Hid (m0.sung.length ≤ 60) := hok.sl
 have hba := oneA16 W3 (.cells #[.int .i64 m0.id,.int .i64 m0.n,.slice A.ra m0.rows.length A.rc,.slice A.sa m0.sung.length A.sc,.bool m0.done] 27)
 have hxb := Bx.new W3 27 #[.int .i64 m0.id,.int .i64 m0.n,.slice A.ra m0.rows.length A.rc,.slice A.sa m0.sung.length A.sc,.bool m0.done]
 have hrl := (HR0.out.grown g3 (by simp;omega)).lt
 have hfl := owL_lt hl
 have HM : Hid (MD w X (W3.alloc (.cells #[.int .i64 m0.id,.int .i64 m0.n,.slice A.ra m0.rows.length A.rc,.slice A.sa m0.sung.length A.sc,.bool m0.done] 27)) p a len cap bs W3.heap.size m0 f0) := by
  refine ⟨c3.step hba,(HR0.out.grown g3 (by simp;omega)).below hba,box_plc hxb (owL_below hl hba) (fun k => by have := hfl _ k;omega),fun b hb => by have := hf0 b hb;omega,hpX,by omega, ?_⟩
  have hg2 : W3.grownBy (W3.alloc (.cells #[.int .i64 m0.id,.int .i64 m0.n,.slice A.ra m0.rows.length A.rc,.slice A.sa m0.sung.length A.sc,.bool m0.done] 27)) (some p) := ⟨hba.os,hba.tape,hba.output,hba.size,fun x hx _ => hba.block x hx⟩
  exact grown_trans (grown_trans HG0.out g3) hg2
 unfold mbV mbC
 clear hl hf0 hba hxb hok HR0 HC0 HG0 hfl c3 g3 hD
 go_wp2_with fail
 generalize W3.alloc (.cells #[.int .i64 m0.id,.int .i64 m0.n,.slice A.ra m0.rows.length A.rc,.slice A.sa m0.sung.length A.sc,.bool m0.done] 27) = W4 at *
 generalize W3.heap.size = o at *
 refine (onceC 12 HM.out.cc (by omega)).mono ?_
 rintro e W5 ⟨t,rfl,c5,g5⟩
 have HM5 : Hid (MD w X W5 p a len cap bs o m0 f0) := HM.out.drawn g5 c5
 clear c5 g5 HM
 go_upto_if 7 with fail
 go_cut [7] from 8 to 35 (fun _ wx => ∃ (m : Mb) (fp : Fp),DmS m n ∧ MD w X wx p a len cap bs o m fp)
 case first =>
  cases t with
  | false =>
   go_wp2
   go_meet
   case rel => exact ⟨m0,f0,HO0.out,HM5.out⟩
  | true =>
   have hB6 := belowC 4 4 rfl HM5.out.cc (by omega) (by omega)
   go_wp2_with fail
   refine hB6.mono ?_
   rintro e Y1 ⟨y,rfl,hy6,c6,g6⟩
   have HM1 : Hid (MD w X Y1 p a len cap bs o m0 f0) := HM5.out.drawn g6 c6
   clear c6 g6 hB6 HM5
   have hys : y = 0 ∨ y = 1 ∨ y = 2 ∨ y = 3 := by omega
   rcases hys with rfl | rfl | rfl | rfl
   ·have hF := fromC (-1) 7 (by omega) (by omega) (by omega) HM1.out.cc
    go_wp2_with fail
    refine hF.mono ?_
    rintro e Y2 ⟨x,rfl,hx1,hx2,c7,g7⟩
    have M2 := HM1.out.drawn g7 c7
    obtain ⟨v0,z0,hB⟩ := (Bcm.refl M2.plc).put (j := 0) (x := .int .i64 m0.id) rfl (.int .i64 x)
    obtain ⟨fp3,M3⟩ := M2.act (m' := { m0 with id := x }) hB
    simp only [Nat.zero_add] at v0 z0 M3
    have HE : Hid (∃ (m : Mb) (fp : Fp),DmS m n ∧ MD w X (Y2.setCell ⟨o,0,none⟩ (.int .i64 x)) p a len cap bs o m fp) := ⟨{ m0 with id := x },fp3,⟨⟨hx1,hx2⟩,HO0.out.hn,HO0.out.n5,HO0.out.ok,HO0.out.rl,HO0.out.sl,HO0.out.sg,HO0.out.vb⟩,M3⟩
    clear hF c7 g7 M2 hB M3 HM1
    go_wp2
    go_meet
    case rel => exact HE.out
   ·obtain ⟨gg,go,gc,M1w⟩ := Mw.start HM1.out.plc (by have := HN0.out;omega)
    obtain ⟨u,f,hu,hfz,how,hsub,hnB,hput⟩ := HM1.out.plc.at (j := 2) (c := lcl 8 rw8 m0.rows) rfl
    obtain rfl := Option.some.inj (hu.symm.trans M1w.rws)
    simp only [Nat.zero_add] at hu hfz hput
    obtain ⟨r0,R,hR⟩ : ∃ r0 R,m0.rows = r0 :: R := by
     cases e : m0.rows with
     | nil => have := HN0.out;rw [e] at this;simp at this;omega
     | cons r0 R => exact ⟨r0,R,rfl⟩
    have hl9 : m0.rows.length = R.length + 1 := by rw [hR];rfl
    have hcap : R.length + 1 ≤ gc := by
     have := how
     obtain ⟨_,_,_,_,_,e,ho,_⟩ := this
     cases e
     have := ho.le.1
     omega
    rw [hl9] at hu how
    rw [hR] at how
    have HD : Hid (∀ (u' : Value) (f' : Fp),Cel.ow Y1 (lcl 8 rw8 R) u' f' → (∀ b,f' b → f b) → ∃ (m : Mb) (fp : Fp),DmS m n ∧ MD w X (Y1.setCell ⟨o,2,none⟩ u') p a len cap bs o m fp) := fun u' f' h1 h2 => by
     obtain ⟨_,_,k3,_⟩ := hput Y1 (lcl 8 rw8 R) u' f' (Wrt.refl _ _) h1 (fun b hb => .inl (h2 b hb))
     obtain ⟨fp3,M3⟩ := HM1.out.act (m' := { m0 with rows := R }) k3
     exact ⟨{ m0 with rows := R },fp3,⟨HO0.out.id',HO0.out.hn,HO0.out.n5,fun r hr => HO0.out.ok r (by rw [hR];exact List.mem_cons_of_mem _ hr),by have := HO0.out.rl;simp only;omega,HO0.out.sl,HO0.out.sg,fun r hr => HO0.out.vb r (by rw [hR];exact List.mem_cons_of_mem _ hr)⟩,M3⟩
    have n1 : (1 : Int) ≤ ((R.length + 1 : Nat) : Int) := by omega
    have n2 : (1 : Int) ≤ (R.length : Int) + 1 := by omega
    obtain ⟨t1,t2⟩ := ow_tailF rw8_len (by omega) how
    by_cases hc1 : gc = 1
    ·subst hc1
     obtain ⟨k1,k2⟩ := t1 rfl
     subst k2
     have HE : Hid _ := HD.out _ _ k1 (fun b hb => hb.elim)
     clear hput how t1 t2 HD k1 HM1 M1w hR hl9
     go_wp2
     go_meet
     case rel => exact HE.out
    ·obtain ⟨f',k1,k2⟩ := t2 (by omega)
     have HE : Hid _ := HD.out _ f' k1 k2
     clear hput how t1 t2 HD k1 HM1 M1w hR hl9
     go_wp2
     go_meet
     case rel => exact HE.out
   ·obtain ⟨u,f,hu,hfz,how,hsub,hnB,hput⟩ := HM1.out.plc.at (j := 3) (c := icl m0.sung) rfl
    obtain ⟨sa,sc,_,rfl,_⟩ := ow_icl.1 how
    simp only [Nat.zero_add] at hu
    have hF := fromC (-1) 62 (by omega) (by omega) (by omega) (HM1.out.step (Same.drewN Y1 1).below).cc
    clear hfz how hput
    go_wp2_with fail
    refine gt_begin (S := fun X : World => X.cell? ⟨o,3,none⟩ = some (.slice sa m0.sung.length sc)) 7 hmix (by kernel_rfl) ?_
    have hHeld : (fun X : World => X.cell? ⟨o,3,none⟩ = some (.slice sa m0.sung.length sc)) Y1.drew := (hu)
    refine gt_take (i := 0) (v := ?_) rfl (by kernel_rfl) (by kernel_rfl) (by kernel_rfl) (by kernel_rfl) (fun _ _ _ h => h) (Or.inl ⟨by rfl, ?_⟩) hHeld ?_
    rotate_left
    ·(intro X hSX;(try dsimp only at hSX);have g0 := hSX;go_simp;try with_reducible rfl)
    try simp only [Act.put,List.setIfInBounds_toArray,List.set_cons_zero,List.set_cons_succ]
    refine gt_take (i := 1) (v := ?_) rfl (by kernel_rfl) (by kernel_rfl) (by kernel_rfl) (by kernel_rfl) (fun _ _ _ h => h) (Or.inl ⟨by rfl, ?_⟩) hHeld ?_
    rotate_left
    ·(intro X hSX;(try dsimp only at hSX);have g0 := hSX;go_simp;try with_reducible rfl)
    try simp only [Act.put,List.setIfInBounds_toArray,List.set_cons_zero,List.set_cons_succ]
    refine gt_pure (i := 2) (v := ?_) rfl (by kernel_rfl) (by kernel_rfl) (by kernel_rfl) (fun _ _ _ h => h) (Or.inl ⟨by rfl, ?_⟩) ?_
    rotate_left
    ·(intro X;go_simp;try with_reducible rfl)
    try simp only [Act.put,List.setIfInBounds_toArray,List.set_cons_zero,List.set_cons_succ]
    refine gt_one (i := 3) rfl (by kernel_rfl) (by kernel_rfl) (fun K hK => ?_)
    go_simp
    go_at_call 60
    refine hF.mono ?_
    rintro e Y2 ⟨x,rfl,hx1,hx2,c7,g7⟩
    have M2 := (HM1.out.step (Same.drewN Y1 1).below).drawn g7 c7
    obtain ⟨u,f,hu2,hfz,how,hsub,hnB,hput⟩ := M2.plc.at (j := 3) (c := icl m0.sung) rfl
    simp only [Nat.zero_add] at hu2 hput hfz
    have hu3 : Y2.cell? ⟨o,3,none⟩ = some (.slice sa m0.sung.length sc) := g7.cell (show (Y1.drewN 1).cell? ⟨o,3,none⟩ = _ from hu) (by have := HM1.out.hpo;have := HM1.out.ho;simp;omega)
    obtain rfl := Option.some.inj (hu2.symm.trans hu3)
    obtain ⟨a',c',ea,hA⟩ := ow_int_app x how (by have := HSl.out;omega)
    cases ea
    refine hK.out _ _ hu3 (fun hHeldN => ?_)
    clear hK hHeld
    have hHeld := hHeldN
    try simp only [Act.put,List.setIfInBounds_toArray,List.set_cons_zero,List.set_cons_succ]
    refine gt_one (i := 4) rfl (by kernel_rfl) (by kernel_rfl) (fun K hK => ?_)
    go_simp
    refine hK.out _ _ (((oneA16 Y2 (.cells #[.int .i64 x] 2)).cell (World.block_lt_of_cell? _ _ hu3)).trans hu3) (fun hHeldN => ?_)
    clear hK hHeld
    have hHeld := hHeldN
    try simp only [Act.put,List.setIfInBounds_toArray,List.set_cons_zero,List.set_cons_succ]
    refine gt_one (i := 5) rfl (by kernel_rfl) (by kernel_rfl) (fun K hK => ?_)
    refine step_append_of (by rfl) _ _ _ _ (by rfl) (.slice sa m0.sung.length sc) _ (by rfl) (by rfl) hA ⟨rfl,rfl,rfl,rfl⟩ ?_
    rintro v' w4 ⟨a4,c4,f4,rfl,q1,q2,q3⟩
    obtain ⟨k1,k2,k3,_⟩ := hput w4 (icl (m0.sung ++ [x])) _ f4 q3 q1 q2
    refine hK.out _ _ k1 (fun hHeldN => ?_)
    clear hK hHeld
    have hHeld := hHeldN
    try simp only [Act.put,List.setIfInBounds_toArray,List.set_cons_zero,List.set_cons_succ]
    refine gt_take (i := 6) (v := ?_) rfl (by kernel_rfl) (by kernel_rfl) (by kernel_rfl) (by kernel_rfl) (fun _ _ _ h => h) (Or.inl ⟨by rfl, ?_⟩) hHeld ?_
    rotate_left
    ·(intro X hSX;(try dsimp only at hSX);have g0 := hSX;go_simp;try with_reducible rfl)
    try simp only [Act.put,List.setIfInBounds_toArray,List.set_cons_zero,List.set_cons_succ]
    obtain ⟨fp3,M3⟩ := M2.act (m' := { m0 with sung := m0.sung ++ [x] }) k3
    have HE : Hid (∃ (m : Mb) (fp : Fp),DmS m n ∧ MD w X (w4.setCell ⟨o,3,none⟩ (.slice a4 (m0.sung.length + 1) c4)) p a len cap bs o m fp) := ⟨{ m0 with sung := m0.sung ++ [x] },fp3,⟨HO0.out.id',HO0.out.hn,HO0.out.n5,HO0.out.ok,HO0.out.rl,by have := HSl.out;simp;omega,fun y hy => by
     rcases List.mem_append.1 hy with h | h
     ·exact HO0.out.sg y h
     ·have : y = x := by simpa using h
      omega,HO0.out.vb⟩,M3⟩
    refine gt_last rfl (by kernel_rfl) (by kernel_rfl) (fun K hK => ?_)
    go_simp
    refine hK.out _ _ ?_
    clear hK hHeld hF c7 g7 M2 hA hput q1 q2 q3 k3 M3 HM1 how hu hu2 hu3
    go_wp2_with fail
    go_meet
    case rel => exact HE.out
   ·obtain ⟨v0,z0,hB⟩ := (Bcm.refl HM1.out.plc).put (j := 4) (x := .bool m0.done) rfl (.bool (!m0.done))
    obtain ⟨fp3,M3⟩ := HM1.out.act (m' := { m0 with done := !m0.done }) hB
    simp only [Nat.zero_add] at v0 z0 M3
    have HE : Hid (∃ (m : Mb) (fp : Fp),DmS m n ∧ MD w X (Y1.setCell ⟨o,4,none⟩ (.bool (!m0.done))) p a len cap bs o m fp) := ⟨{ m0 with done := !m0.done },fp3,⟨HO0.out.id',HO0.out.hn,HO0.out.n5,HO0.out.ok,HO0.out.rl,HO0.out.sl,HO0.out.sg,HO0.out.vb⟩,M3⟩
    clear hB M3 HM1
    go_wp2
    go_meet
    case rel => exact HE.out
 case rest =>
  obtain ⟨m,fp,hO,hM⟩ := hcut
  generalize wc = Y9 at *
  have HM : Hid (MD w X Y9 p a len cap bs o m fp) := hM
  have HO : Hid (DmS m n) := hO
  clear hM hO HM5 HO0 HN0
  obtain ⟨vs,hpc,hov,hnB⟩ := HM.out.plc
  obtain ⟨A9,rfl,hl9⟩ := mb5_ow hov
  have hl5 : (mbC A9 m).toList.length = 5 := rfl
  have c0 := hpc.cell 0 (by rw [hl5];omega)
  have c1 := hpc.cell 1 (by rw [hl5];omega)
  have c2 := hpc.cell 2 (by rw [hl5];omega)
  have c3 := hpc.cell 3 (by rw [hl5];omega)
  have c4 := hpc.cell 4 (by rw [hl5];omega)
  simp only [Nat.zero_add] at c0 c1 c2 c3 c4
  replace c0 : Y9.cell? ⟨o,0,none⟩ = some (.int .i64 m.id) := c0
  replace c1 : Y9.cell? ⟨o,1,none⟩ = some (.int .i64 m.n) := c1
  replace c2 : Y9.cell? ⟨o,2,none⟩ = some (.slice A9.ra m.rows.length A9.rc) := c2
  replace c3 : Y9.cell? ⟨o,3,none⟩ = some (.slice A9.sa m.sung.length A9.sc) := c3
  replace c4 : Y9.cell? ⟨o,4,none⟩ = some (.bool m.done) := c4
  obtain ⟨r0,r1,r2,r3,r4⟩ := Bx.r5 HM.out.res
  obtain ⟨f0',f1,f2,f3,f4⟩ := HM.out.res.f5
  have HA : Hid (∀ {x0 x1 x2 x3 x4 : Value},owL (((((Y9.setCell ⟨X.heap.size,0,none⟩ x0).setCell ⟨X.heap.size,1,none⟩ x1).setCell ⟨X.heap.size,2,none⟩ x2).setCell ⟨X.heap.size,3,none⟩ x3).setCell ⟨X.heap.size,4,none⟩ x4) (mbCels m) (mbVals A9 m) fp ∧ Cc w (((((Y9.setCell ⟨X.heap.size,0,none⟩ x0).setCell ⟨X.heap.size,1,none⟩ x1).setCell ⟨X.heap.size,2,none⟩ x2).setCell ⟨X.heap.size,3,none⟩ x3).setCell ⟨X.heap.size,4,none⟩ x4) p a len cap bs ∧ X.grownBy (((((Y9.setCell ⟨X.heap.size,0,none⟩ x0).setCell ⟨X.heap.size,1,none⟩ x1).setCell ⟨X.heap.size,2,none⟩ x2).setCell ⟨X.heap.size,3,none⟩ x3).setCell ⟨X.heap.size,4,none⟩ x4) (some p)) := fun {x0 x1 x2 x3 x4} => by
   have hw := wrt5 Y9 X.heap.size (a := x0) (b := x1) (c := x2) (d := x3) (e := x4)
   have h1 := HM.out.hpo
   have h3 := HM.out.lt
   exact ⟨owL_wrt hl9 hw (fun b hb e => by have := HM.out.fpl b hb;omega),HM.out.cc.wrt hw (by omega) (fun b e => by omega),grown_wrt HM.out.gr hw (fun b e => by omega)⟩
  have HFL : Hid (∀ b,fp b → X.heap.size ≤ b) := fun b hb => by have := HM.out.fpl b hb;omega
  clear hpc hov hl9 HM hnB hl5
  go_wp2
  refine bodyPost_ret (v := .agg #[.int .i64 m.id,.int .i64 m.n,.slice A9.ra m.rows.length A9.rc,.slice A9.sa m.sung.length A9.sc,.bool m.done]) (by simp [results,Tryz.results53,go_sem, *]) rfl ?_
  exact ⟨m,n,HO.out,A9,fp,rfl,HA.out.1,HFL.out,HA.out.2⟩
end Go.Proofs.YthioodpmgifomaaGreat
namespace Go.Proofs.YthioodpmgifomaaGreat
set_option linter.unusedVariables false
set_option linter.unusedSimpArgs false
open Go.RowKit Go.Sort
def DrM (w w' : World) (A : Ma) (m : Mb) (n : Nat) : Prop := It w' (mbCels m) (mbVals A m) w.heap.size w'.heap.size ∧ DmS m n ∧ Below w.heap.size w w'
section
variable {w Y Y' : World} {p : Nat} {a : Option Addr} {len cap : Nat} {bs : Nat → Int} {o : Nat} {A : Ma} {m : Mb} {fp : Fp}
end
set_option maxRecDepth 100000 in
set_option maxHeartbeats 3200000 in
theorem drawMo_any (a : Option Addr) (len cap : Nat) (bs : Nat → Int) (w : World) (hv : BVec w a len bs) (hl : len ≤ 4096) :
  Calls Tryz.prog 80 #[.slice a len cap] w fun e w' => ∃ (A : Ma) (m : Mb) (n : Nat),e = .returned (mbV A m) ∧ DrM w w' A m n := by
 have hmix := mixed17
 have hb0 := oneA16 w (.cells #[.int .i64 0,.int .i64 0,.slice none 0 0,.slice none 0 0,.bool false] 27)
 have HR : Hid (Bx (w.alloc (.cells #[.int .i64 0,.int .i64 0,.slice none 0 0,.slice none 0 0,.bool false] 27)) w.heap.size 27 #[.int .i64 0,.int .i64 0,.slice none 0 0,.slice none 0 0,.bool false]) := Bx.new w _ _
 have hN := newC a len cap bs w _ hb0 hv hl
 generalize hX0 : w.alloc (.cells #[.int .i64 0,.int .i64 0,.slice none 0 0,.slice none 0 0,.bool false] 27) = X0 at *
 clear hb0
 go_enter Tryz.func80,Tryz.ntmps80
 go_wp2_with fail
 refine hN.mono ?_
 rintro e X1 ⟨p,rfl,hp,c1,hb1⟩
 have HR1 : Hid (Bx X1 w.heap.size 27 #[.int .i64 0,.int .i64 0,.slice none 0 0,.slice none 0 0,.bool false]) := HR.out.below hb1
 have hwp : w.heap.size < p := by have := HR.out.lt;omega
 have hp1 := c1.lt
 have hD := drawMa_any c1
 clear hN c1 hb1 HR
 go_wp2_with fail
 refine hD.mono ?_
 rintro e X2 ⟨m,n,hS,A,fp,rfl,hlo,hf,c2,g2⟩
 have HS : Hid (DmS m n) := hS
 have hw2 := HR1.out.grown g2 (by simp;omega)
 have HE : Hid (∀ {x0 x1 x2 x3 x4 : Value},DrM w (((((X2.setCell ⟨w.heap.size,0,none⟩ x0).setCell ⟨w.heap.size,1,none⟩ x1).setCell ⟨w.heap.size,2,none⟩ x2).setCell ⟨w.heap.size,3,none⟩ x3).setCell ⟨w.heap.size,4,none⟩ x4) A m n) := fun {x0 x1 x2 x3 x4} => by
  have hw := wrt5 X2 w.heap.size (a := x0) (b := x1) (c := x2) (d := x3) (e := x4)
  exact ⟨owL_it (owL_wrt hlo hw (fun b hb e => by have := hf b hb;omega)) (fun b hb => by have := hf b hb;omega),HS.out,hw.below c2.below c2.below.size (fun b e => by rw [e];exact Nat.le_refl _)⟩
 obtain ⟨z0,z1,z2,z3,z4⟩ := Bx.r5 hw2
 obtain ⟨f0,f1,f2,f3,f4⟩ := hw2.f5
 unfold mbV mbC
 clear hD hS hlo hf c2 g2 hw2 HR1
 go_wp2
 refine bodyPost_ret (v := .agg #[.int .i64 m.id,.int .i64 m.n,.slice A.ra m.rows.length A.rc,.slice A.sa m.sung.length A.sc,.bool m.done]) (by simp [results,Tryz.results80,go_sem, *]) rfl ?_
 exact ⟨A,m,n,rfl,HE.out⟩
set_option maxRecDepth 100000 in
set_option maxHeartbeats 3200000 in
theorem drawSt_any17 (a : Option Addr) (len cap : Nat) (bs : Nat → Int) (w : World) (hv : BVec w a len bs) (hl : len ≤ 4096) :
  Calls Tryz.prog 27 #[.slice a len cap] w fun e w' => ∃ (A : Ma) (m : Mb) (n : Nat),e = .returned (mbV A m) ∧ DrM w w' A m n := by
 have hb0 := oneA16 w (.cells #[.int .i64 0,.int .i64 0,.slice none 0 0,.slice none 0 0,.bool false] 27)
 have HR : Hid (Bx (w.alloc (.cells #[.int .i64 0,.int .i64 0,.slice none 0 0,.slice none 0 0,.bool false] 27)) w.heap.size 27 #[.int .i64 0,.int .i64 0,.slice none 0 0,.slice none 0 0,.bool false]) := Bx.new w _ _
 have hD := drawMo_any a len cap bs (w.alloc (.cells #[.int .i64 0,.int .i64 0,.slice none 0 0,.slice none 0 0,.bool false] 27)) (hv.below hb0 (Nat.le_refl _)) hl
 have HB0 : Hid (Below w.heap.size w (w.alloc (.cells #[.int .i64 0,.int .i64 0,.slice none 0 0,.slice none 0 0,.bool false] 27))) := hb0
 generalize hX0 : w.alloc (.cells #[.int .i64 0,.int .i64 0,.slice none 0 0,.slice none 0 0,.bool false] 27) = X0 at *
 clear hb0 hv
 go_enter Tryz.func27,Tryz.ntmps27
 go_wp2_with fail
 refine hD.mono ?_
 rintro e X2 ⟨A,m,n,rfl,hI,hS,hb⟩
 have hw2 := HR.out.below hb
 have hwl := HR.out.lt
 have HE : Hid (∀ {x0 x1 x2 x3 x4 : Value},DrM w (((((X2.setCell ⟨w.heap.size,0,none⟩ x0).setCell ⟨w.heap.size,1,none⟩ x1).setCell ⟨w.heap.size,2,none⟩ x2).setCell ⟨w.heap.size,3,none⟩ x3).setCell ⟨w.heap.size,4,none⟩ x4) A m n) := fun {x0 x1 x2 x3 x4} => by
  have hw := wrt5 X2 w.heap.size (a := x0) (b := x1) (c := x2) (d := x3) (e := x4)
  have hbb := HB0.out.trans (hb.mono HB0.out.size)
  obtain ⟨f,h1,h2⟩ := hI
  exact ⟨owL_it (owL_wrt h1 hw (fun b hb e => by have := (h2 b hb).1;omega)) (fun b hb => by have := (h2 b hb).1;omega),hS,hw.below hbb hbb.size (fun b e => by rw [e];exact Nat.le_refl _)⟩
 obtain ⟨z0,z1,z2,z3,z4⟩ := Bx.r5 hw2
 obtain ⟨f0,f1,f2,f3,f4⟩ := hw2.f5
 unfold mbV mbC
 clear hD hS hI hb hw2 HR HB0
 go_wp2
 refine bodyPost_ret (v := .agg #[.int .i64 m.id,.int .i64 m.n,.slice A.ra m.rows.length A.rc,.slice A.sa m.sung.length A.sc,.bool m.done]) (by simp [results,Tryz.results27,go_sem, *]) rfl ?_
 exact ⟨A,m,n,rfl,HE.out⟩
attribute [local irreducible] sv
end Go.Proofs.YthioodpmgifomaaGreat
namespace Go.Proofs.YthioodpmgifomaaGreat
set_option linter.unusedVariables false
set_option linter.unusedSimpArgs false
open Go.RowKit Go.Sort
end Go.Proofs.YthioodpmgifomaaGreat
namespace Go.Proofs.YthioodpmgifomaaGreat
set_option linter.unusedVariables false
set_option linter.unusedSimpArgs false
open Go.RowKit Go.Sort
attribute [local irreducible] sv
set_option maxRecDepth 100000 in
set_option maxHeartbeats 3200000 in
theorem likeRw_any (A B : Ra) (r : Rw) (w : World) (hv : RwS w A r) (hu : RwS w B r) :
  Calls Tryz.prog 26 #[rwV A r,rwV B r] w fun e w' => e = .returned (.bool true) ∧ Grew w w' := by
 have hB0 : Grew w ((w.alloc (.cells (rwC A r) 37)).alloc (.cells (rwC B r) 37)) := ((Grew.refl _).alloc _).alloc _
 have hx : Bx ((w.alloc (.cells (rwC A r) 37)).alloc (.cells (rwC B r) 37)) w.heap.size 37 (rwC A r) := (Bx.new w _ _).alloc _
 have hy : Bx ((w.alloc (.cells (rwC A r) 37)).alloc (.cells (rwC B r) 37)) (w.heap.size + 1) 37 (rwC B r) := by
  have := Bx.new (w.alloc (.cells (rwC A r) 37)) 37 (rwC B r)
  simpa using this
 have h0 := hv.below hB0.1
 have g0 := hu.below hB0.1
 have hT := likeSV_any A.ta B.ta A.tc B.tc r.txt _ h0.txt g0.txt h0.mt
 have hE : ∀ X,Below w.heap.size w X → ∀ (x y : Option Addr) (c d : Nat) (l : List Int),Vec w x l.length l → Vec w y l.length l → l.length ≤ maxLen → Calls Tryz.prog 36 #[.slice x l.length c,.slice y l.length d] X fun e w' => e = .returned (.bool true) ∧ Grew X w' := fun X h x y c d l h1 h2 h3 => (like_any x y l.length c l.length d l l X (h1.below h (Nat.le_refl _)) (h2.below h (Nat.le_refl _)) h3).mono (fun e w' ⟨h4,q,h5⟩ => ⟨by rw [h4,sameB_self],by rw [h5];exact (Grew.refl _).drewN q⟩)
 obtain ⟨ver,txt,got,sus,wed,rdy,by_,trm⟩ := r
 obtain ⟨ta,tc,ga,gc,sa,sc,ma,mc⟩ := A
 obtain ⟨ub,uc,vb,vc,xb,xc,yb,yc⟩ := B
 have HV : Hid (RwS w ⟨ta,tc,ga,gc,sa,sc,ma,mc⟩ ⟨ver,txt,got,sus,wed,rdy,by_,trm⟩) := hv
 have HU : Hid (RwS w ⟨ub,uc,vb,vc,xb,xc,yb,yc⟩ ⟨ver,txt,got,sus,wed,rdy,by_,trm⟩) := hu
 have hG := fun X h => hE X h ga vb gc vc got HV.out.got HU.out.got HV.out.mg
 have hS := fun X h => hE X h sa xb sc xc sus HV.out.sus HU.out.sus HV.out.ms
 have hM := fun X h => hE X h ma yb mc yc trm HV.out.trm HU.out.trm HV.out.mm
 have HX : Hid (∀ X,Grew ((w.alloc (.cells (rwC ⟨ta,tc,ga,gc,sa,sc,ma,mc⟩ ⟨ver,txt,got,sus,wed,rdy,by_,trm⟩) 37)).alloc (.cells (rwC ⟨ub,uc,vb,vc,xb,xc,yb,yc⟩ ⟨ver,txt,got,sus,wed,rdy,by_,trm⟩) 37)) X → Bx X w.heap.size 37 #[.int .i64 ver,.slice ta txt.length tc,.slice ga got.length gc,.slice sa sus.length sc,.bool wed,.bool rdy,.int .i64 by_,.slice ma trm.length mc] ∧ Bx X (w.heap.size + 1) 37 #[.int .i64 ver,.slice ub txt.length uc,.slice vb got.length vc,.slice xb sus.length xc,.bool wed,.bool rdy,.int .i64 by_,.slice yb trm.length yc]) := fun X h => ⟨hx.below h.1,hy.below h.1⟩
 have n1 : (ver == ver) = true := by simp
 have n2 : (by_ == by_) = true := by simp
 have n3 : (wed == wed) = true := by simp
 have n4 : (rdy == rdy) = true := by simp
 unfold rwV
 unfold rwC at *
 simp only at hT ⊢
 generalize hWW : (w.alloc (.cells #[.int .i64 ver,.slice ta txt.length tc,.slice ga got.length gc,.slice sa sus.length sc,.bool wed,.bool rdy,.int .i64 by_,.slice ma trm.length mc] 37)).alloc (.cells #[.int .i64 ver,.slice ub txt.length uc,.slice vb got.length vc,.slice xb sus.length xc,.bool wed,.bool rdy,.int .i64 by_,.slice yb trm.length yc] 37) = W at *
 have HG0 : Hid (Grew w W) := hB0
 obtain ⟨⟨c0,c1,_,_⟩,_⟩ := Bx.r8 (HX.out W (Grew.refl _)).1
 obtain ⟨⟨d0,d1,_,_⟩,_⟩ := Bx.r8 (HX.out W (Grew.refl _)).2
 clear hv hu hx hy h0 g0 hE hB0
 go_enter Tryz.func26,Tryz.ntmps26
 go_wp2_with fail
 refine hT.mono ?_
 rintro e w1 ⟨rfl,hg1⟩
 obtain ⟨⟨_,_,c2,_⟩,_⟩ := Bx.r8 (HX.out w1 hg1).1
 obtain ⟨⟨_,_,d2,_⟩,_⟩ := Bx.r8 (HX.out w1 hg1).2
 have HG1 : Hid (Grew W w1) := hg1
 clear hT hg1 c0 c1 d0 d1
 go_wp2_with fail
 refine (hG w1 (HG0.out.trans HG1.out).1).mono ?_
 rintro e w2 ⟨rfl,hg2⟩
 have HG2 : Hid (Grew W w2) := HG1.out.trans hg2
 obtain ⟨⟨_,_,_,c3⟩,_⟩ := Bx.r8 (HX.out w2 HG2.out).1
 obtain ⟨⟨_,_,_,d3⟩,_⟩ := Bx.r8 (HX.out w2 HG2.out).2
 clear hg2 c2 d2 hG
 go_wp2_with fail
 refine (hS w2 (HG0.out.trans HG2.out).1).mono ?_
 rintro e w3 ⟨rfl,hg3⟩
 have HG3 : Hid (Grew W w3) := HG2.out.trans hg3
 obtain ⟨_,c4,c5,c6,c7⟩ := Bx.r8 (HX.out w3 HG3.out).1
 obtain ⟨_,d4,d5,d6,d7⟩ := Bx.r8 (HX.out w3 HG3.out).2
 clear hg3 c3 d3 hS
 go_wp2_with fail
 refine (hM w3 (HG0.out.trans HG3.out).1).mono ?_
 rintro e w4 ⟨rfl,hg4⟩
 have HG4 : Hid (Grew w w4) := HG0.out.trans (HG3.out.trans hg4)
 clear hg4 c4 c5 c6 c7 d4 d5 d6 d7 hM
 go_wp2
 go_ret
 exact ⟨rfl,HG4.out⟩
end Go.Proofs.YthioodpmgifomaaGreat
namespace Go.Proofs.YthioodpmgifomaaGreat
set_option linter.unusedVariables false
set_option linter.unusedSimpArgs false
open Go.RowKit Go.Sort
set_option maxRecDepth 100000 in
set_option maxHeartbeats 3200000 in
theorem likeMb_any (A D : Ma) (m : Mb) (w : World) (hv : MbS w A m) (hu : MbS w D m) :
  Calls Tryz.prog 19 #[mbV A m,mbV D m] w fun e w' => e = .returned (.bool true) ∧ Below w.heap.size w w' := by
 have hmix := mixed17
 have hB0 : Below w.heap.size w ((w.alloc (.cells #[.int .i64 m.id,.int .i64 m.n,.slice A.ra m.rows.length A.rc,.slice A.sa m.sung.length A.sc,.bool m.done] 27)).alloc (.cells #[.int .i64 m.id,.int .i64 m.n,.slice D.ra m.rows.length D.rc,.slice D.sa m.sung.length D.sc,.bool m.done] 27)) := (oneA16 w _).trans ((oneA16 _ _).mono (oneA16 w _).size)
 have hx : Bx ((w.alloc (.cells #[.int .i64 m.id,.int .i64 m.n,.slice A.ra m.rows.length A.rc,.slice A.sa m.sung.length A.sc,.bool m.done] 27)).alloc (.cells #[.int .i64 m.id,.int .i64 m.n,.slice D.ra m.rows.length D.rc,.slice D.sa m.sung.length D.sc,.bool m.done] 27)) w.heap.size 27 #[.int .i64 m.id,.int .i64 m.n,.slice A.ra m.rows.length A.rc,.slice A.sa m.sung.length A.sc,.bool m.done] := (Bx.new w _ _).alloc _
 have hy : Bx ((w.alloc (.cells #[.int .i64 m.id,.int .i64 m.n,.slice A.ra m.rows.length A.rc,.slice A.sa m.sung.length A.sc,.bool m.done] 27)).alloc (.cells #[.int .i64 m.id,.int .i64 m.n,.slice D.ra m.rows.length D.rc,.slice D.sa m.sung.length D.sc,.bool m.done] 27)) (w.heap.size + 1) 27 #[.int .i64 m.id,.int .i64 m.n,.slice D.ra m.rows.length D.rc,.slice D.sa m.sung.length D.sc,.bool m.done] := by
  have := Bx.new (w.alloc (.cells #[.int .i64 m.id,.int .i64 m.n,.slice A.ra m.rows.length A.rc,.slice A.sa m.sung.length A.sc,.bool m.done] 27)) 27 #[.int .i64 m.id,.int .i64 m.n,.slice D.ra m.rows.length D.rc,.slice D.sa m.sung.length D.sc,.bool m.done]
  simpa using this
 have hm := hv.mr
 unfold maxLen at hm
 have hE : ∀ X,Below w.heap.size w X → Calls Tryz.prog 36 #[.slice A.sa m.sung.length A.sc,.slice D.sa m.sung.length D.sc] X fun e w' => e = .returned (.bool true) ∧ Below X.heap.size X w' := fun X h => (like_any A.sa D.sa m.sung.length A.sc m.sung.length D.sc m.sung m.sung X (hv.sung.below h (Nat.le_refl _)) (hu.sung.below h (Nat.le_refl _)) hv.ms).mono (fun e w' ⟨h1,q,h2⟩ => ⟨by rw [h1];simp [sameB],by rw [h2];exact belowN (Below.refl _ _)⟩)
 have HV : Hid (∀ X,Below w.heap.size w X → MbS X A m) := fun X h => hv.below h
 have HU : Hid (∀ X,Below w.heap.size w X → MbS X D m) := fun X h => hu.below h
 unfold mbV mbC
 generalize hWW : (w.alloc (.cells #[.int .i64 m.id,.int .i64 m.n,.slice A.ra m.rows.length A.rc,.slice A.sa m.sung.length A.sc,.bool m.done] 27)).alloc (.cells #[.int .i64 m.id,.int .i64 m.n,.slice D.ra m.rows.length D.rc,.slice D.sa m.sung.length D.sc,.bool m.done] 27) = W at *
 have n1 : (m.id != m.id) = false := by simp
 have n2 : (m.n != m.n) = false := by simp
 have n3 : (m.done != m.done) = false := by simp
 have n4 : ((m.rows.length : Int) != (m.rows.length : Int)) = false := by simp
 have HX : Hid (Bx W w.heap.size 27 #[.int .i64 m.id,.int .i64 m.n,.slice A.ra m.rows.length A.rc,.slice A.sa m.sung.length A.sc,.bool m.done]) := hx
 have HY : Hid (Bx W (w.heap.size + 1) 27 #[.int .i64 m.id,.int .i64 m.n,.slice D.ra m.rows.length D.rc,.slice D.sa m.sung.length D.sc,.bool m.done]) := hy
 have HB : Hid (Below w.heap.size w W) := hB0
 obtain ⟨c0,c1,c2,c3,c4⟩ := Bx.r5 hx
 obtain ⟨d0,d1,d2,d3,d4⟩ := Bx.r5 hy
 clear hv hu hB0 hx hy
 go_enter Tryz.func19,Tryz.ntmps19
 go_wp2_with fail
 refine (hE _ HB.out).mono ?_
 rintro e w1 ⟨rfl,hb1⟩
 have HB1 : Hid (Below w.heap.size w w1) := HB.out.trans (hb1.mono HB.out.size)
 have HX1 : Hid (Bx w1 w.heap.size 27 #[.int .i64 m.id,.int .i64 m.n,.slice A.ra m.rows.length A.rc,.slice A.sa m.sung.length A.sc,.bool m.done]) := HX.out.below hb1
 have HY1 : Hid (Bx w1 (w.heap.size + 1) 27 #[.int .i64 m.id,.int .i64 m.n,.slice D.ra m.rows.length D.rc,.slice D.sa m.sung.length D.sc,.bool m.done]) := HY.out.below hb1
 clear c0 c1 c2 c3 c4 d0 d1 d2 d3 d4 hE hb1 HX HY
 obtain ⟨c0,c1,c2,c3,c4⟩ := Bx.r5 HX1.out
 obtain ⟨d0,d1,d2,d3,d4⟩ := Bx.r5 HY1.out
 go_wp2_with fail
 clear c0 c1 c2 c3 c4 d0 d1 d2 d3 d4 n1 n2 n3 n4
 go_loopw [5] (fun v wr => ∃ k : Nat,k ≤ m.rows.length ∧ v = .int .i64 (k : Int) ∧ Below w1.heap.size w1 wr) (fun v _ => m.rows.length - (intOf v).toNat)
 case atStart => exact ⟨0,Nat.zero_le _,rfl,Below.refl _ _⟩
 case round =>
  obtain ⟨k,hk,rfl,hb⟩ := hrel
  have HBr : Hid (Below w1.heap.size w1 wr) := hb
  have HBw : Hid (Below w.heap.size w wr) := HB1.out.trans (hb.mono HB1.out.size)
  obtain ⟨c0,c1,c2,c3,c4⟩ := Bx.r5 (HX1.out.below hb)
  obtain ⟨d0,d1,d2,d3,d4⟩ := Bx.r5 (HY1.out.below hb)
  by_cases hlt : k < m.rows.length
  ·have k1 : (k : Int) < (m.rows.length : Int) := by omega
   have k0 : (0 : Int) ≤ (k : Int) := by omega
   have hva := HV.out wr HBw.out
   have hvd := HU.out wr HBw.out
   obtain ⟨g,off,Ak,ea,⟨⟨x0,x1,x2,x3⟩,x4,x5,x6,x7⟩,hr1⟩ := hva.row hlt
   obtain ⟨g',off',Dk,ed,⟨⟨y0,y1,y2,y3⟩,y4,y5,y6,y7⟩,hr2⟩ := hvd.row hlt
   rw [ea] at c2
   rw [ed] at d2
   have CL : ∀ q : Bk wr,Calls Tryz.prog 26 #[rwV Ak (rowN m.rows k),rwV Dk (rowN m.rows k)] q.w fun e w' => e = .returned (.bool true) ∧ Below q.w.heap.size q.w w' := fun q => (likeRw_any Ak Dk (rowN m.rows k) q.w (hr1.below q.h) (hr2.below q.h)).mono (fun e w' h => ⟨h.1,h.2.1⟩)
   unfold rwV rwC at CL
   have T : ∀ {x v},wr.cell? x = some v → ∀ q : Bk wr,q.w.cell? x = some v := fun h q => (q.h.cell (World.block_lt_of_cell? _ _ h)).trans h
   have pc2 := T c2
   have pd2 := T d2
   have px0 := T x0
   have px1 := T x1
   have px2 := T x2
   have px3 := T x3
   have px4 := T x4
   have px5 := T x5
   have px6 := T x6
   have px7 := T x7
   have py0 := T y0
   have py1 := T y1
   have py2 := T y2
   have py3 := T y3
   have py4 := T y4
   have py5 := T y5
   have py6 := T y6
   have py7 := T y7
   have wk : wrap64 ((k : Int) + 1) = (k : Int) + 1 := by unfold wrap64;omega
   generalize rowN m.rows k = r at *
   clear hva hvd hr1 hr2 T x0 x1 x2 x3 x4 x5 x6 x7 y0 y1 y2 y3 y4 y5 y6 y7 d2 c0 c1 c3 c4 d0 d1 d3 d4 hb
   go_wp2_with fail
   refine wp_region_bk (by kernel_rfl) (by kernel_rfl) ?_
   repeat (go_big_quiet_step ((first | (go_at_call 26;exact bk_call _ (CL _)) | rfl)))
   refine wpQuiet_nil ?_
   intro wE hw'
   obtain ⟨⟨w11,hb11⟩,hw''⟩ := hw'
   have hwe : wE = w11 := hw''
   clear hw''
   subst hwe
   have HB2 : Hid (Below w1.heap.size w1 wE) := HBr.out.trans (hb11.mono HBr.out.size)
   clear CL pc2 pd2 px0 px1 px2 px3 px4 px5 px6 px7 py0 py1 py2 py3 py4 py5 py6 py7 c2 hb11
   go_wp2
   go_roundw
   case rel => exact ⟨k + 1,by omega,by go_num,HB2.out⟩
   case measure => simp [intOf];omega
  ·have k1 : ¬ ((k : Int) < (m.rows.length : Int)) := by omega
   clear hb
   go_wp2
   go_ret
   exact ⟨rfl,HBw.out⟩
end Go.Proofs.YthioodpmgifomaaGreat
namespace Go.Proofs.YthioodpmgifomaaGreat
set_option linter.unusedSimpArgs false
set_option linter.unusedVariables false
open Go.RowKit Go.Sort
theorem el_mem9 {xs : List Int} {x : Int} : x ∈ xs ↔ ∃ j,j < xs.length ∧ el xs j = x := by
 constructor
 ·intro h
  obtain ⟨j,hj,rfl⟩ := List.getElem_of_mem h
  exact ⟨j,hj,el_eq hj⟩
 ·rintro ⟨j,hj,rfl⟩
  exact el_mem hj
set_option maxHeartbeats 400000 in
theorem has9_any (b off len cap : Nat) (x : Int) (xs : List Int) (w : World) (hlen : xs.length = len) (hc : ∀ i,i < len → w.cell? ⟨b,off + i,none⟩ = some (.int .i64 (el xs i))) (hm : len ≤ maxLen) :
  Calls Tryz.prog 25 #[.slice (some ⟨b,off,none⟩) len cap,.int .i64 x] w fun e w' => e = .returned (.bool (decide (x ∈ xs))) ∧ w' = w := by
 unfold maxLen at hm
 have HL : Hid (xs.length = len) := hlen
 clear hlen
 go_enter Tryz.func25,Tryz.ntmps25
 go_wp2
 go_loop [5] (fun i => ∃ k : Nat,k ≤ len ∧ i = .int .i64 k ∧ ∀ j,j < k → el xs j ≠ x) (fun i => len - (intOf i).toNat)
 case atStart => exact ⟨0,Nat.zero_le _,rfl,fun j hj => by omega⟩
 case round =>
  obtain ⟨k,hk,rfl,hno⟩ := hrel
  have HN : Hid (∀ j,j < k → el xs j ≠ x) := hno
  clear hno
  by_cases hlt : k < len
  ·have hck := hc k hlt
   by_cases he : el xs k = x
   ·have hb : (el xs k == x) = true := by simpa using he
    have HF : Hid (decide (x ∈ xs) = true) := by rw [Hid,decide_eq_true_eq];exact el_mem9.2 ⟨k,by rw [HL.out];exact hlt,he⟩
    clear he
    go_wp2
    go_ret
    exact ⟨ret_bool (by rw [HF.out]),rfl⟩
   ·have hb : (el xs k == x) = false := by simpa using he
    have HE : Hid (el xs k ≠ x) := he
    clear he
    go_wp2
    go_round
    case rel => exact ⟨k + 1,by omega,by go_num,fun j hj => by
     rcases Nat.lt_succ_iff_lt_or_eq.1 hj with h | h
     ·exact HN.out j h
     ·rw [h];exact HE.out⟩
    case measure => simp [intOf];omega
  ·have HF : Hid (decide (x ∈ xs) = false) := by
    rw [Hid,decide_eq_false_iff_not,el_mem9]
    rintro ⟨j,hj,e⟩
    exact HN.out j (by rw [HL.out] at hj;omega) e
   go_wp2
   go_ret
   exact ⟨ret_bool (by rw [HF.out]),rfl⟩
end Go.Proofs.YthioodpmgifomaaGreat
namespace Go.Proofs.YthioodpmgifomaaGreat
set_option linter.unusedVariables false
set_option linter.unusedSimpArgs false
open Go.RowKit Go.Sort
set_option maxHeartbeats 400000 in
theorem has17_any (a : Option Addr) (cap : Nat) (x : Int) (xs : List Int) (w : World) (hv : Vec w a xs.length xs) (hm : xs.length ≤ maxLen) :
  Calls Tryz.prog 25 #[.slice a xs.length cap,.int .i64 x] w fun e w' => e = .returned (.bool (decide (x ∈ xs))) ∧ Below w.heap.size w w' := by
 rcases hv.2.2 with h | ⟨b,off,rfl,hc⟩
 ·obtain rfl : xs = [] := List.eq_nil_of_length_eq_zero h
  have hd : decide (x ∈ ([] : List Int)) = false := by simp
  rw [hd]
  clear hv h hm hd
  go_enter Tryz.func25,Tryz.ntmps25
  go_wp2
  go_loop [5] (fun i => i = .int .i64 0) (fun i => 0)
  case atStart => rfl
  case round =>
   obtain rfl := hrel
   go_wp2
   go_ret
   exact ⟨rfl,Below.refl _ _⟩
 ·exact (has9_any b off xs.length cap x xs w rfl hc hm).mono (fun e w' h => ⟨h.1,by rw [h.2];exact Below.refl _ _⟩)
structure Mx (w : World) (o : Nat) (A : Ma) (m : Mb) : Prop where
 box : Bx w o 27 #[.int .i64 m.id,.int .i64 m.n,.slice A.ra m.rows.length A.rc,.slice A.sa m.sung.length A.sc,.bool m.done]
 own : ∃ f,owL w (mbCels m) (mbVals A m) f
 fit : FitM m
section
variable {w w' : World} {o : Nat} {A : Ma} {m : Mb}
theorem Mx.below (h : Mx w o A m) (hb : Below w.heap.size w w') : Mx w' o A m := ⟨h.box.below hb,h.own.imp (fun f h => owL_below h hb),h.fit⟩
theorem Mx.mbs (h : Mx w o A m) : MbS w A m := by
 obtain ⟨f,hf⟩ := h.own
 exact mbs_of (owL_vw hf) h.fit
theorem Mx.mbp (h : Mx w o A m) (h6 : Mb64 m) (hs : szMb m ≤ 1048576) : MbP w A m := ⟨h.own,h.fit,h6,hs⟩
theorem Mx.new {lo hi : Nat} (h : It w (mbCels m) (mbVals A m) lo hi) (hf : FitM m) : Mx (w.alloc (.cells #[.int .i64 m.id,.int .i64 m.n,.slice A.ra m.rows.length A.rc,.slice A.sa m.sung.length A.sc,.bool m.done] 27)) w.heap.size A m := ⟨Bx.new _ _ _,by obtain ⟨f,hf,_⟩ := h.below (oneA16 w _);exact ⟨f,hf⟩,hf⟩
end
theorem OkM.p64 {m : Mb} {i n : Nat} (h : OkM m i n) : Mb64 m ∧ szMb m ≤ 1048576 := by
 have h5 := h.n5
 have hl := h.lt
 refine ⟨⟨⟨by rw [h.hid];omega,by rw [h.hid];omega⟩,⟨by rw [h.hn];omega,by rw [h.hn];omega⟩,fun r hr => ?_⟩,by have := h.small.2.2.2;omega⟩
 have hr := h.rowOk r hr
 have hv := hr.ver
 cases e : r.rdy with
 | true => have := (hr.rdy e).2.1;exact ⟨⟨by omega,by omega⟩,by omega,by omega⟩
 | false => rw [Rw64,(hr.not e).1];exact ⟨⟨by omega,by omega⟩,by omega,by omega⟩
theorem more_sv : (⟨#[109,111,114,101]⟩ : ByteArray) = sv [109,111,114,101] := by unfold sv;rfl
end Go.Proofs.YthioodpmgifomaaGreat
namespace Go.Proofs.YthioodpmgifomaaGreat
set_option linter.unusedVariables false
set_option linter.unusedSimpArgs false
open Go.RowKit Go.Sort
attribute [local irreducible] sv
set_option maxRecDepth 100000 in
set_option maxHeartbeats 12800000 in
theorem lawFnWedged (hSp : ImplStep1) (hSy : ImplSay) (a : Option Addr) (len cap : Nat) (bs : Nat → Int) (w : World) (hv : BVec w a len bs) :
  Calls Tryz.prog 5 #[.slice a len cap] w fun e w' => e = .returned (.bool true) ∧ Below w.heap.size w w' := by
 have hmix := mixed17
 by_cases hbig : (4096 : Int) < (len : Int)
 ·have hB := big_any a len cap w
  rw [decide_eq_true hbig] at hB
  go_enter Tryz.func5,Tryz.ntmps5
  go_wp2_with fail
  refine hB.mono ?_
  rintro e w1 ⟨rfl,hw1⟩
  have HW : Hid (w1 = w) := hw1
  clear hw1
  go_wp2
  go_ret
  exact ⟨rfl,by rw [HW.out];exact Below.refl _ _⟩
 have hB := big_any a len cap w
 rw [decide_eq_false hbig] at hB
 have hl : len ≤ 4096 := by omega
 have hD := drawSt_any17 a len cap bs w hv hl
 unfold mbV mbC at hD
 go_enter Tryz.func5,Tryz.ntmps5
 go_wp2_with fail
 refine hB.mono ?_
 rintro e w0 ⟨rfl,hw0⟩
 rw [hw0]
 clear hw0 hB hbig
 go_wp2_with fail
 refine hD.mono ?_
 rintro e w1 ⟨A,m,n,rfl,hI,hS,hb1⟩
 have HS : Hid (DmS m n) := hS
 have hbx := oneA16 w1 (.cells #[.int .i64 m.id,.int .i64 m.n,.slice A.ra m.rows.length A.rc,.slice A.sa m.sung.length A.sc,.bool m.done] 27)
 have hM1 : Mx (w1.alloc (.cells #[.int .i64 m.id,.int .i64 m.n,.slice A.ra m.rows.length A.rc,.slice A.sa m.sung.length A.sc,.bool m.done] 27)) w1.heap.size A m := Mx.new hI hS.fit
 have HB1 : Hid (Below w.heap.size w (w1.alloc (.cells #[.int .i64 m.id,.int .i64 m.n,.slice A.ra m.rows.length A.rc,.slice A.sa m.sung.length A.sc,.bool m.done] 27))) := hb1.trans (hbx.mono hb1.size)
 have hSt := hSp A m (w1.alloc (.cells #[.int .i64 m.id,.int .i64 m.n,.slice A.ra m.rows.length A.rc,.slice A.sa m.sung.length A.sc,.bool m.done] 27)) (hM1.mbp hS.i64 hS.sz) hS.own
 unfold mbV mbC at hSt
 have HM1 : Hid (Mx (w1.alloc (.cells #[.int .i64 m.id,.int .i64 m.n,.slice A.ra m.rows.length A.rc,.slice A.sa m.sung.length A.sc,.bool m.done] 27)) w1.heap.size A m) := hM1
 clear hD hI hbx hM1 hb1 hS
 go_upto_region 4 with fail
 generalize hW1 : w1.alloc (.cells #[.int .i64 m.id,.int .i64 m.n,.slice A.ra m.rows.length A.rc,.slice A.sa m.sung.length A.sc,.bool m.done] 27) = W1 at *
 generalize w1.heap.size = o at *
 obtain ⟨c0,c1,c2,c3,c4⟩ := Bx.r5 HM1.out.box
 have hxs := stpM_small m
 obtain ⟨x,hxe⟩ : ∃ x,Hid (x = stpM m) := ⟨_,rfl⟩
 rw [← hxe.out] at hSt hxs
 go_wp2_with fail
 refine hSt.mono ?_
 rintro e w2 ⟨B,rfl,hN⟩
 have hI2 := It.of_new hN
 have hb2 : Below W1.heap.size W1 w2 := hN.choose_spec.2.2
 have hbx := oneA16 w2 (.cells #[.int .i64 x.id,.int .i64 x.n,.slice B.ra x.rows.length B.rc,.slice B.sa x.sung.length B.sc,.bool x.done] 27)
 have HX2 : Hid (Mx (w2.alloc (.cells #[.int .i64 x.id,.int .i64 x.n,.slice B.ra x.rows.length B.rc,.slice B.sa x.sung.length B.sc,.bool x.done] 27)) w2.heap.size B x) := Mx.new hI2 hxs.1
 have hbb := hb2.trans (hbx.mono hb2.size)
 have HM2 : Hid (Mx (w2.alloc (.cells #[.int .i64 x.id,.int .i64 x.n,.slice B.ra x.rows.length B.rc,.slice B.sa x.sung.length B.sc,.bool x.done] 27)) o A m) := HM1.out.below hbb
 have HB2 : Hid (Below w.heap.size w (w2.alloc (.cells #[.int .i64 x.id,.int .i64 x.n,.slice B.ra x.rows.length B.rc,.slice B.sa x.sung.length B.sc,.bool x.done] 27))) := HB1.out.trans (hbb.mono HB1.out.size)
 unfold mbV mbC
 clear hSt c0 c1 c2 c3 c4 hN hI2 hb2 hbx hbb HM1 HB1
 go_upto_region 5 with fail
 generalize hW2 : w2.alloc (.cells #[.int .i64 x.id,.int .i64 x.n,.slice B.ra x.rows.length B.rc,.slice B.sa x.sung.length B.sc,.bool x.done] 27) = W2 at *
 generalize w2.heap.size = o2 at *
 have KS : ∀ X,Below W2.heap.size W2 X → (X.cell? ⟨o2,0,none⟩ = some (.int .i64 x.id) ∧ X.cell? ⟨o2,1,none⟩ = some (.int .i64 x.n) ∧ X.cell? ⟨o2,2,none⟩ = some (.slice B.ra x.rows.length B.rc) ∧ X.cell? ⟨o2,3,none⟩ = some (.slice B.sa x.sung.length B.sc) ∧ X.cell? ⟨o2,4,none⟩ = some (.bool x.done)) ∧ (X.cell? ⟨o,0,none⟩ = some (.int .i64 m.id) ∧ X.cell? ⟨o,1,none⟩ = some (.int .i64 m.n) ∧ X.cell? ⟨o,2,none⟩ = some (.slice A.ra m.rows.length A.rc) ∧ X.cell? ⟨o,3,none⟩ = some (.slice A.sa m.sung.length A.sc) ∧ X.cell? ⟨o,4,none⟩ = some (.bool m.done)) := fun X hX => ⟨Bx.r5 (HX2.out.below hX).box,Bx.r5 (HM2.out.below hX).box⟩
 have b0 : Below W2.heap.size W2 W2.drew := (Same.drewN W2 1).below
 refine gt_begin (S := fun X : World => (X.cell? ⟨o2,0,none⟩ = some (.int .i64 x.id) ∧ X.cell? ⟨o2,1,none⟩ = some (.int .i64 x.n) ∧ X.cell? ⟨o2,2,none⟩ = some (.slice B.ra x.rows.length B.rc) ∧ X.cell? ⟨o2,3,none⟩ = some (.slice B.sa x.sung.length B.sc) ∧ X.cell? ⟨o2,4,none⟩ = some (.bool x.done)) ∧ (X.cell? ⟨o,0,none⟩ = some (.int .i64 m.id) ∧ X.cell? ⟨o,1,none⟩ = some (.int .i64 m.n) ∧ X.cell? ⟨o,2,none⟩ = some (.slice A.ra m.rows.length A.rc) ∧ X.cell? ⟨o,3,none⟩ = some (.slice A.sa m.sung.length A.sc) ∧ X.cell? ⟨o,4,none⟩ = some (.bool m.done))) 5 hmix (by kernel_rfl) ?_
 have hHeld : (fun X : World => (X.cell? ⟨o2,0,none⟩ = some (.int .i64 x.id) ∧ X.cell? ⟨o2,1,none⟩ = some (.int .i64 x.n) ∧ X.cell? ⟨o2,2,none⟩ = some (.slice B.ra x.rows.length B.rc) ∧ X.cell? ⟨o2,3,none⟩ = some (.slice B.sa x.sung.length B.sc) ∧ X.cell? ⟨o2,4,none⟩ = some (.bool x.done)) ∧ (X.cell? ⟨o,0,none⟩ = some (.int .i64 m.id) ∧ X.cell? ⟨o,1,none⟩ = some (.int .i64 m.n) ∧ X.cell? ⟨o,2,none⟩ = some (.slice A.ra m.rows.length A.rc) ∧ X.cell? ⟨o,3,none⟩ = some (.slice A.sa m.sung.length A.sc) ∧ X.cell? ⟨o,4,none⟩ = some (.bool m.done))) W2.drew := (KS _ b0)
 refine gt_takeA (i := 0) (v := ?_) rfl (by kernel_rfl) (by kernel_rfl) (by kernel_rfl) (by kernel_rfl) (fun _ _ _ h => h) (Or.inl ⟨by rfl, ?_⟩) hHeld ?_
 rotate_left
 ·(intro X hSX;(try dsimp only at hSX);obtain ⟨⟨g0,g1,g2,g3,g4⟩,g5,g6,g7,g8,g9⟩ := hSX;go_simp;try with_reducible rfl)
 try simp only [Act.put,List.setIfInBounds_toArray,List.set_cons_zero,List.set_cons_succ]
 refine gt_takeA (i := 1) (v := ?_) rfl (by kernel_rfl) (by kernel_rfl) (by kernel_rfl) (by kernel_rfl) (fun _ _ _ h => h) (Or.inl ⟨by rfl, ?_⟩) hHeld ?_
 rotate_left
 ·(intro X hSX;(try dsimp only at hSX);obtain ⟨⟨g0,g1,g2,g3,g4⟩,g5,g6,g7,g8,g9⟩ := hSX;go_simp;try with_reducible rfl)
 try simp only [Act.put,List.setIfInBounds_toArray,List.set_cons_zero,List.set_cons_succ]
 have hS5 := stpS_any A m W2.drew (HM2.out.below b0).mbs
 rw [← hxe.out] at hS5
 unfold mbV mbC at hS5
 refine gt_one (i := 2) rfl (by kernel_rfl) (by kernel_rfl) (fun K hK => ?_)
 go_simp
 go_at_call 30
 refine hS5.mono ?_
 rintro e V1 ⟨C,rfl,hN⟩
 have hbv : Below W2.drew.heap.size W2.drew V1 := hN.choose_spec.2.2
 have b1 : Below W2.heap.size W2 V1 := b0.trans (hbv.mono b0.size)
 have hL5 := likeMb_any B C x V1 (HX2.out.below b1).mbs (it_mbs (It.of_new hN) hxs.1)
 unfold mbV mbC at hL5
 unfold mbV mbC
 refine hK.out _ _ (KS _ b1) (fun hHeldN => ?_)
 clear hK hHeld
 have hHeld := hHeldN
 try simp only [Act.put,List.setIfInBounds_toArray,List.set_cons_zero,List.set_cons_succ]
 refine gt_one (i := 3) rfl (by kernel_rfl) (by kernel_rfl) (fun K hK => ?_)
 go_simp
 go_at_call 19
 refine hL5.mono ?_
 rintro e V2 ⟨rfl,hbl⟩
 have b2 : Below W2.heap.size W2 V2 := b1.trans (hbl.mono b1.size)
 refine hK.out _ _ (KS _ b2) (fun hHeldN => ?_)
 clear hK hHeld
 have hHeld := hHeldN
 try simp only [Act.put,List.setIfInBounds_toArray,List.set_cons_zero,List.set_cons_succ]
 refine gt_pure (i := 4) (v := ?_) rfl (by kernel_rfl) (by kernel_rfl) (by kernel_rfl) (fun _ _ _ h => h) (Or.inl ⟨by rfl, ?_⟩) ?_
 rotate_left
 ·(intro X;go_simp;try with_reducible rfl)
 try simp only [Act.put,List.setIfInBounds_toArray,List.set_cons_zero,List.set_cons_succ]
 refine gt_end (by kernel_rfl) ?_
 have HX3 : Hid (Mx V2 o2 B x) := HX2.out.below b2
 have HM3 : Hid (Mx V2 o A m) := HM2.out.below b2
 have HB3 : Hid (Below w.heap.size w V2) := HB2.out.trans (b2.mono HB2.out.size)
 clear hHeld KS b0 b1 b2 hbv hbl hL5 hS5 hN HX2 HM2 HB2
 have hK := mbkS_any A m V2 HM3.out.mbs
 unfold mbV mbC at hK
 obtain ⟨c0,c1,c2,c3,c4⟩ := Bx.r5 HM3.out.box
 go_upto_region 7 with fail
 cases hok : okMb m with
 | false =>
  rw [hok] at hK
  clear hok
  go_wp2_with fail
  refine hK.mono ?_
  rintro e V3 ⟨rfl,hb3⟩
  have HE : Hid (Below w.heap.size w V3) := HB3.out.trans (hb3.mono HB3.out.size)
  clear hK hb3 c0 c1 c2 c3 c4
  go_wp2
  go_ret
  exact ⟨rfl,HE.out⟩
 | true =>
 rw [hok] at hK
 obtain ⟨i,n',ok⟩ := okMb_iff.1 hok
 have T := stepM ok
 have hxe2 : x = stepMb m := by rw [hxe.out,stpM,if_pos hok]
 have Tok : OkM x i n' := by rw [hxe2];exact T.ok
 have Tnx : Nx (rowN m.rows i) (rowN x.rows i) := by rw [hxe2];exact T.nx
 have HTw : Hid ((rowN m.rows i).wed = true → x.done = false → x.sung = m.sung) := by rw [Hid,hxe2];exact T.wed
 have HTt : Hid (x.done = true → ∀ y ∈ x.sung,y ∈ m.sung ∨ (m.done = false ∧ y ∈ wovs (rowN x.rows i).trm 12)) := by rw [Hid,hxe2];exact T.trm
 have HOx : Hid (okMb x = true) := okMb_iff.2 ⟨i,n',Tok⟩
 clear hok hxe2 T
 go_wp2_with fail
 refine hK.mono ?_
 rintro e V3 ⟨rfl,hb3⟩
 have HX4 : Hid (Mx V3 o2 B x) := HX3.out.below hb3
 have HM4 : Hid (Mx V3 o A m) := HM3.out.below hb3
 have HB4 : Hid (Below w.heap.size w V3) := HB3.out.trans (hb3.mono HB3.out.size)
 clear hK hb3 c0 c1 c2 c3 c4 HX3 HM3 HB3
 have hil : i < m.rows.length := by rw [ok.len];exact ok.lt
 have i0 : (0 : Int) ≤ (i : Int) := by omega
 have i1 : (i : Int) < (m.rows.length : Int) := by omega
 obtain ⟨c0,c1,c2,c3,c4⟩ := Bx.r5 HM4.out.box
 obtain ⟨g,off,Ak,ea,⟨⟨d0,d1,d2,d3⟩,d4,d5,d6,d7⟩,hrs⟩ := HM4.out.mbs.row hil
 rw [ea] at c2
 clear ea
 rw [ok.hid] at c0
 cases hwd : (rowN m.rows i).wed with
 | false =>
  rw [hwd] at d4
  clear hwd
  go_wp2
  go_ret
  exact ⟨rfl,HB4.out⟩
 | true =>
 have HN9 : Hid ((rowN x.rows i).wed = true ∧ (rowN x.rows i).got = (rowN m.rows i).got ∧ (rowN x.rows i).txt = (rowN m.rows i).txt) := Tnx.wed hwd
 have HWD : Hid ((rowN m.rows i).wed = true) := hwd
 rw [hwd] at d4
 clear hwd
 have hxl : i < x.rows.length := by rw [Tok.len];exact ok.lt
 have i2 : (i : Int) < (x.rows.length : Int) := by omega
 obtain ⟨e0,e1,e2,e3,e4⟩ := Bx.r5 HX4.out.box
 obtain ⟨g',off',Bk9,eb,⟨⟨y0,y1,y2,y3⟩,y4,y5,y6,y7⟩,hrx⟩ := HX4.out.mbs.row hxl
 rw [eb] at e2
 clear eb
 rw [Tok.hid] at e0
 go_upto_region 9 with fail
 have hxr : OkR (rowN x.rows i) n' := Tok.ok i ok.lt
 have HTd : Hid (Mx V3 o A m ∧ Mx V3 o2 B x ∧ RwS V3 Ak (rowN m.rows i) ∧ RwS V3 Bk9 (rowN x.rows i)) := ⟨HM4.out,HX4.out,hrs,hrx⟩
 have hbr := oneA16 V3 (.cells #[.int .i64 (rowN x.rows i).ver,.slice Bk9.ta (rowN x.rows i).txt.length Bk9.tc,.slice Bk9.ga (rowN x.rows i).got.length Bk9.gc,.slice Bk9.sa (rowN x.rows i).sus.length Bk9.sc,.bool (rowN x.rows i).wed,.bool (rowN x.rows i).rdy,.int .i64 (rowN x.rows i).by_,.slice Bk9.ma (rowN x.rows i).trm.length Bk9.mc] 37)
 have hxr9 := Bx.new V3 37 #[.int .i64 (rowN x.rows i).ver,.slice Bk9.ta (rowN x.rows i).txt.length Bk9.tc,.slice Bk9.ga (rowN x.rows i).got.length Bk9.gc,.slice Bk9.sa (rowN x.rows i).sus.length Bk9.sc,.bool (rowN x.rows i).wed,.bool (rowN x.rows i).rdy,.int .i64 (rowN x.rows i).by_,.slice Bk9.ma (rowN x.rows i).trm.length Bk9.mc]
 go_upto_region 10 with fail
 generalize hV4 : V3.alloc (.cells #[.int .i64 (rowN x.rows i).ver,.slice Bk9.ta (rowN x.rows i).txt.length Bk9.tc,.slice Bk9.ga (rowN x.rows i).got.length Bk9.gc,.slice Bk9.sa (rowN x.rows i).sus.length Bk9.sc,.bool (rowN x.rows i).wed,.bool (rowN x.rows i).rdy,.int .i64 (rowN x.rows i).by_,.slice Bk9.ma (rowN x.rows i).trm.length Bk9.mc] 37) = V4 at *
 have HM5 : Hid (Mx V4 o A m) := HM4.out.below hbr
 have HX5 : Hid (Mx V4 o2 B x) := HX4.out.below hbr
 have HB5 : Hid (Below w.heap.size w V4) := HB4.out.trans (hbr.mono HB4.out.size)
 have HR5 : Hid (Bx V4 V3.heap.size 37 #[.int .i64 (rowN x.rows i).ver,.slice Bk9.ta (rowN x.rows i).txt.length Bk9.tc,.slice Bk9.ga (rowN x.rows i).got.length Bk9.gc,.slice Bk9.sa (rowN x.rows i).sus.length Bk9.sc,.bool (rowN x.rows i).wed,.bool (rowN x.rows i).rdy,.int .i64 (rowN x.rows i).by_,.slice Bk9.ma (rowN x.rows i).trm.length Bk9.mc]) := hxr9
 have hrs5 := hrs.below hbr
 have hrx5 := hrx.below hbr
 have HRX5 : Hid (RwS V4 Bk9 (rowN x.rows i)) := hrx5
 have CL : ∀ q : Bk V4,Calls Tryz.prog 36 #[.slice Bk9.ga (rowN x.rows i).got.length Bk9.gc,.slice Ak.ga (rowN m.rows i).got.length Ak.gc] q.w fun e w' => e = .returned (.bool true) ∧ Below q.w.heap.size q.w w' := fun q => (like_any Bk9.ga Ak.ga _ Bk9.gc _ Ak.gc (rowN x.rows i).got (rowN m.rows i).got q.w (hrx5.got.below q.h (Nat.le_refl _)) (hrs5.got.below q.h (Nat.le_refl _)) hrx5.mg).mono (fun e w' ⟨h1,k,h2⟩ => ⟨by rw [h1,HN9.out.2.1];simp [sameB],by rw [h2];exact belowN (Below.refl _ _)⟩)
 have nl : (((rowN x.rows i).txt.length : Int) != ((rowN m.rows i).txt.length : Int)) = false := by rw [HN9.out.2.2];simp
 obtain ⟨⟨z0,z1,z2,z3⟩,z4,z5,z6,z7⟩ := Bx.r8 hxr9
 rw [HN9.out.1] at z4
 have TT : ∀ {x v},V4.cell? x = some v → ∀ q : Bk V4,q.w.cell? x = some v := fun h q => (q.h.cell (World.block_lt_of_cell? _ _ h)).trans h
 have tb : ∀ {x v},V3.cell? x = some v → V4.cell? x = some v := fun h => (hbr.cell (World.block_lt_of_cell? _ _ h)).trans h
 have pz1 := TT z1
 have pz2 := TT z2
 have pz4 := TT z4
 have pc0 := TT (tb c0)
 have pc2 := TT (tb c2)
 have pd1 := TT (tb d1)
 have pd2 := TT (tb d2)
 clear hrs5 hrx5 z0 z1 z2 z3 z4 z5 z6 z7 c0 c1 c2 c3 c4 d0 d1 d2 d3 d4 d5 d6 d7 e0 e1 e2 e3 e4 y0 y1 y2 y3 y4 y5 y6 y7 TT tb hrs hrx HM4 HX4 HB4 HTd hbr hxr9 hV4
 generalize V3.heap.size = q9 at *
 refine wp_region_bk (by kernel_rfl) (by kernel_rfl) ?_
 repeat (go_big_quiet_step ((first | (go_at_call 36;exact bk_call _ (CL _)) | rfl)))
 refine wpQuiet_nil ?_
 intro wE hw'
 obtain ⟨⟨w11,hb11⟩,hw''⟩ := hw'
 have hwe : wE = w11 := hw''
 clear hw''
 subst hwe
 have HM6 : Hid (Mx wE o A m) := HM5.out.below hb11
 have HX6 : Hid (Mx wE o2 B x) := HX5.out.below hb11
 have HB6 : Hid (Below w.heap.size w wE) := HB5.out.trans (hb11.mono HB5.out.size)
 have HR6 : Hid (Bx wE q9 37 #[.int .i64 (rowN x.rows i).ver,.slice Bk9.ta (rowN x.rows i).txt.length Bk9.tc,.slice Bk9.ga (rowN x.rows i).got.length Bk9.gc,.slice Bk9.sa (rowN x.rows i).sus.length Bk9.sc,.bool (rowN x.rows i).wed,.bool (rowN x.rows i).rdy,.int .i64 (rowN x.rows i).by_,.slice Bk9.ma (rowN x.rows i).trm.length Bk9.mc]) := HR5.out.below hb11
 have HRX6 : Hid (RwS wE Bk9 (rowN x.rows i)) := HRX5.out.below hb11
 clear CL nl pz1 pz2 pz4 pc0 pc2 pd1 pd2 hb11 HM5 HX5 HB5 HR5 HRX5
 have hsm : sayM x [109,111,114,101] = (x,false) := by
  rw [sayM,if_pos HOx.out,sayMb,if_pos]
  exact .inl (by rw [Tok.own];exact HN9.out.1)
 have hSy2 := hSy B x [109,111,114,101] wE (HX6.out.mbp Tok.p64.1 Tok.p64.2) (by simp)
 rw [hsm,← more_sv] at hSy2
 unfold mbV mbC at hSy2
 clear hsm
 obtain ⟨e0,e1,e2,e3,e4⟩ := Bx.r5 HX6.out.box
 go_wp2_with fail
 refine hSy2.mono ?_
 rintro e V7 ⟨D,rfl,hN⟩
 have hb7 : Below wE.heap.size wE V7 := hN.choose_spec.2.2
 have hbx := oneA16 V7 (.cells #[.int .i64 x.id,.int .i64 x.n,.slice D.ra x.rows.length D.rc,.slice D.sa x.sung.length D.sc,.bool x.done] 27)
 have hbb := hb7.trans (hbx.mono hb7.size)
 have HM7 : Hid (Mx (V7.alloc (.cells #[.int .i64 x.id,.int .i64 x.n,.slice D.ra x.rows.length D.rc,.slice D.sa x.sung.length D.sc,.bool x.done] 27)) o A m) := HM6.out.below hbb
 have HX7 : Hid (Mx (V7.alloc (.cells #[.int .i64 x.id,.int .i64 x.n,.slice D.ra x.rows.length D.rc,.slice D.sa x.sung.length D.sc,.bool x.done] 27)) o2 B x) := HX6.out.below hbb
 have HB7 : Hid (Below w.heap.size w (V7.alloc (.cells #[.int .i64 x.id,.int .i64 x.n,.slice D.ra x.rows.length D.rc,.slice D.sa x.sung.length D.sc,.bool x.done] 27))) := HB6.out.trans (hbb.mono HB6.out.size)
 have HR7 : Hid (Bx (V7.alloc (.cells #[.int .i64 x.id,.int .i64 x.n,.slice D.ra x.rows.length D.rc,.slice D.sa x.sung.length D.sc,.bool x.done] 27)) q9 37 #[.int .i64 (rowN x.rows i).ver,.slice Bk9.ta (rowN x.rows i).txt.length Bk9.tc,.slice Bk9.ga (rowN x.rows i).got.length Bk9.gc,.slice Bk9.sa (rowN x.rows i).sus.length Bk9.sc,.bool (rowN x.rows i).wed,.bool (rowN x.rows i).rdy,.int .i64 (rowN x.rows i).by_,.slice Bk9.ma (rowN x.rows i).trm.length Bk9.mc]) := HR6.out.below hbb
 have HRX7 : Hid (RwS (V7.alloc (.cells #[.int .i64 x.id,.int .i64 x.n,.slice D.ra x.rows.length D.rc,.slice D.sa x.sung.length D.sc,.bool x.done] 27)) Bk9 (rowN x.rows i)) := HRX6.out.below hbb
 unfold mbV mbC
 clear hSy2 hN hb7 hbx hbb HM6 HX6 HB6 HR6 HRX6 e0 e1 e2 e3 e4
 go_upto_region 13 with fail
 generalize hV8 : V7.alloc (.cells #[.int .i64 x.id,.int .i64 x.n,.slice D.ra x.rows.length D.rc,.slice D.sa x.sung.length D.sc,.bool x.done] 27) = V8 at *
 clear hV8
 obtain ⟨e0,e1,e2,e3,e4⟩ := Bx.r5 HX7.out.box
 obtain ⟨c0,c1,c2,c3,c4⟩ := Bx.r5 HM7.out.box
 have hmsv := HM7.out.mbs
 have hxsv := HX7.out.mbs
 cases hdn : x.done with
 | false =>
  have hsg := HTw.out HWD.out hdn
  have hL := (like_any B.sa A.sa x.sung.length B.sc m.sung.length A.sc x.sung m.sung V8 hxsv.sung hmsv.sung hxsv.ms)
  rw [show sameB x.sung m.sung = true by rw [hsg];simp [sameB]] at hL
  rw [hdn] at e4
  clear hdn hsg
  go_wp2_with fail
  refine hL.mono ?_
  rintro e V9 ⟨rfl,k9,rfl⟩
  have HE : Hid (Below w.heap.size w (V8.drewN k9)) := belowN HB7.out
  clear hL c0 c1 c2 c3 c4 e0 e1 e2 e3 e4
  go_wp2
  go_ret
  exact ⟨rfl,HE.out⟩
 | true =>
 have HTt2 := HTt.out hdn
 have HTT : Hid (∀ y ∈ x.sung,y ∈ m.sung ∨ (m.done = false ∧ y ∈ wovs (rowN x.rows i).trm 12)) := HTt2
 have HDN : Hid (x.done = true) := hdn
 rw [hdn] at e4
 clear HTt2 hdn
 go_wp2_with fail
 clear c0 c1 c2 c3 c4 e0 e1 e2 e3 e4 hmsv hxsv
 go_loopw [8] (fun v wr => ∃ k : Nat,k ≤ x.sung.length ∧ v = .int .i64 (k : Int) ∧ Below V8.heap.size V8 wr) (fun v _ => x.sung.length - (intOf v).toNat)
 case atStart => exact ⟨0,Nat.zero_le _,rfl,Below.refl _ _⟩
 case round =>
  obtain ⟨k,hk,rfl,hb⟩ := hrel
  have HBr : Hid (Below V8.heap.size V8 wr) := hb
  have HBw : Hid (Below w.heap.size w wr) := HB7.out.trans (hb.mono HB7.out.size)
  have hM := HM7.out.below hb
  have hX := HX7.out.below hb
  have hxl60 := Tok.sl
  obtain ⟨e0,e1,e2,e3,e4⟩ := Bx.r5 hX.box
  by_cases hlt : k < x.sung.length
  ·have k1 : (k : Int) < (x.sung.length : Int) := by omega
   have k0 : (0 : Int) ≤ (k : Int) := by omega
   have hsgk := (Tok.sg k hlt).1
   rcases hX.mbs.sung.2.2 with h0 | ⟨sb,so,esa,hsc⟩
   ·omega
   have hsk := hsc k hlt
   rw [esa] at e3
   clear esa hsc
   have hmem : el x.sung k ∈ x.sung := el_mem hlt
   obtain ⟨q,hq⟩ : ∃ q : Nat,el x.sung k = (q : Int) := ⟨(el x.sung k).toNat,by omega⟩
   rw [hq] at hsk hmem hsgk
   have HQ : Hid ((q : Int) ∈ m.sung ∨ (m.done = false ∧ (q : Int) ∈ wovs (rowN x.rows i).trm 12)) := HTT.out _ hmem
   clear hq hmem
   obtain ⟨c0,c1,c2,c3,c4⟩ := Bx.r5 hM.box
   rw [ok.hn] at c1
   have hn5 := ok.n5
   obtain ⟨⟨z0,z1,z2,z3⟩,z4,z5,z6,z7⟩ := Bx.r8 (HR7.out.below hb)
   have hmv := hM.mbs
   have T : ∀ {x v},wr.cell? x = some v → ∀ q : Bk wr,q.w.cell? x = some v := fun h q => (q.h.cell (World.block_lt_of_cell? _ _ h)).trans h
   have CH : ∀ b : Bk wr,Calls Tryz.prog 25 #[.slice A.sa m.sung.length A.sc,.int .i64 (q : Int)] b.w fun e w' => e = .returned (.bool (decide ((q : Int) ∈ m.sung))) ∧ Below b.w.heap.size b.w w' := fun b => has17_any A.sa A.sc (q : Int) m.sung b.w (hmv.sung.below b.h (Nat.le_refl _)) hmv.ms
   have pc3 := T c3
   have wk : wrap64 ((k : Int) + 1) = (k : Int) + 1 := by unfold wrap64;omega
   by_cases hin : (q : Int) ∈ m.sung
   ·rw [decide_eq_true hin] at CH
    clear hin HQ
    go_wp2_with fail
    refine wp_region_bk (by kernel_rfl) (by kernel_rfl) ?_
    repeat (go_big_quiet_step ((first | (go_at_call 25;exact bk_call _ (CH _)) | rfl)))
    refine wpQuiet_nil ?_
    intro wE hw'
    obtain ⟨⟨w11,hb11⟩,hw''⟩ := hw'
    have hwe : wE = w11 := hw''
    clear hw''
    subst hwe
    have HB2 : Hid (Below V8.heap.size V8 wE) := HBr.out.trans (hb11.mono HBr.out.size)
    clear CH pc3 c0 c1 c2 c3 c4 z0 z1 z2 z3 z4 z5 z6 z7 e0 e1 e2 e3 e4 hsk hM hX hb hb11 hmv T
    go_wp2
    go_roundw
    case rel => exact ⟨k + 1,by omega,by go_num,HB2.out⟩
    case measure => simp [intOf];omega
   ·rw [decide_eq_false hin] at CH
    have hwv : (q : Int) ∈ wovs (rowN x.rows i).trm 12 := by
     rcases HQ.out with h | h
     ·exact absurd h hin
     ·exact h.2
    have hrd := (Tok.ok i ok.lt).rdy (by have := Tok.dn HDN.out;exact this)
    have hml : (rowN x.rows i).trm.length = n' := hrd.2.2.2.1
    have hlt9 := (mem_wov12 hml (by omega) (fun s hs => hrd.2.2.2.2 _ (el_mem (by rw [hml];exact hs)))).1 hwv
    have hqm : q % n' < n' := Nat.mod_lt _ (by omega)
    have tm : ((q : Int)).tmod (n' : Int) = ((q % n' : Nat) : Int) := by rw [Int.tmod_eq_emod_of_nonneg (by omega)];rfl
    have td : ((q : Int)).tdiv (n' : Int) = ((q / n' : Nat) : Int) := by rw [Int.tdiv_eq_ediv_of_nonneg (by omega)];rfl
    have hrx := HRX7.out.below hb
    rcases hrx.trm.2.2 with h0 | ⟨tb,tof,eta,htc⟩
    ·omega
    have htk := htc (q % n') (by omega)
    rw [eta] at z7
    clear eta htc
    have hyq := Nat.div_le_self q n'
    have n0 : ((n' : Int) == 0) = false := by simp;omega
    have n00 : ¬ n' = 0 := by omega
    obtain ⟨J,hJ⟩ : ∃ J : Nat,Hid (q % n' = J) := ⟨_,rfl⟩
    obtain ⟨y,hy⟩ : ∃ y : Nat,Hid (q / n' = y) := ⟨_,rfl⟩
    rw [hJ.out] at tm hqm htk hlt9
    rw [hy.out] at td hyq hlt9
    rw [hml] at z7
    generalize el (rowN x.rows i).trm J = tv at *
    have J0 : (0 : Int) ≤ (J : Int) := by omega
    have J1 : (J : Int) < (n' : Int) := by omega
    have hge : decide (tv ≤ (y : Int)) = false := by simp;omega
    have hwy : wrap64 (y : Int) = (y : Int) := by unfold wrap64;omega
    have pz7 := T z7
    have ptk := T htk
    have pc1 := T c1
    clear hin HQ hwv hrd hlt9 hml hrx
    go_wp2_with fail
    refine wp_region_bk (by kernel_rfl) (by kernel_rfl) ?_
    repeat (go_big_quiet_step ((first | (go_at_call 25;exact bk_call _ (CH _)) | rfl)))
    refine wpQuiet_nil ?_
    intro wE hw'
    obtain ⟨⟨w11,hb11⟩,hw''⟩ := hw'
    have hwe : wE = w11 := hw''
    clear hw''
    subst hwe
    have HB2 : Hid (Below V8.heap.size V8 wE) := HBr.out.trans (hb11.mono HBr.out.size)
    clear CH pc3 pc1 pz7 ptk c0 c1 c2 c3 c4 z0 z1 z2 z3 z4 z5 z6 z7 e0 e1 e2 e3 e4 hsk htk hM hX hb hb11 hmv T tm td hge hwy n0
    go_wp2
    go_roundw
    case rel => exact ⟨k + 1,by omega,by go_num,HB2.out⟩
    case measure => simp [intOf];omega
  ·have k1 : ¬ ((k : Int) < (x.sung.length : Int)) := by omega
   clear hb hM hX
   go_wp2
   go_ret
   exact ⟨rfl,HBw.out⟩
end Go.Proofs.YthioodpmgifomaaGreat
namespace Go.Proofs.YthioodpmgifomaaGreat
set_option linter.unusedSimpArgs false
set_option linter.unusedVariables false
open Go.RowKit
theorem IsRow.bvec {w : World} {a : Option Addr} {len cap : Nat} {zs : List Int} (h : IsRow .u8 w a len cap zs) : BVec w a len (fun i => zs.getD i 0) := by
 rcases h with ⟨rfl,rfl,rfl,rfl⟩ | ⟨x,rfl,hl,hm,hz,hcell,hwz⟩
 ·exact ⟨fun i hi => absurd hi (Nat.not_lt_zero _),.inl rfl⟩
 ·refine ⟨fun i hi => ?_, ?_⟩
  ·have := bounds_u8 (hwz (zs.getD i 0) (by
    have hi' : i < zs.length := by omega
    simp [hi']))
   omega
  ·by_cases h0 : len = 0
   ·exact .inl h0
   ·obtain ⟨b,off,spot⟩ := x
    have hc := hcell 0 (by omega)
    have hspot : spot = none := by simpa [Addr.add] using World.cell?_spot hc
    subst hspot
    refine .inr ⟨b,off,rfl,fun i hi => ?_⟩
    have := hcell i (by omega)
    by_cases hi0 : i = 0
    ·subst hi0;simpa [Addr.add] using this
    ·simpa [Addr.add,hi0] using this
end Go.Proofs.YthioodpmgifomaaGreat
namespace Go.Proofs.YthioodpmgifomaaGreat
set_option linter.unusedVariables false
set_option linter.unusedSimpArgs false
open Go.RowKit Go.Sort
set_option maxHeartbeats 400000 in
theorem nan1_any (x : Int) (w : World) : Calls Tryz.prog 222 #[.int .i64 x] w fun e w' => e = .returned (.bool false) ∧ w' = w := by
 go_enter Tryz.func222,Tryz.ntmps222
 go_wp2
 go_ret
 exact ⟨by simp,rfl⟩
set_option maxHeartbeats 400000 in
theorem nan2_any (x : Int) (w : World) : Calls Tryz.prog 204 #[.int .i64 x] w fun e w' => e = .returned (.bool false) ∧ w' = w := by
 go_enter Tryz.func204,Tryz.ntmps204
 go_wp2
 go_ret
 exact ⟨by simp,rfl⟩
set_option maxHeartbeats 400000 in
theorem less_any (x y : Int) (w : World) : Calls Tryz.prog 203 #[.int .i64 x,.int .i64 y] w fun e w' => e = .returned (.bool (decide (x < y))) ∧ w' = w := by
 go_enter Tryz.func203,Tryz.ntmps203
 go_wp2_with (go_at_call 222;refine (nan1_any _ _).mono ?_;rintro e w' ⟨rfl,rfl⟩)
 go_ret
 exact ⟨rfl,rfl⟩
theorem put_at : ∀ {zs : List Int} {k : Nat} {x : Int},k ≤ zs.length → (∀ j,j < k → el zs j < x) → (∀ j,k ≤ j → j < zs.length → x < el zs j) → zs.take k ++ x :: zs.drop k = putL zs x
 | [],0,x,_,_,_ => rfl
 | [],k + 1,x,h,_,_ => by simp at h
 | z :: zs,0,x,_,_,h2 => by
  have := h2 0 (Nat.le_refl _) (by simp)
  simp only [el,List.getD_cons_zero] at this
  rw [putL,if_neg (by omega),if_neg (by omega)]
  rfl
 | z :: zs,k + 1,x,h,h1,h2 => by
  have e := h1 0 (by omega)
  simp only [el,List.getD_cons_zero] at e
  rw [putL,if_pos e,← put_at (zs := zs) (k := k) (x := x) (by simpa using h) (fun j hj => by have := h1 (j + 1) (by omega);simpa [el] using this) (fun j hj hl => by have := h2 (j + 1) (by omega) (by simpa using hl);simpa [el] using this)]
  rfl
set_option maxHeartbeats 4000000 in
set_option maxRecDepth 1000000 in
theorem bs_any (a : Option Addr) (cap : Nat) (zs : List Int) (x : Int) (w : World) (hv : Vec w a zs.length zs) (hm : zs.length ≤ 1000) (hs : zs.Pairwise (· < ·)) :
  Calls Tryz.prog 174 #[.slice a zs.length cap,.int .i64 x] w fun e w' => ∃ k : Nat,k ≤ zs.length ∧ e = .returned (.tuple #[.int .i64 (k : Int),.bool (decide (x ∈ zs))]) ∧ w' = w ∧ (x ∉ zs → zs.take k ++ x :: zs.drop k = putL zs x) := by
 have S : Hid (∀ a b,a < b → b < zs.length → el zs a < el zs b) := fun a b hab hb => by
  have := List.pairwise_iff_getElem.1 hs a b (by omega) hb hab
  simpa [el,hb,show a < zs.length by omega] using this
 have hc := hv.2.2
 clear hs hv
 have HP : Hid (∀ k,k ≤ zs.length → (∀ t,t < k → el zs t < x) → (∀ t,k ≤ t → t < zs.length → x ≤ el zs t) → (x ∉ zs → zs.take k ++ x :: zs.drop k = putL zs x) ∧ (k < zs.length → el zs k = x → x ∈ zs) ∧ ((k < zs.length → el zs k ≠ x) → x ∉ zs)) := fun k hk h1 h2 => by
  refine ⟨fun hx => put_at hk h1 (fun j hj hl => ?_),fun hk' e => ?_,fun hne hx => ?_⟩
  ·have := h2 j hj hl
   have hne : el zs j ≠ x := fun e => hx (e ▸ el_mem hl)
   omega
  ·exact e ▸ el_mem hk'
  ·obtain ⟨j,hj,e⟩ := List.mem_iff_getElem.1 hx
   have ej : el zs j = x := by simpa [el,hj] using e
   rcases Nat.lt_or_ge j k with h | h
   ·have := h1 j h;omega
   ·rcases Nat.eq_or_lt_of_le h with h | h
    ·subst h;exact hne hj ej
    ·have a1 := S.out k j h hj
     have a2 := h2 k (Nat.le_refl _) (by omega)
     omega
 have HT : Hid ((x ∈ zs → decide (x ∈ zs) = true) ∧ (x ∉ zs → decide (x ∈ zs) = false)) := ⟨decide_eq_true,decide_eq_false⟩
 generalize decide (x ∈ zs) = D at *
 go_enter Tryz.func174,Tryz.ntmps174
 go_wp2
 go_loopg [7,8] zs.length (fun g s7 s8 wr => ∃ lo hi : Nat,s7 = .int .i64 (lo : Int) ∧ s8 = .int .i64 (hi : Int) ∧ lo ≤ hi ∧ hi ≤ zs.length ∧ hi - lo ≤ g ∧ wr = w ∧ (∀ t,t < lo → el zs t < x) ∧ (∀ t,hi ≤ t → t < zs.length → x ≤ el zs t))
 case atStart => exact ⟨0,zs.length,rfl,rfl,Nat.zero_le _,Nat.le_refl _,by omega,rfl,fun t ht => absurd ht (Nat.not_lt_zero _),fun t h1 h2 => by omega⟩
 case round =>
  obtain ⟨lo,hi,rfl,rfl,hlh,hin,hg,rfl,h1,h2⟩ := hrel
  have I : Hid ((∀ t,t < lo → el zs t < x) ∧ (∀ t,hi ≤ t → t < zs.length → x ≤ el zs t)) := ⟨h1,h2⟩
  clear h1 h2
  by_cases hlt : lo < hi
  ·rcases hc with h0 | ⟨b,off,rfl,hc⟩
   ·omega
   have cm := hc ((lo + hi) / 2) (by omega)
   clear hc
   generalize hy : el zs ((lo + hi) / 2) = y at cm
   have Y : Hid (el zs ((lo + hi) / 2) = y) := hy
   clear hy
   by_cases hyx : y < x
   ·go_wp2_with (first | (go_at_call 203;refine (less_any _ _ _).mono ?_;rintro e w' ⟨rfl,rfl⟩) | (go_at_call 204;refine (nan2_any _ _).mono ?_;rintro e w' ⟨rfl,rfl⟩))
    go_roundg (hi - ((lo + hi) / 2 + 1))
    case measure => omega
    case rel =>
     refine ⟨(lo + hi) / 2 + 1,hi,by rw [show ((lo : Int) + (hi : Int)) / 2 + 1 = (((lo + hi) / 2 + 1 : Nat) : Int) by omega],rfl,by omega,hin,Nat.le_refl _,rfl,fun t ht => ?_,I.out.2⟩
     rcases Nat.lt_or_ge t ((lo + hi) / 2) with h | h
     ·have := S.out t ((lo + hi) / 2) h (by omega)
      rw [Y.out] at this
      omega
     ·rw [show t = (lo + hi) / 2 by omega,Y.out];exact hyx
   ·go_wp2_with (first | (go_at_call 203;refine (less_any _ _ _).mono ?_;rintro e w' ⟨rfl,rfl⟩) | (go_at_call 204;refine (nan2_any _ _).mono ?_;rintro e w' ⟨rfl,rfl⟩))
    go_roundg ((lo + hi) / 2 - lo)
    case measure => omega
    case rel =>
     refine ⟨lo,(lo + hi) / 2,rfl,by rw [show ((lo : Int) + (hi : Int)) / 2 = (((lo + hi) / 2 : Nat) : Int) by omega],by omega,by omega,Nat.le_refl _,rfl,I.out.1,fun t ht htn => ?_⟩
     rcases Nat.eq_or_lt_of_le ht with h | h
     ·rw [← h,Y.out];omega
     ·have := S.out ((lo + hi) / 2) t h htn
      rw [Y.out] at this
      omega
  ·have : hi = lo := by omega
   subst this
   obtain ⟨p1,p2,p3⟩ := HP.out hi hin I.out.1 I.out.2
   have E1 : Hid (x ∉ zs → zs.take hi ++ x :: zs.drop hi = putL zs x) := p1
   by_cases hn : hi < zs.length
   ·rcases hc with h0 | ⟨b,off,rfl,hc⟩
    ·omega
    have cl := hc hi hn
    by_cases hyx : el zs hi = x
    ·have E2 : Hid (D = true) := HT.out.1 (p2 hn hyx)
     rw [hyx] at cl
     clear hc hyx p1 p2 p3
     go_wp2_with (first | (go_at_call 203;refine (less_any _ _ _).mono ?_;rintro e w' ⟨rfl,rfl⟩) | (go_at_call 204;refine (nan2_any _ _).mono ?_;rintro e w' ⟨rfl,rfl⟩))
     go_ret2
     exact ⟨hi,hin,by rw [E2.out];first | rfl | simp,rfl,E1.out⟩
    ·have E2 : Hid (D = false) := HT.out.2 (p3 (fun _ => hyx))
     have hyx' : ((el zs hi) == x) = false := by simpa using hyx
     clear hc p1 p2 p3
     generalize el zs hi = y at *
     go_wp2_with (first | (go_at_call 203;refine (less_any _ _ _).mono ?_;rintro e w' ⟨rfl,rfl⟩) | (go_at_call 204;refine (nan2_any _ _).mono ?_;rintro e w' ⟨rfl,rfl⟩))
     go_ret2
     exact ⟨hi,hin,by rw [E2.out];first | rfl | simp [hyx],rfl,E1.out⟩
   ·have E2 : Hid (D = false) := HT.out.2 (p3 (fun h => absurd h hn))
    clear hc p1 p2 p3
    go_wp2_with (first | (go_at_call 203;refine (less_any _ _ _).mono ?_;rintro e w' ⟨rfl,rfl⟩) | (go_at_call 204;refine (nan2_any _ _).mono ?_;rintro e w' ⟨rfl,rfl⟩))
    go_ret2
    exact ⟨hi,hin,by rw [E2.out];first | rfl | simp,rfl,E1.out⟩
end Go.Proofs.YthioodpmgifomaaGreat
namespace Go.Proofs.YthioodpmgifomaaGreat
set_option linter.unusedVariables false
set_option linter.unusedSimpArgs false
open Go.RowKit Go.Sort
theorem wp_copy17 {P : Program} (w : World) {o : Oper} {a : Act} {K : Act → World → Prop} {Q : Exit → Act → World → Prop} (d s : Operand) (t t' : TypeId)
  (ho : o.op = .call { callee := .builtin .copy,args := #[d,s],argTypes := #[t,t'] }) (v u : Value) (hd : a.eval d = v) (hs : a.eval s = u) {v' : Value} {w' : World}
  (hr : (Builtin.copy_ #[t,t'] o.type #[v,u]).run P w = .ok v' w') (h : K (a.put o.dst v') w') : o.wp P a w K Q := by
 unfold Oper.wp execOp
 simp only [ho,resolve,invoke,builtin,Sem.run_bind,Sem.run_pure,Result.andThen_ok,List.map_toArray,List.map_cons,List.map_nil,hd,hs,hr]
 exact h
theorem wpList_copy17 {P : Program} (w : World) {ops : Array Oper} {rest : List Oper} {o : Oper} {a : Act} {Q : Exit → Act → World → Prop} (hgd : o.guard = none) (d s : Operand) (t t' : TypeId)
  (ho : o.op = .call { callee := .builtin .copy,args := #[d,s],argTypes := #[t,t'] }) (v u : Value) (hd : a.eval d = v) (hs : a.eval s = u) {v' : Value} {w' : World}
  (hr : (Builtin.copy_ #[t,t'] o.type #[v,u]).run P w = .ok v' w') (h : wpList P ops Q rest (a.put o.dst v') w') : wpList P ops Q (o :: rest) a w :=
 wpList_plain hgd fun _ hK => wp_copy17 w d s t t' ho v u hd hs hr (hK _ _ h)
theorem step_copy17 {P : Program} {ops : Array Oper} {o : Oper} {a : Act} {w : World} {K : Act → World → Prop} {Q : Exit → Act → World → Prop} {E : Prop}
  (hg : o.guard = none) (d x : Operand) (dT sT : TypeId) (hop : o.op = Op.call { callee := Callee.builtin Builtin.copy,args := #[d,x],argTypes := #[dT,sT] })
  (v u : Value) (hd : a.eval d = v) (hx : a.eval x = u) {v' : Value} {w' : World} (hr : (Builtin.copy_ #[dT,sT] o.type #[v,u]).run P w = .ok v' w') (hK : K (a.put o.dst v') w') :
  if Region.wanted o (yielded ops a.tmps) = true then Oper.wp P o a w K Q else E := by
 have hw : Region.wanted o (yielded ops a.tmps) = true := by simp [Region.wanted,hg]
 rw [if_pos hw]
 unfold Oper.wp
 simp [execOp,hop,resolve,invoke,builtin,hd,hx,hr,Result.andThen]
 exact hK
theorem some_set17 (b : Nat) (vs : List Value) (o : Nat) (w : World) (h : ∀ j,j < vs.length → (w.cell? ⟨b,o + j,none⟩).isSome = true) (k : Nat) (hk : (w.cell? ⟨b,k,none⟩).isSome = true) : ((w.setCells b o vs).cell? ⟨b,k,none⟩).isSome = true := by
 by_cases hin : o ≤ k ∧ k < o + vs.length
 ·have := World.cell?_setCells_in b vs o w h (k - o) (by omega)
  rw [show o + (k - o) = k by omega] at this
  rw [this];rfl
 ·rw [World.cell?_setCells_out b vs o w ⟨b,k,none⟩ (fun _ _ => by show k < o ∨ o + vs.length ≤ k;omega)]
  exact hk
theorem ins_get {α : Type} (cs : List α) (k : Nat) (x : α) (hk : k ≤ cs.length) (j : Nat) : (cs.take k ++ x :: cs.drop k)[j]? = if j < k then cs[j]? else if j = k then some x else cs[j - 1]? := by
 have hl : (cs.take k).length = k := by rw [List.length_take];omega
 by_cases h1 : j < k
 ·rw [if_pos h1,List.getElem?_append_left (by omega),List.getElem?_take,if_pos h1]
 ·rw [if_neg h1,List.getElem?_append_right (by omega),hl]
  by_cases h2 : j = k
  ·rw [if_pos h2,h2,Nat.sub_self];rfl
  ·rw [if_neg h2,show j - k = (j - k - 1) + 1 by omega,List.getElem?_cons_succ,List.getElem?_drop]
   congr 1
   omega
theorem ins_down (W : World) (N o k c : Nat) (cs : List Value) (x : Value) (hk : k ≤ cs.length) (h0 : ∀ j,j < k → W.cell? ⟨N,o + j,none⟩ = cs[j]?) (hs : ∀ j,j < c → (W.cell? ⟨N,o + j,none⟩).isSome = true) (hc : cs.length + 1 ≤ c) :
  (∀ j,j < cs.length + 1 → ((W.setCells N (o + (k + 1)) (cs.drop k)).setCells N (o + k) [x]).cell? ⟨N,o + j,none⟩ = (cs.take k ++ x :: cs.drop k)[j]?) ∧ ∀ j,j < c → (((W.setCells N (o + (k + 1)) (cs.drop k)).setCells N (o + k) [x]).cell? ⟨N,o + j,none⟩).isSome = true := by
 have hd : (cs.drop k).length = cs.length - k := List.length_drop
 have s1 : ∀ j,j < (cs.drop k).length → (W.cell? ⟨N,o + (k + 1) + j,none⟩).isSome = true := fun j hj => by rw [Nat.add_assoc];exact hs _ (by omega)
 have s2 : ∀ j,j < c → ((W.setCells N (o + (k + 1)) (cs.drop k)).cell? ⟨N,o + j,none⟩).isSome = true := fun j hj => some_set17 N _ _ W s1 _ (hs j hj)
 have s3 : ∀ j,j < [x].length → ((W.setCells N (o + (k + 1)) (cs.drop k)).cell? ⟨N,o + k + j,none⟩).isSome = true := fun j hj => by rw [Nat.add_assoc];exact s2 _ (by simp at hj;omega)
 refine ⟨fun j hj => ?_,fun j hj => some_set17 N _ _ _ s3 _ (s2 j hj)⟩
 rw [ins_get cs k x hk j]
 by_cases h2 : j = k
 ·subst h2
  rw [if_neg (by omega),if_pos rfl]
  have := World.cell?_setCells_in N [x] (o + j) _ s3 0 (by simp)
  exact this
 ·rw [World.cell?_setCells_out N [x] (o + k) _ ⟨N,o + j,none⟩ (fun _ _ => by show o + j < o + k ∨ o + k + [x].length ≤ o + j;simp;omega),if_neg h2]
  by_cases h1 : j < k
  ·rw [if_pos h1,World.cell?_setCells_out N _ _ W ⟨N,o + j,none⟩ (fun _ _ => by show o + j < o + (k + 1) ∨ _;omega)]
   exact h0 j h1
  ·rw [if_neg h1]
   have := World.cell?_setCells_in N (cs.drop k) (o + (k + 1)) W s1 (j - (k + 1)) (by omega)
   rw [show o + (k + 1) + (j - (k + 1)) = o + j by omega] at this
   rw [this,List.getElem_drop,List.getElem?_eq_getElem (by omega)]
   congr 2
   omega
theorem ins_up (W : World) (N o k c : Nat) (cs : List Value) (x : Value) (hk : k ≤ cs.length) (h0 : ∀ j,j < k → W.cell? ⟨N,o + j,none⟩ = cs[j]?) (hs : ∀ j,j < c → (W.cell? ⟨N,o + j,none⟩).isSome = true) (hc : cs.length + 1 ≤ c) :
  (∀ j,j < cs.length + 1 → ((W.setCells N (o + k) [x]).setCells N (o + (k + 1)) (cs.drop k)).cell? ⟨N,o + j,none⟩ = (cs.take k ++ x :: cs.drop k)[j]?) ∧ ∀ j,j < c → (((W.setCells N (o + k) [x]).setCells N (o + (k + 1)) (cs.drop k)).cell? ⟨N,o + j,none⟩).isSome = true := by
 have hd : (cs.drop k).length = cs.length - k := List.length_drop
 have s3 : ∀ j,j < [x].length → (W.cell? ⟨N,o + k + j,none⟩).isSome = true := fun j hj => by rw [Nat.add_assoc];exact hs _ (by simp at hj;omega)
 have s2 : ∀ j,j < c → ((W.setCells N (o + k) [x]).cell? ⟨N,o + j,none⟩).isSome = true := fun j hj => some_set17 N _ _ W s3 _ (hs j hj)
 have s1 : ∀ j,j < (cs.drop k).length → ((W.setCells N (o + k) [x]).cell? ⟨N,o + (k + 1) + j,none⟩).isSome = true := fun j hj => by rw [Nat.add_assoc];exact s2 _ (by omega)
 refine ⟨fun j hj => ?_,fun j hj => some_set17 N _ _ _ s1 _ (s2 j hj)⟩
 rw [ins_get cs k x hk j]
 by_cases h1 : j < k + 1
 ·rw [World.cell?_setCells_out N _ _ (W.setCells N (o + k) [x]) ⟨N,o + j,none⟩ (fun _ _ => by show o + j < o + (k + 1) ∨ _;omega)]
  by_cases h2 : j = k
  ·subst h2
   rw [if_neg (by omega),if_pos rfl]
   exact World.cell?_setCells_in N [x] (o + j) W s3 0 (by simp)
  ·rw [if_pos (by omega),World.cell?_setCells_out N [x] (o + k) W ⟨N,o + j,none⟩ (fun _ _ => by show o + j < o + k ∨ _;omega)]
   exact h0 j (by omega)
 ·rw [if_neg (by omega),if_neg (by omega)]
  have := World.cell?_setCells_in N (cs.drop k) (o + (k + 1)) (W.setCells N (o + k) [x]) s1 (j - (k + 1)) (by omega)
  rw [show o + (k + 1) + (j - (k + 1)) = o + j by omega] at this
  rw [this,List.getElem_drop,List.getElem?_eq_getElem (by omega)]
  congr 2
  omega
set_option maxHeartbeats 1600000 in
set_option maxRecDepth 100000 in
theorem insS_any (b off n c i vb : Nat) (cs : List Value) (x : Int) (w : World) (hi : i < n) (hroom : n + 1 ≤ c) (hc63 : c ≤ 9223372036854775807) (hvb : vb ≠ b) (hcl : cs.length = n)
  (hcs : ∀ j v,cs[j]? = some v → w.cell? ⟨b,off + j,none⟩ = some v) (hsp : ∀ j,j < n + 1 → (w.cell? ⟨b,off + j,none⟩).isSome = true) (hfz : ∀ j,j < n + 1 → w.frozen? ⟨b,off + j,none⟩ = false)
  (hvs : w.cell? ⟨vb,0,none⟩ = some (.int .i64 x)) (h1c : ∀ v ∈ cs,v.oneCell' = true) (tA tB : TypeId) (kA kB : Nat) (hsa : w.shape? vb = some (tA,kA)) (hsb : w.shape? b = some (tB,kB)) (hkB : kB ≠ 0) (hfa : w.frozen? ⟨vb,0,none⟩ = false) (hfe : w.frozen? ⟨vb,kA,none⟩ = false) :
  Calls Tryz.prog 175 #[.slice (some ⟨b,off,none⟩) n c,.int .i64 (i : Int),.slice (some ⟨vb,0,none⟩) 1 1] w fun e w' =>
   e = .returned (.slice (some ⟨b,off,none⟩) (n + 1) c) ∧ w' = (w.drew.setCells b (off + (i + 1)) (cs.drop i)).setCells b (off + i) [.int .i64 x] := by
 have mixed := mixed17
 have hz2 : ¬ ((i : Int) = (n : Int)) := by omega
 obtain ⟨i0,hi0,hz0,hz1,hzb⟩ := info_parts2n Tryz.info2n
 have hsz : (Tryz.prog.info? 2).map (·.size) = some 1 := by rw [hi0];simp [hz1]
 have hov : ∀ lb cb,(callFunc 205 #[.slice (some ⟨vb,0,none⟩) 1 1,.slice (some ⟨b,off + (i + 1),none⟩) lb cb]).run Tryz.prog w = .ok (.value (.bool false)) w := fun lb cb => by
  rw [run_callFunc_extern Tryz.func205 (by kernel_rfl) (by kernel_rfl) (by kernel_rfl) (e := Extern.SlicesOverlaps.overlaps #[25,25] #[4]) (by kernel_rfl),
   Lib.run_overlaps_apart w 25 4 2 Tryz.underlying25 1 Tryz.sizeOf2 ⟨vb,0,none⟩ ⟨b,off + (i + 1),none⟩ 1 1 lb cb hvb tA tB kA kB hsa hsb hkB hfa hfe]
  rfl
 have hdl : (cs.drop i).length = n - i := by rw [List.length_drop,hcl]
 have hw1 : IntKind.i64.wrap ((i : Int) + 1) = (i : Int) + 1 := by rw [IntKind.wrap_i64];omega
 have hb1 : (0 : Int) ≤ (i : Int) + 1 := by omega
 have hin : i ≤ n := by omega
 have htn : ((i : Int) + 1).toNat = i + 1 := by omega
 have hb2 : ¬ (c = i + 1) := by omega
 have hb3 : (i : Int) ≤ (n : Int) + 1 := by omega
 have hb4 : ¬ (c = i) := by omega
 have hcp1 : ∀ dl sl ty dc sc,dl = n - i → sl = n + 1 - i → (Builtin.copy_ #[25,25] ty #[.slice (some ⟨b,off + (i + 1),none⟩) dl dc,.slice (some ⟨b,off + i,none⟩) sl sc]).run Tryz.prog w.drew = .ok (goInt (cs.drop i).length) (w.drew.setCells b (off + (i + 1)) (cs.drop i)) := fun dl sl ty dc sc e1 e2 =>
  run_copy_cells w.drew _ _ ty 2 b (off + (i + 1)) dl dc ⟨b,off + i,none⟩ sl sc (cs.drop i) Tryz.underlying25 hsz (by rw [hdl];simp only [Nat.min_def];split <;> omega)
   (fun j v hj => by rw [Addr.add_lit,Nat.add_assoc];exact hcs (i + j) v (by rwa [List.getElem?_drop] at hj))
   (fun j hj => by rw [Nat.add_assoc];exact hsp _ (by omega)) (fun j hj => by rw [Nat.add_assoc];exact hfz _ (by omega)) (fun v hv => h1c v (List.mem_of_mem_drop hv))
 obtain ⟨W1,hW1⟩ : ∃ W1,W1 = w.drew.setCells b (off + (i + 1)) (cs.drop i) := ⟨_,rfl⟩
 have hsp1 : ∀ k,k < n + 1 → (W1.cell? ⟨b,off + k,none⟩).isSome = true := fun k hk => by
  rw [hW1]
  exact some_set17 b _ _ _ (fun j hj => by rw [Nat.add_assoc];exact hsp _ (by omega)) _ (hsp k hk)
 have hcp2 : ∀ (W : World),(∀ x,W.cell? x = W1.cell? x) → (∀ x,W.frozen? x = W1.frozen? x) → ∀ dl ty dc,dl = n + 1 - i → (Builtin.copy_ #[25,25] ty #[.slice (some ⟨b,off + i,none⟩) dl dc,.slice (some ⟨vb,0,none⟩) 1 1]).run Tryz.prog W = .ok (goInt [Value.int .i64 x].length) (W.setCells b (off + i) [.int .i64 x]) := fun W hWc hWf dl ty dc e1 =>
  run_copy_cells W _ _ ty 2 b (off + i) dl dc ⟨vb,0,none⟩ 1 1 [.int .i64 x] Tryz.underlying25 hsz (by simp only [Nat.min_def,List.length_cons,List.length_nil];split <;> omega)
   (fun j v hj => by
    rw [Addr.add_lit,hWc,hW1,World.cell?_setCells_out b _ _ _ _ (fun h _ => absurd h hvb)]
    match j,hj with
    | 0,hj => simp at hj;rw [← hj];exact hvs)
   (fun j hj => by rw [hWc,Nat.add_assoc];exact hsp1 _ (by simp at hj;omega)) (fun j hj => by rw [hWf,hW1,World.frozen?_setCells,Nat.add_assoc];exact hfz _ (by simp at hj;omega)) (by intro v hv;simp at hv;rw [hv];rfl)
 rw [← hW1] at hcp1
 clear hcs hsp hfz hvs h1c hsp1 hsa hsb hkB hfa hfe hi0 hz0 hz1 hzb hsz
 go_enter Tryz.func175,Tryz.ntmps175
 go_wp2_with (simp only [hov])
 go_region_law_o (refine step_copy17 rfl _ _ 25 25 rfl _ _ (by simp [Act.eval,Act.put]) (by simp [Act.eval,Act.put]) (hcp1 _ _ _ _ _ (by omega) (by omega)) ?_)
 go_wp2_with (at_builtin;refine wpList_copy17 _ rfl _ _ 25 25 rfl _ _ rfl rfl (hcp2 _ (fun _ => rfl) (fun _ => rfl) _ _ _ (by omega)) ?_)
 go_ret
 first | exact ⟨rfl,rfl⟩ | exact ⟨rfl,by rw [hW1]⟩
end Go.Proofs.YthioodpmgifomaaGreat