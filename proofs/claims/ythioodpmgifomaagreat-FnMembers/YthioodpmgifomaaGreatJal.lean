/-
  Texts in one: Mdb Mdc Mdd Rzl.
-/
import Derived.Test.YthioodpmgifomaaGreatJak
import Derived.Test.YthioodpmgifomaaGreatJad
import Derived.Test.YthioodpmgifomaaGreatJaj
import Derived.Test.YthioodpmgifomaaGreatJac
import Derived.Deep.CutRange
namespace Go.Proofs.YthioodpmgifomaaGreat
set_option linter.unusedVariables false
set_option linter.unusedSimpArgs false
open Go.RowKit Go.Sort
structure DmS (m : Mb) (n : Nat) : Prop where
 id' : -1 ≤ m.id ∧ m.id ≤ 7
 hn : m.n = (n : Int)
 n5 : 1 ≤ n ∧ n ≤ 5
 ok : ∀ r ∈ m.rows,OkR r n
 rl : m.rows.length ≤ 5
 sl : m.sung.length ≤ 61
 sg : ∀ x ∈ m.sung,-1 ≤ x ∧ x ≤ 62
 vb : Vb m 13
theorem OkM.dms {m : Mb} {i n : Nat} (h : OkM m i n) (hv : Vb m 13) : DmS m n := by
 have h5 := h.n5
 have hl := h.lt
 exact ⟨by rw [h.hid];omega,h.hn,h5,h.rowOk,by rw [h.len];omega,by have := h.sl;omega,fun x hx => by have := h.elem hx;omega,hv⟩
theorem DmS.fit {m : Mb} {n : Nat} (h : DmS m n) : FitM m := ⟨fun r hr => (h.ok r hr).fit,fun x hx => by have := h.sg x hx;omega⟩
theorem DmS.i64 {m : Mb} {n : Nat} (h : DmS m n) : Mb64 m := by
 have h1 := h.id'
 have h5 := h.n5
 refine ⟨⟨by omega,by omega⟩,⟨by rw [h.hn];omega,by rw [h.hn];omega⟩,fun r hr => ?_⟩
 have hr := h.ok r hr
 have hv := hr.ver
 cases e : r.rdy with
 | true => have := (hr.rdy e).2.1;exact ⟨⟨by omega,by omega⟩,by omega,by omega⟩
 | false => rw [Rw64,(hr.not e).1];exact ⟨⟨by omega,by omega⟩,by omega,by omega⟩
theorem DmS.sz {m : Mb} {n : Nat} (h : DmS m n) : szMb m ≤ 1048576 := by
 have e2 : szP m.rows m.rows.length ≤ 300 * m.rows.length := by
  unfold szP
  rw [List.take_length]
  exact sum_le szRw 300 m.rows (fun r hr => (h.ok r hr).c8.2)
 have := h.rl
 have := h.sl
 unfold szMb szRs
 omega
theorem ow_tailF {α : Type} {F : α → List Cel} {s : Nat} (hF : ∀ x,(F x).length = s) (hs : 0 < s) {w : World} {x : α} {xs : List α} {g off c : Nat} {f : Fp} (h : Cel.ow w (lcl s F (x :: xs)) (.slice (some ⟨g,off,none⟩) (xs.length + 1) c) f) :
  (c = 1 → Cel.ow w (lcl s F xs) (.slice (some ⟨g,off,none⟩) 0 0) (fun _ => False) ∧ xs = []) ∧ (1 < c → ∃ f',Cel.ow w (lcl s F xs) (.slice (some ⟨g,off + s,none⟩) xs.length (c - 1)) f' ∧ ∀ b,f' b → f b) := by
 obtain ⟨a0,c0,us,G,f0,e,ho,hl,hn,hf⟩ := h
 cases e
 have hlen : (x :: xs).length = xs.length + 1 := rfl
 rw [hlen] at ho
 rcases ho with ⟨h0,_⟩ | ⟨g0,off0,e,ho,rfl⟩
 ·omega
 cases e
 have hle := ho.le
 refine ⟨fun hc => ?_,fun hc => ?_⟩
 ·have : xs = [] := List.eq_nil_of_length_eq_zero (by omega)
  subst this
  exact ⟨⟨_,0,[],none,fun _ => False,rfl,OSo.nil _ _ (plainS _ _),⟨rfl,fun _ h => h⟩,fun _ _ h => h,fun b => by simp⟩,rfl⟩
 ·rw [List.flatMap_cons] at hl
  obtain ⟨u1,u2,f1,f2,rfl,l1,l2,hd,hff⟩ := owL_split hl
  have hu1 : u1.length = s := by rw [owL_len l1,hF]
  refine ⟨fun b => some g = some b ∨ f2 b,⟨some ⟨g,off + s,none⟩,c - 1,u2,some g,f2,rfl,OSo.of ?_,l2,fun b hb hk => hn b hb ((hff b).2 (.inr hk)),fun b => Iff.rfl⟩,fun b hb => (hf b).2 (hb.imp id (fun h => (hff b).2 (.inr h)))⟩
  have hm : (xs.length + 1) * s = xs.length * s + s := by rw [Nat.add_mul,Nat.one_mul]
  have hlu := ho.len
  rw [List.length_append,hu1,hm] at hlu
  have hcs : (c - 1) * s + s = c * s := by
   have : c = (c - 1) + 1 := by omega
   rw [this,Nat.add_mul,Nat.one_mul]
   simp
  refine ⟨by omega,by omega,by have := ho.max;omega,ho.blk,fun i hi => ?_,fun i hi => ?_,fun i hi => ?_⟩
  ·have := ho.cell (s + i) (by rw [hm];omega)
   rw [show off + s + i = off + (s + i) by omega,this,List.getElem?_append_right (by omega),hu1]
   simp
  ·have := ho.some (s + i) (by omega)
   rwa [show off + s + i = off + (s + i) by omega]
  ·have := ho.free (s + i) (by omega)
   rwa [show off + s + i = off + (s + i) by omega]
set_option maxRecDepth 100000 in
set_option maxHeartbeats 6400000 in
theorem drawMa_any {w X : World} {p : Nat} {a : Option Addr} {len cap : Nat} {bs : Nat → Int} (h : Cc w X p a len cap bs) :
  Calls Tryz.prog 53 #[.pointer (some ⟨p,0,none⟩)] X fun e X' => ∃ m n,DmS m n ∧ AnsDm w X X' p a len cap bs e m := by
 have hmix := mixed17
 have hpX := h.lt
 have hwp := h.hp
 have b0 := oneA16 X (.cells #[.int .i64 0,.int .i64 0,.slice none 0 0,.slice none 0 0,.bool false] 27)
 have HR0 : Hid (Bx (X.alloc (.cells #[.int .i64 0,.int .i64 0,.slice none 0 0,.slice none 0 0,.bool false] 27)) X.heap.size 27 #[.int .i64 0,.int .i64 0,.slice none 0 0,.slice none 0 0,.bool false]) := Bx.new X _ _
 have HC0 : Hid (Cc w (X.alloc (.cells #[.int .i64 0,.int .i64 0,.slice none 0 0,.slice none 0 0,.bool false] 27)) p a len cap bs) := h.step b0
 have HG0 : Hid (X.grownBy (X.alloc (.cells #[.int .i64 0,.int .i64 0,.slice none 0 0,.slice none 0 0,.bool false] 27)) (some p)) := ⟨b0.os,b0.tape,b0.output,b0.size,fun x hx _ => b0.block x hx⟩
 have hX0 : X.heap.size < (X.alloc (.cells #[.int .i64 0,.int .i64 0,.slice none 0 0,.slice none 0 0,.bool false] 27)).heap.size := HR0.out.lt
 clear h b0
 generalize hWW : X.alloc (.cells #[.int .i64 0,.int .i64 0,.slice none 0 0,.slice none 0 0,.bool false] 27) = W0 at *
 have hD := drawMb_any HC0.out
 go_enter Tryz.func53,Tryz.ntmps53
 go_wp2_with fail
 refine hD.mono ?_
 rintro e W3 ⟨m0,⟨⟨i,n,hok⟩,hvb⟩,A,f0,rfl,hl,hf0,c3,g3⟩
 have HO0 : Hid (DmS m0 n) := hok.dms hvb
 have HN0 : Hid (m0.rows.length = n ∧ 1 ≤ n) := ⟨hok.len,hok.n5.1⟩
 have HSl : Hid (m0.sung.length ≤ 60) := hok.sl
 have hba := oneA16 W3 (.cells #[.int .i64 m0.id,.int .i64 m0.n,.slice A.ra m0.rows.length A.rc,.slice A.sa m0.sung.length A.sc,.bool m0.done] 27)
 have hxb := Bx.new W3 27 #[.int .i64 m0.id,.int .i64 m0.n,.slice A.ra m0.rows.length A.rc,.slice A.sa m0.sung.length A.sc,.bool m0.done]
 have hrl := (HR0.out.grown g3 (by simp;omega)).lt
 have hfl := owL_lt hl
 have HM : Hid (MD w X (W3.alloc (.cells #[.int .i64 m0.id,.int .i64 m0.n,.slice A.ra m0.rows.length A.rc,.slice A.sa m0.sung.length A.sc,.bool m0.done] 27)) p a len cap bs W3.heap.size m0 f0) := by
  refine ⟨c3.step hba,(HR0.out.grown g3 (by simp;omega)).below hba,box_plc hxb (owL_below hl hba) (fun k => by have := hfl _ k;omega),fun b hb => by have := hf0 b hb;omega,hpX,by omega, ?_⟩
  have hg2 : W3.grownBy (W3.alloc (.cells #[.int .i64 m0.id,.int .i64 m0.n,.slice A.ra m0.rows.length A.rc,.slice A.sa m0.sung.length A.sc,.bool m0.done] 27)) (some p) := ⟨hba.os,hba.tape,hba.output,hba.size,fun x hx _ => hba.block x hx⟩
  exact grown_trans (grown_trans HG0.out g3) hg2
 unfold mbV mbC
 clear hl hf0 hba hxb hok HR0 HC0 HG0 hfl c3 g3 hD
 go_wp2_with fail
 generalize W3.alloc (.cells #[.int .i64 m0.id,.int .i64 m0.n,.slice A.ra m0.rows.length A.rc,.slice A.sa m0.sung.length A.sc,.bool m0.done] 27) = W4 at *
 generalize W3.heap.size = o at *
 refine (onceC 12 HM.out.cc (by omega)).mono ?_
 rintro e W5 ⟨t,rfl,c5,g5⟩
 have HM5 : Hid (MD w X W5 p a len cap bs o m0 f0) := HM.out.drawn g5 c5
 clear c5 g5 HM
 go_upto_if 7 with fail
 go_cut [7] from 8 to 35 (fun _ wx => ∃ (m : Mb) (fp : Fp),DmS m n ∧ MD w X wx p a len cap bs o m fp)
 case first =>
  cases t with
  | false =>
   go_wp2
   go_meet
   case rel => exact ⟨m0,f0,HO0.out,HM5.out⟩
  | true =>
   have hB6 := belowC 4 4 rfl HM5.out.cc (by omega) (by omega)
   go_wp2_with fail
   refine hB6.mono ?_
   rintro e Y1 ⟨y,rfl,hy6,c6,g6⟩
   have HM1 : Hid (MD w X Y1 p a len cap bs o m0 f0) := HM5.out.drawn g6 c6
   clear c6 g6 hB6 HM5
   have hys : y = 0 ∨ y = 1 ∨ y = 2 ∨ y = 3 := by omega
   rcases hys with rfl | rfl | rfl | rfl
   ·have hF := fromC (-1) 7 (by omega) (by omega) (by omega) HM1.out.cc
    go_wp2_with fail
    refine hF.mono ?_
    rintro e Y2 ⟨x,rfl,hx1,hx2,c7,g7⟩
    have M2 := HM1.out.drawn g7 c7
    obtain ⟨v0,z0,hB⟩ := (Bcm.refl M2.plc).put (j := 0) (x := .int .i64 m0.id) rfl (.int .i64 x)
    obtain ⟨fp3,M3⟩ := M2.act (m' := { m0 with id := x }) hB
    simp only [Nat.zero_add] at v0 z0 M3
    have HE : Hid (∃ (m : Mb) (fp : Fp),DmS m n ∧ MD w X (Y2.setCell ⟨o,0,none⟩ (.int .i64 x)) p a len cap bs o m fp) := ⟨{ m0 with id := x },fp3,⟨⟨hx1,hx2⟩,HO0.out.hn,HO0.out.n5,HO0.out.ok,HO0.out.rl,HO0.out.sl,HO0.out.sg,HO0.out.vb⟩,M3⟩
    clear hF c7 g7 M2 hB M3 HM1
    go_wp2
    go_meet
    case rel => exact HE.out
   ·obtain ⟨gg,go,gc,M1w⟩ := Mw.start HM1.out.plc (by have := HN0.out;omega)
    obtain ⟨u,f,hu,hfz,how,hsub,hnB,hput⟩ := HM1.out.plc.at (j := 2) (c := lcl 8 rw8 m0.rows) rfl
    obtain rfl := Option.some.inj (hu.symm.trans M1w.rws)
    simp only [Nat.zero_add] at hu hfz hput
    obtain ⟨r0,R,hR⟩ : ∃ r0 R,m0.rows = r0 :: R := by
     cases e : m0.rows with
     | nil => have := HN0.out;rw [e] at this;simp at this;omega
     | cons r0 R => exact ⟨r0,R,rfl⟩
    have hl9 : m0.rows.length = R.length + 1 := by rw [hR];rfl
    have hcap : R.length + 1 ≤ gc := by
     have := how
     obtain ⟨_,_,_,_,_,e,ho,_⟩ := this
     cases e
     have := ho.le.1
     omega
    rw [hl9] at hu how
    rw [hR] at how
    have HD : Hid (∀ (u' : Value) (f' : Fp),Cel.ow Y1 (lcl 8 rw8 R) u' f' → (∀ b,f' b → f b) → ∃ (m : Mb) (fp : Fp),DmS m n ∧ MD w X (Y1.setCell ⟨o,2,none⟩ u') p a len cap bs o m fp) := fun u' f' h1 h2 => by
     obtain ⟨_,_,k3,_⟩ := hput Y1 (lcl 8 rw8 R) u' f' (Wrt.refl _ _) h1 (fun b hb => .inl (h2 b hb))
     obtain ⟨fp3,M3⟩ := HM1.out.act (m' := { m0 with rows := R }) k3
     exact ⟨{ m0 with rows := R },fp3,⟨HO0.out.id',HO0.out.hn,HO0.out.n5,fun r hr => HO0.out.ok r (by rw [hR];exact List.mem_cons_of_mem _ hr),by have := HO0.out.rl;simp only;omega,HO0.out.sl,HO0.out.sg,fun r hr => HO0.out.vb r (by rw [hR];exact List.mem_cons_of_mem _ hr)⟩,M3⟩
    have n1 : (1 : Int) ≤ ((R.length + 1 : Nat) : Int) := by omega
    have n2 : (1 : Int) ≤ (R.length : Int) + 1 := by omega
    obtain ⟨t1,t2⟩ := ow_tailF rw8_len (by omega) how
    by_cases hc1 : gc = 1
    ·subst hc1
     obtain ⟨k1,k2⟩ := t1 rfl
     subst k2
     have HE : Hid _ := HD.out _ _ k1 (fun b hb => hb.elim)
     clear hput how t1 t2 HD k1 HM1 M1w hR hl9
     go_wp2
     go_meet
     case rel => exact HE.out
    ·obtain ⟨f',k1,k2⟩ := t2 (by omega)
     have HE : Hid _ := HD.out _ f' k1 k2
     clear hput how t1 t2 HD k1 HM1 M1w hR hl9
     go_wp2
     go_meet
     case rel => exact HE.out
   ·obtain ⟨u,f,hu,hfz,how,hsub,hnB,hput⟩ := HM1.out.plc.at (j := 3) (c := icl m0.sung) rfl
    obtain ⟨sa,sc,_,rfl,_⟩ := ow_icl.1 how
    simp only [Nat.zero_add] at hu
    have hF := fromC (-1) 62 (by omega) (by omega) (by omega) (HM1.out.step (Same.drewN Y1 1).below).cc
    clear hfz how hput
    go_wp2_with fail
    refine gt_begin (S := fun X : World => X.cell? ⟨o,3,none⟩ = some (.slice sa m0.sung.length sc)) 7 hmix (by kernel_rfl) ?_
    have hHeld : (fun X : World => X.cell? ⟨o,3,none⟩ = some (.slice sa m0.sung.length sc)) Y1.drew := (hu)
    refine gt_take (i := 0) (v := ?_) rfl (by kernel_rfl) (by kernel_rfl) (by kernel_rfl) (by kernel_rfl) (fun _ _ _ h => h) (Or.inl ⟨by rfl, ?_⟩) hHeld ?_
    rotate_left
    ·(intro X hSX;(try dsimp only at hSX);have g0 := hSX;go_simp;try with_reducible rfl)
    try simp only [Act.put,List.setIfInBounds_toArray,List.set_cons_zero,List.set_cons_succ]
    refine gt_take (i := 1) (v := ?_) rfl (by kernel_rfl) (by kernel_rfl) (by kernel_rfl) (by kernel_rfl) (fun _ _ _ h => h) (Or.inl ⟨by rfl, ?_⟩) hHeld ?_
    rotate_left
    ·(intro X hSX;(try dsimp only at hSX);have g0 := hSX;go_simp;try with_reducible rfl)
    try simp only [Act.put,List.setIfInBounds_toArray,List.set_cons_zero,List.set_cons_succ]
    refine gt_pure (i := 2) (v := ?_) rfl (by kernel_rfl) (by kernel_rfl) (by kernel_rfl) (fun _ _ _ h => h) (Or.inl ⟨by rfl, ?_⟩) ?_
    rotate_left
    ·(intro X;go_simp;try with_reducible rfl)
    try simp only [Act.put,List.setIfInBounds_toArray,List.set_cons_zero,List.set_cons_succ]
    refine gt_one (i := 3) rfl (by kernel_rfl) (by kernel_rfl) (fun K hK => ?_)
    go_simp
    go_at_call 60
    refine hF.mono ?_
    rintro e Y2 ⟨x,rfl,hx1,hx2,c7,g7⟩
    have M2 := (HM1.out.step (Same.drewN Y1 1).below).drawn g7 c7
    obtain ⟨u,f,hu2,hfz,how,hsub,hnB,hput⟩ := M2.plc.at (j := 3) (c := icl m0.sung) rfl
    simp only [Nat.zero_add] at hu2 hput hfz
    have hu3 : Y2.cell? ⟨o,3,none⟩ = some (.slice sa m0.sung.length sc) := g7.cell (show (Y1.drewN 1).cell? ⟨o,3,none⟩ = _ from hu) (by have := HM1.out.hpo;have := HM1.out.ho;simp;omega)
    obtain rfl := Option.some.inj (hu2.symm.trans hu3)
    obtain ⟨a',c',ea,hA⟩ := ow_int_app x how (by have := HSl.out;omega)
    cases ea
    refine hK.out _ _ hu3 (fun hHeldN => ?_)
    clear hK hHeld
    have hHeld := hHeldN
    try simp only [Act.put,List.setIfInBounds_toArray,List.set_cons_zero,List.set_cons_succ]
    refine gt_one (i := 4) rfl (by kernel_rfl) (by kernel_rfl) (fun K hK => ?_)
    go_simp
    refine hK.out _ _ (((oneA16 Y2 (.cells #[.int .i64 x] 2)).cell (World.block_lt_of_cell? _ _ hu3)).trans hu3) (fun hHeldN => ?_)
    clear hK hHeld
    have hHeld := hHeldN
    try simp only [Act.put,List.setIfInBounds_toArray,List.set_cons_zero,List.set_cons_succ]
    refine gt_one (i := 5) rfl (by kernel_rfl) (by kernel_rfl) (fun K hK => ?_)
    refine step_append_of (by rfl) _ _ _ _ (by rfl) (.slice sa m0.sung.length sc) _ (by rfl) (by rfl) hA ⟨rfl,rfl,rfl,rfl⟩ ?_
    rintro v' w4 ⟨a4,c4,f4,rfl,q1,q2,q3⟩
    obtain ⟨k1,k2,k3,_⟩ := hput w4 (icl (m0.sung ++ [x])) _ f4 q3 q1 q2
    refine hK.out _ _ k1 (fun hHeldN => ?_)
    clear hK hHeld
    have hHeld := hHeldN
    try simp only [Act.put,List.setIfInBounds_toArray,List.set_cons_zero,List.set_cons_succ]
    refine gt_take (i := 6) (v := ?_) rfl (by kernel_rfl) (by kernel_rfl) (by kernel_rfl) (by kernel_rfl) (fun _ _ _ h => h) (Or.inl ⟨by rfl, ?_⟩) hHeld ?_
    rotate_left
    ·(intro X hSX;(try dsimp only at hSX);have g0 := hSX;go_simp;try with_reducible rfl)
    try simp only [Act.put,List.setIfInBounds_toArray,List.set_cons_zero,List.set_cons_succ]
    obtain ⟨fp3,M3⟩ := M2.act (m' := { m0 with sung := m0.sung ++ [x] }) k3
    have HE : Hid (∃ (m : Mb) (fp : Fp),DmS m n ∧ MD w X (w4.setCell ⟨o,3,none⟩ (.slice a4 (m0.sung.length + 1) c4)) p a len cap bs o m fp) := ⟨{ m0 with sung := m0.sung ++ [x] },fp3,⟨HO0.out.id',HO0.out.hn,HO0.out.n5,HO0.out.ok,HO0.out.rl,by have := HSl.out;simp;omega,fun y hy => by
     rcases List.mem_append.1 hy with h | h
     ·exact HO0.out.sg y h
     ·have : y = x := by simpa using h
      omega,HO0.out.vb⟩,M3⟩
    refine gt_last rfl (by kernel_rfl) (by kernel_rfl) (fun K hK => ?_)
    go_simp
    refine hK.out _ _ ?_
    clear hK hHeld hF c7 g7 M2 hA hput q1 q2 q3 k3 M3 HM1 how hu hu2 hu3
    go_wp2_with fail
    go_meet
    case rel => exact HE.out
   ·obtain ⟨v0,z0,hB⟩ := (Bcm.refl HM1.out.plc).put (j := 4) (x := .bool m0.done) rfl (.bool (!m0.done))
    obtain ⟨fp3,M3⟩ := HM1.out.act (m' := { m0 with done := !m0.done }) hB
    simp only [Nat.zero_add] at v0 z0 M3
    have HE : Hid (∃ (m : Mb) (fp : Fp),DmS m n ∧ MD w X (Y1.setCell ⟨o,4,none⟩ (.bool (!m0.done))) p a len cap bs o m fp) := ⟨{ m0 with done := !m0.done },fp3,⟨HO0.out.id',HO0.out.hn,HO0.out.n5,HO0.out.ok,HO0.out.rl,HO0.out.sl,HO0.out.sg,HO0.out.vb⟩,M3⟩
    clear hB M3 HM1
    go_wp2
    go_meet
    case rel => exact HE.out
 case rest =>
  obtain ⟨m,fp,hO,hM⟩ := hcut
  generalize wc = Y9 at *
  have HM : Hid (MD w X Y9 p a len cap bs o m fp) := hM
  have HO : Hid (DmS m n) := hO
  clear hM hO HM5 HO0 HN0
  obtain ⟨vs,hpc,hov,hnB⟩ := HM.out.plc
  obtain ⟨A9,rfl,hl9⟩ := mb5_ow hov
  have hl5 : (mbC A9 m).toList.length = 5 := rfl
  have c0 := hpc.cell 0 (by rw [hl5];omega)
  have c1 := hpc.cell 1 (by rw [hl5];omega)
  have c2 := hpc.cell 2 (by rw [hl5];omega)
  have c3 := hpc.cell 3 (by rw [hl5];omega)
  have c4 := hpc.cell 4 (by rw [hl5];omega)
  simp only [Nat.zero_add] at c0 c1 c2 c3 c4
  replace c0 : Y9.cell? ⟨o,0,none⟩ = some (.int .i64 m.id) := c0
  replace c1 : Y9.cell? ⟨o,1,none⟩ = some (.int .i64 m.n) := c1
  replace c2 : Y9.cell? ⟨o,2,none⟩ = some (.slice A9.ra m.rows.length A9.rc) := c2
  replace c3 : Y9.cell? ⟨o,3,none⟩ = some (.slice A9.sa m.sung.length A9.sc) := c3
  replace c4 : Y9.cell? ⟨o,4,none⟩ = some (.bool m.done) := c4
  obtain ⟨r0,r1,r2,r3,r4⟩ := Bx.r5 HM.out.res
  obtain ⟨f0',f1,f2,f3,f4⟩ := HM.out.res.f5
  have HA : Hid (∀ {x0 x1 x2 x3 x4 : Value},owL (((((Y9.setCell ⟨X.heap.size,0,none⟩ x0).setCell ⟨X.heap.size,1,none⟩ x1).setCell ⟨X.heap.size,2,none⟩ x2).setCell ⟨X.heap.size,3,none⟩ x3).setCell ⟨X.heap.size,4,none⟩ x4) (mbCels m) (mbVals A9 m) fp ∧ Cc w (((((Y9.setCell ⟨X.heap.size,0,none⟩ x0).setCell ⟨X.heap.size,1,none⟩ x1).setCell ⟨X.heap.size,2,none⟩ x2).setCell ⟨X.heap.size,3,none⟩ x3).setCell ⟨X.heap.size,4,none⟩ x4) p a len cap bs ∧ X.grownBy (((((Y9.setCell ⟨X.heap.size,0,none⟩ x0).setCell ⟨X.heap.size,1,none⟩ x1).setCell ⟨X.heap.size,2,none⟩ x2).setCell ⟨X.heap.size,3,none⟩ x3).setCell ⟨X.heap.size,4,none⟩ x4) (some p)) := fun {x0 x1 x2 x3 x4} => by
   have hw := wrt5 Y9 X.heap.size (a := x0) (b := x1) (c := x2) (d := x3) (e := x4)
   have h1 := HM.out.hpo
   have h3 := HM.out.lt
   exact ⟨owL_wrt hl9 hw (fun b hb e => by have := HM.out.fpl b hb;omega),HM.out.cc.wrt hw (by omega) (fun b e => by omega),grown_wrt HM.out.gr hw (fun b e => by omega)⟩
  have HFL : Hid (∀ b,fp b → X.heap.size ≤ b) := fun b hb => by have := HM.out.fpl b hb;omega
  clear hpc hov hl9 HM hnB hl5
  go_wp2
  refine bodyPost_ret (v := .agg #[.int .i64 m.id,.int .i64 m.n,.slice A9.ra m.rows.length A9.rc,.slice A9.sa m.sung.length A9.sc,.bool m.done]) (by simp [results,Tryz.results53,go_sem, *]) rfl ?_
  exact ⟨m,n,HO.out,A9,fp,rfl,HA.out.1,HFL.out,HA.out.2⟩
end Go.Proofs.YthioodpmgifomaaGreat
namespace Go.Proofs.YthioodpmgifomaaGreat
set_option linter.unusedVariables false
set_option linter.unusedSimpArgs false
open Go.RowKit Go.Sort
def DrM (w w' : World) (A : Ma) (m : Mb) (n : Nat) : Prop := It w' (mbCels m) (mbVals A m) w.heap.size w'.heap.size ∧ DmS m n ∧ Below w.heap.size w w'
structure ME (w Y : World) (p : Nat) (a : Option Addr) (len cap : Nat) (bs : Nat → Int) (o : Nat) (A : Ma) (m : Mb) (fp : Fp) : Prop where
 cc : Cc w Y p a len cap bs
 res : Bx Y w.heap.size 27 #[.int .i64 0,.int .i64 0,.slice none 0 0,.slice none 0 0,.bool false]
 hp : w.heap.size < p
 own : Bx Y o 27 #[.int .i64 m.id,.int .i64 m.n,.slice A.ra m.rows.length A.rc,.slice A.sa m.sung.length A.sc,.bool m.done]
 ls : owL Y (mbCels m) (mbVals A m) fp
 fpl : ∀ b,fp b → p < b
 ho : p < o
section
variable {w Y Y' : World} {p : Nat} {a : Option Addr} {len cap : Nat} {bs : Nat → Int} {o : Nat} {A : Ma} {m : Mb} {fp : Fp}
theorem ME.drawn (h : ME w Y p a len cap bs o A m fp) (hg : Y.grownBy Y' (some p)) (hc : Cc w Y' p a len cap bs) : ME w Y' p a len cap bs o A m fp := by
 have h1 := h.hp
 have h2 := h.ho
 exact ⟨hc,h.res.grown hg (by simp;omega),h1,h.own.grown hg (by simp;omega),owL_wrt h.ls (Wrt.of_grown hg) (fun b hb e => by cases e;have := h.fpl _ hb;omega),h.fpl,h2⟩
theorem ME.step (h : ME w Y p a len cap bs o A m fp) (hb : Below Y.heap.size Y Y') : ME w Y' p a len cap bs o A m fp :=
 ⟨h.cc.step hb,h.res.below hb,h.hp,h.own.below hb,owL_below h.ls hb,h.fpl,h.ho⟩
theorem ME.ans (h : ME w Y p a len cap bs o A m fp) {n : Nat} (hS : DmS m n) {x0 x1 x2 x3 x4 : Value} : DrM w (((((Y.setCell ⟨w.heap.size,0,none⟩ x0).setCell ⟨w.heap.size,1,none⟩ x1).setCell ⟨w.heap.size,2,none⟩ x2).setCell ⟨w.heap.size,3,none⟩ x3).setCell ⟨w.heap.size,4,none⟩ x4) A m n := by
 have hw := wrt5 Y w.heap.size (a := x0) (b := x1) (c := x2) (d := x3) (e := x4)
 have h1 := h.hp
 refine ⟨owL_it (owL_wrt h.ls hw (fun b hb e => by have := h.fpl b hb;omega)) (fun b hb => by have := h.fpl b hb;omega),hS,hw.below h.cc.below h.cc.below.size (fun b e => by rw [e];exact Nat.le_refl _)⟩
theorem DrM.step {n : Nat} (h : DrM w Y A m n) (hb : Below Y.heap.size Y Y') : DrM w Y' A m n := ⟨(h.1.below hb).wide hb.size (Nat.le_refl _),h.2.1,h.2.2.trans (hb.mono h.2.2.size)⟩
theorem bx_put5 {B : Nat} {T : TypeId} {y0 y1 y2 y3 y4 x0 x1 x2 x3 x4 : Value} (h : Bx Y B T #[y0,y1,y2,y3,y4]) : Bx (((((Y.setCell ⟨B,0,none⟩ x0).setCell ⟨B,1,none⟩ x1).setCell ⟨B,2,none⟩ x2).setCell ⟨B,3,none⟩ x3).setCell ⟨B,4,none⟩ x4) B T #[x0,x1,x2,x3,x4] := by
 have := ((((h.setC 0 x0).setC 1 x1).setC 2 x2).setC 3 x3).setC 4 x4
 simpa using this
theorem by_made (w : World) (n : Nat) (hn : n ≤ 1048576) : OBy (w.alloc (.cells (madeCells #[.int .u8 0] n) 5)) w.heap.size 0 (List.replicate n (0 : UInt8)).length n (List.replicate n 0) := by
 have h := osl_made w #[.int .u8 0] 1 n 5 rfl (by omega) (by unfold maxLen;omega)
 have e : bys (List.replicate n 0) = (List.replicate n (#[Value.int .u8 0] : Array Value).toList).flatten := by
  simp only [bys,List.map_replicate]
  clear h hn
  induction n with
  | zero => rfl
  | succ n ih => rw [List.replicate_succ,List.replicate_succ,List.flatten_cons,← ih];rfl
 rw [← e,Nat.mul_one] at h
 rw [List.length_replicate]
 exact h
theorem ME.keep (h : ME w Y p a len cap bs o A m fp) {x0 x1 x2 x3 x4 : Value} : Bx (((((Y.setCell ⟨w.heap.size,0,none⟩ x0).setCell ⟨w.heap.size,1,none⟩ x1).setCell ⟨w.heap.size,2,none⟩ x2).setCell ⟨w.heap.size,3,none⟩ x3).setCell ⟨w.heap.size,4,none⟩ x4) o 27 #[.int .i64 m.id,.int .i64 m.n,.slice A.ra m.rows.length A.rc,.slice A.sa m.sung.length A.sc,.bool m.done] := by
 have h1 := h.hp
 have h2 := h.ho
 exact h.own.wrt (wrt5 Y w.heap.size) (by omega)
end
set_option maxRecDepth 100000 in
set_option maxHeartbeats 1600000 in
theorem drawNm_any (a : Option Addr) (len cap : Nat) (bs : Nat → Int) (w : World) (hv : BVec w a len bs) (hl : len ≤ 4096) :
  Calls Tryz.prog 16 #[.slice a len cap] w fun e w' => ∃ x y : Int,e = .returned (.tuple #[.int .i64 x,.int .i64 y]) ∧ (-1 ≤ x ∧ x ≤ 7) ∧ (-1 ≤ y ∧ y ≤ 8) ∧ Below w.heap.size w w' := by
 have hN := newC a len cap bs w w (Below.refl _ _) hv hl
 go_enter Tryz.func16,Tryz.ntmps16
 go_wp2_with fail
 refine hN.mono ?_
 rintro e X1 ⟨p,rfl,hp,c1,hb1⟩
 have hF := fromC (-1) 7 (by omega) (by omega) (by omega) c1
 clear hN c1 hb1
 go_wp2_with fail
 refine hF.mono ?_
 rintro e X2 ⟨x,rfl,hx1,hx2,c2,g2⟩
 have hF2 := fromC (-1) 8 (by omega) (by omega) (by omega) c2
 clear hF c2 g2
 go_wp2_with fail
 refine hF2.mono ?_
 rintro e X3 ⟨y,rfl,hy1,hy2,c3,g3⟩
 have HB : Hid (Below w.heap.size w X3) := c3.below
 clear hF2 c3 g3
 go_wp2
 refine bodyPost_ret (v := .tuple #[.int .i64 x,.int .i64 y]) (by simp [results,Tryz.results16,go_sem, *]) rfl ?_
 exact ⟨x,y,rfl,⟨hx1,hx2⟩,⟨hy1,hy2⟩,HB.out⟩
set_option maxRecDepth 100000 in
set_option maxHeartbeats 3200000 in
theorem drawDb_any (a : Option Addr) (len cap : Nat) (bs : Nat → Int) (w : World) (hv : BVec w a len bs) (hl : len ≤ 4096) :
  Calls Tryz.prog 12 #[.slice a len cap] w fun e w' => ∃ (A : Ma) (m : Mb) (n : Nat) (x : Int),e = .returned (.tuple #[mbV A m,.int .i64 x]) ∧ (-1 ≤ x ∧ x ≤ 7) ∧ DrM w w' A m n := by
 have hmix := mixed17
 have hb0 := oneA16 w (.cells #[.int .i64 0,.int .i64 0,.slice none 0 0,.slice none 0 0,.bool false] 27)
 have HR : Hid (Bx (w.alloc (.cells #[.int .i64 0,.int .i64 0,.slice none 0 0,.slice none 0 0,.bool false] 27)) w.heap.size 27 #[.int .i64 0,.int .i64 0,.slice none 0 0,.slice none 0 0,.bool false]) := Bx.new w _ _
 have hN := newC a len cap bs w _ hb0 hv hl
 generalize hX0 : w.alloc (.cells #[.int .i64 0,.int .i64 0,.slice none 0 0,.slice none 0 0,.bool false] 27) = X0 at *
 clear hb0
 go_enter Tryz.func12,Tryz.ntmps12
 go_wp2_with fail
 refine hN.mono ?_
 rintro e X1 ⟨p,rfl,hp,c1,hb1⟩
 have HR1 : Hid (Bx X1 w.heap.size 27 #[.int .i64 0,.int .i64 0,.slice none 0 0,.slice none 0 0,.bool false]) := HR.out.below hb1
 have hwp : w.heap.size < p := by have := HR.out.lt;omega
 have hp1 := c1.lt
 have hD := drawMa_any c1
 clear hN c1 hb1 HR
 go_wp2_with fail
 refine hD.mono ?_
 rintro e X2 ⟨m,n,hS,A,fp,rfl,hlo,hf,c2,g2⟩
 have HS : Hid (DmS m n) := hS
 have hba := oneA16 X2 (.cells #[.int .i64 m.id,.int .i64 m.n,.slice A.ra m.rows.length A.rc,.slice A.sa m.sung.length A.sc,.bool m.done] 27)
 have hxb := Bx.new X2 27 #[.int .i64 m.id,.int .i64 m.n,.slice A.ra m.rows.length A.rc,.slice A.sa m.sung.length A.sc,.bool m.done]
 have hlt2 := g2.size
 have HM : Hid (ME w (X2.alloc (.cells #[.int .i64 m.id,.int .i64 m.n,.slice A.ra m.rows.length A.rc,.slice A.sa m.sung.length A.sc,.bool m.done] 27)) p a len cap bs X2.heap.size A m fp) := ⟨c2.step hba,(HR1.out.grown g2 (by simp;omega)).below hba,hwp,hxb,owL_below hlo hba,fun b hb => by have := hf b hb;omega,by omega⟩
 unfold mbV mbC
 clear hD hS hlo hf c2 g2 hba hxb HR1
 go_upto_region 3 with fail
 generalize hVV : X2.alloc (.cells #[.int .i64 m.id,.int .i64 m.n,.slice A.ra m.rows.length A.rc,.slice A.sa m.sung.length A.sc,.bool m.done] 27) = V at *
 generalize X2.heap.size = o at *
 have hF := fromC (-1) 7 (by omega) (by omega) (by omega) (HM.out.step (Same.drewN V 1).below).cc
 refine gt_begin (S := fun X : World => X.cell? ⟨o,0,none⟩ = some (.int .i64 m.id) ∧ X.cell? ⟨o,1,none⟩ = some (.int .i64 m.n) ∧ X.cell? ⟨o,2,none⟩ = some (.slice A.ra m.rows.length A.rc) ∧ X.cell? ⟨o,3,none⟩ = some (.slice A.sa m.sung.length A.sc) ∧ X.cell? ⟨o,4,none⟩ = some (.bool m.done)) 5 hmix (by kernel_rfl) ?_
 have hHeld : (fun X : World => X.cell? ⟨o,0,none⟩ = some (.int .i64 m.id) ∧ X.cell? ⟨o,1,none⟩ = some (.int .i64 m.n) ∧ X.cell? ⟨o,2,none⟩ = some (.slice A.ra m.rows.length A.rc) ∧ X.cell? ⟨o,3,none⟩ = some (.slice A.sa m.sung.length A.sc) ∧ X.cell? ⟨o,4,none⟩ = some (.bool m.done)) V.drew := ((Bx.r5 HM.out.own))
 refine gt_takeA (i := 0) (v := ?_) rfl (by kernel_rfl) (by kernel_rfl) (by kernel_rfl) (by kernel_rfl) (fun _ _ _ h => h) (Or.inl ⟨by rfl, ?_⟩) hHeld ?_
 rotate_left
 ·(intro X hSX;(try dsimp only at hSX);obtain ⟨g0,g1,g2,g3,g4⟩ := hSX;go_simp;try with_reducible rfl)
 try simp only [Act.put,List.setIfInBounds_toArray,List.set_cons_zero,List.set_cons_succ]
 refine gt_pure (i := 1) (v := ?_) rfl (by kernel_rfl) (by kernel_rfl) (by kernel_rfl) (fun _ _ _ h => h) (Or.inl ⟨by rfl, ?_⟩) ?_
 rotate_left
 ·(intro X;go_simp;try with_reducible rfl)
 try simp only [Act.put,List.setIfInBounds_toArray,List.set_cons_zero,List.set_cons_succ]
 refine gt_one (i := 2) rfl (by kernel_rfl) (by kernel_rfl) (fun K hK => ?_)
 go_simp
 go_at_call 60
 refine hF.mono ?_
 rintro e Y2 ⟨x,rfl,hx1,hx2,c7,g7⟩
 have M2 := (HM.out.step (Same.drewN V 1).below).drawn g7 c7
 refine hK.out _ _ (Bx.r5 M2.own) (fun hHeldN => ?_)
 clear hK hHeld
 have hHeld := hHeldN
 try simp only [Act.put,List.setIfInBounds_toArray,List.set_cons_zero,List.set_cons_succ]
 obtain ⟨z0,z1,z2,z3,z4⟩ := Bx.r5 M2.res
 obtain ⟨f0,f1,f2,f3,f4⟩ := M2.res.f5
 refine gt_one (i := 3) rfl (by kernel_rfl) (by kernel_rfl) (fun K hK => ?_)
 go_simp
 refine hK.out _ _ (Bx.r5 M2.keep) (fun hHeldN => ?_)
 clear hK hHeld
 have hHeld := hHeldN
 try simp only [Act.put,List.setIfInBounds_toArray,List.set_cons_zero,List.set_cons_succ]
 refine gt_pure (i := 4) (v := ?_) rfl (by kernel_rfl) (by kernel_rfl) (by kernel_rfl) (fun _ _ _ h => h) (Or.inl ⟨by rfl, ?_⟩) ?_
 rotate_left
 ·(intro X;go_simp;try with_reducible rfl)
 try simp only [Act.put,List.setIfInBounds_toArray,List.set_cons_zero,List.set_cons_succ]
 refine gt_end (by kernel_rfl) ?_
 have HE : Hid (∀ {x0 x1 x2 x3 x4 : Value},DrM w (((((Y2.setCell ⟨w.heap.size,0,none⟩ x0).setCell ⟨w.heap.size,1,none⟩ x1).setCell ⟨w.heap.size,2,none⟩ x2).setCell ⟨w.heap.size,3,none⟩ x3).setCell ⟨w.heap.size,4,none⟩ x4) A m n) := fun {_ _ _ _ _} => M2.ans HS.out
 clear hF c7 g7 M2 HM
 try go_wp2
 refine bodyPost_ret (v := .tuple #[.agg #[.int .i64 m.id,.int .i64 m.n,.slice A.ra m.rows.length A.rc,.slice A.sa m.sung.length A.sc,.bool m.done],.int .i64 x]) (by simp [results,Tryz.results12,go_sem, *]) rfl ?_
 exact ⟨A,m,n,x,rfl,⟨hx1,hx2⟩,HE.out⟩
attribute [local irreducible] sv
set_option maxRecDepth 100000 in
set_option maxHeartbeats 3200000 in
theorem drawSy_any (a : Option Addr) (len cap : Nat) (bs : Nat → Int) (w : World) (hv : BVec w a len bs) (hl : len ≤ 4096) :
  Calls Tryz.prog 10 #[.slice a len cap] w fun e w' => ∃ (A : Ma) (m : Mb) (n : Nat) (t : List UInt8),e = .returned (.tuple #[mbV A m,.string (sv t)]) ∧ t.length ≤ 21 ∧ DrM w w' A m n := by
 have hmix := mixed17
 have hb0 := oneA16 w (.cells #[.int .i64 0,.int .i64 0,.slice none 0 0,.slice none 0 0,.bool false] 27)
 have HR : Hid (Bx (w.alloc (.cells #[.int .i64 0,.int .i64 0,.slice none 0 0,.slice none 0 0,.bool false] 27)) w.heap.size 27 #[.int .i64 0,.int .i64 0,.slice none 0 0,.slice none 0 0,.bool false]) := Bx.new w _ _
 have hN := newC a len cap bs w _ hb0 hv hl
 generalize hX0 : w.alloc (.cells #[.int .i64 0,.int .i64 0,.slice none 0 0,.slice none 0 0,.bool false] 27) = X0 at *
 clear hb0
 go_enter Tryz.func10,Tryz.ntmps10
 go_wp2_with fail
 refine hN.mono ?_
 rintro e X1 ⟨p,rfl,hp,c1,hb1⟩
 have HR1 : Hid (Bx X1 w.heap.size 27 #[.int .i64 0,.int .i64 0,.slice none 0 0,.slice none 0 0,.bool false]) := HR.out.below hb1
 have hwp : w.heap.size < p := by have := HR.out.lt;omega
 have hp1 := c1.lt
 have hD := drawMa_any c1
 clear hN c1 hb1 HR
 go_wp2_with fail
 refine hD.mono ?_
 rintro e X2 ⟨m,n,hS,A,fp,rfl,hlo,hf,c2,g2⟩
 have HS : Hid (DmS m n) := hS
 have hba := oneA16 X2 (.cells #[.int .i64 m.id,.int .i64 m.n,.slice A.ra m.rows.length A.rc,.slice A.sa m.sung.length A.sc,.bool m.done] 27)
 have hxb := Bx.new X2 27 #[.int .i64 m.id,.int .i64 m.n,.slice A.ra m.rows.length A.rc,.slice A.sa m.sung.length A.sc,.bool m.done]
 have hlt2 := g2.size
 have HM : Hid (ME w (X2.alloc (.cells #[.int .i64 m.id,.int .i64 m.n,.slice A.ra m.rows.length A.rc,.slice A.sa m.sung.length A.sc,.bool m.done] 27)) p a len cap bs X2.heap.size A m fp) := ⟨c2.step hba,(HR1.out.grown g2 (by simp;omega)).below hba,hwp,hxb,owL_below hlo hba,fun b hb => by have := hf b hb;omega,by omega⟩
 unfold mbV mbC
 clear hD hS hlo hf c2 g2 hba hxb HR1
 go_upto_region 3 with fail
 generalize hVV : X2.alloc (.cells #[.int .i64 m.id,.int .i64 m.n,.slice A.ra m.rows.length A.rc,.slice A.sa m.sung.length A.sc,.bool m.done] 27) = V at *
 generalize X2.heap.size = o at *
 have hO := onceC 10 HM.out.cc (by omega)
 go_wp2_with fail
 refine hO.mono ?_
 rintro e V2 ⟨tt,rfl,c5,g5⟩
 have HM2 : Hid (ME w V2 p a len cap bs o A m fp) := HM.out.drawn g5 c5
 clear hO c5 g5 HM
 have HM := HM2
 clear HM2
 cases tt with
 | false =>
  go_upto_region 5 with fail
  have hF := textR 3 3 rfl (by omega) (HM.out.step (Same.drewN V2 1).below).cc
  refine gt_begin (S := fun X : World => X.cell? ⟨o,0,none⟩ = some (.int .i64 m.id) ∧ X.cell? ⟨o,1,none⟩ = some (.int .i64 m.n) ∧ X.cell? ⟨o,2,none⟩ = some (.slice A.ra m.rows.length A.rc) ∧ X.cell? ⟨o,3,none⟩ = some (.slice A.sa m.sung.length A.sc) ∧ X.cell? ⟨o,4,none⟩ = some (.bool m.done)) 5 hmix (by kernel_rfl) ?_
  have hHeld : (fun X : World => X.cell? ⟨o,0,none⟩ = some (.int .i64 m.id) ∧ X.cell? ⟨o,1,none⟩ = some (.int .i64 m.n) ∧ X.cell? ⟨o,2,none⟩ = some (.slice A.ra m.rows.length A.rc) ∧ X.cell? ⟨o,3,none⟩ = some (.slice A.sa m.sung.length A.sc) ∧ X.cell? ⟨o,4,none⟩ = some (.bool m.done)) V2.drew := ((Bx.r5 HM.out.own))
  refine gt_takeA (i := 0) (v := ?_) rfl (by kernel_rfl) (by kernel_rfl) (by kernel_rfl) (by kernel_rfl) (fun _ _ _ h => h) (Or.inl ⟨by rfl, ?_⟩) hHeld ?_
  rotate_left
  ·(intro X hSX;(try dsimp only at hSX);obtain ⟨g0,g1,g2,g3,g4⟩ := hSX;go_simp;try with_reducible rfl)
  try simp only [Act.put,List.setIfInBounds_toArray,List.set_cons_zero,List.set_cons_succ]
  refine gt_pure (i := 1) (v := ?_) rfl (by kernel_rfl) (by kernel_rfl) (by kernel_rfl) (fun _ _ _ h => h) (Or.inl ⟨by rfl, ?_⟩) ?_
  rotate_left
  ·(intro X;go_simp;try with_reducible rfl)
  try simp only [Act.put,List.setIfInBounds_toArray,List.set_cons_zero,List.set_cons_succ]
  refine gt_one (i := 2) rfl (by kernel_rfl) (by kernel_rfl) (fun K hK => ?_)
  go_simp
  go_at_call 56
  refine hF.mono ?_
  rintro e Y2 ⟨t,rfl,ht,c7,g7⟩
  have M2 := (HM.out.step (Same.drewN V2 1).below).drawn g7 c7
  refine hK.out _ _ (Bx.r5 M2.own) (fun hHeldN => ?_)
  clear hK hHeld
  have hHeld := hHeldN
  try simp only [Act.put,List.setIfInBounds_toArray,List.set_cons_zero,List.set_cons_succ]
  obtain ⟨z0,z1,z2,z3,z4⟩ := Bx.r5 M2.res
  obtain ⟨f0,f1,f2,f3,f4⟩ := M2.res.f5
  refine gt_one (i := 3) rfl (by kernel_rfl) (by kernel_rfl) (fun K hK => ?_)
  go_simp
  refine hK.out _ _ (Bx.r5 M2.keep) (fun hHeldN => ?_)
  clear hK hHeld
  have hHeld := hHeldN
  try simp only [Act.put,List.setIfInBounds_toArray,List.set_cons_zero,List.set_cons_succ]
  refine gt_pure (i := 4) (v := ?_) rfl (by kernel_rfl) (by kernel_rfl) (by kernel_rfl) (fun _ _ _ h => h) (Or.inl ⟨by rfl, ?_⟩) ?_
  rotate_left
  ·(intro X;go_simp;try with_reducible rfl)
  try simp only [Act.put,List.setIfInBounds_toArray,List.set_cons_zero,List.set_cons_succ]
  refine gt_end (by kernel_rfl) ?_
  have HE : Hid (∀ {x0 x1 x2 x3 x4 : Value},DrM w (((((Y2.setCell ⟨w.heap.size,0,none⟩ x0).setCell ⟨w.heap.size,1,none⟩ x1).setCell ⟨w.heap.size,2,none⟩ x2).setCell ⟨w.heap.size,3,none⟩ x3).setCell ⟨w.heap.size,4,none⟩ x4) A m n) := fun {_ _ _ _ _} => M2.ans HS.out
  clear hF c7 g7 M2 HM
  try go_wp2
  refine bodyPost_ret (v := .tuple #[.agg #[.int .i64 m.id,.int .i64 m.n,.slice A.ra m.rows.length A.rc,.slice A.sa m.sung.length A.sc,.bool m.done],.string (sv t)]) (by simp [results,Tryz.results10,go_sem, *]) rfl ?_
  exact ⟨A,m,n,t,rfl,by omega,HE.out⟩
 | true =>
  go_upto_region 4 with fail
  have hF := belowC 2 2 rfl (HM.out.step (Same.drewN V2 1).below).cc (by omega) (by omega)
  refine gt_begin (S := fun X : World => X.cell? ⟨o,0,none⟩ = some (.int .i64 m.id) ∧ X.cell? ⟨o,1,none⟩ = some (.int .i64 m.n) ∧ X.cell? ⟨o,2,none⟩ = some (.slice A.ra m.rows.length A.rc) ∧ X.cell? ⟨o,3,none⟩ = some (.slice A.sa m.sung.length A.sc) ∧ X.cell? ⟨o,4,none⟩ = some (.bool m.done)) 8 hmix (by kernel_rfl) ?_
  have hHeld : (fun X : World => X.cell? ⟨o,0,none⟩ = some (.int .i64 m.id) ∧ X.cell? ⟨o,1,none⟩ = some (.int .i64 m.n) ∧ X.cell? ⟨o,2,none⟩ = some (.slice A.ra m.rows.length A.rc) ∧ X.cell? ⟨o,3,none⟩ = some (.slice A.sa m.sung.length A.sc) ∧ X.cell? ⟨o,4,none⟩ = some (.bool m.done)) V2.drew := ((Bx.r5 HM.out.own))
  refine gt_takeA (i := 0) (v := ?_) rfl (by kernel_rfl) (by kernel_rfl) (by kernel_rfl) (by kernel_rfl) (fun _ _ _ h => h) (Or.inl ⟨by rfl, ?_⟩) hHeld ?_
  rotate_left
  ·(intro X hSX;(try dsimp only at hSX);obtain ⟨g0,g1,g2,g3,g4⟩ := hSX;go_simp;try with_reducible rfl)
  try simp only [Act.put,List.setIfInBounds_toArray,List.set_cons_zero,List.set_cons_succ]
  refine gt_pure (i := 1) (v := ?_) rfl (by kernel_rfl) (by kernel_rfl) (by kernel_rfl) (fun _ _ _ h => h) (Or.inl ⟨by rfl, ?_⟩) ?_
  rotate_left
  ·(intro X;go_simp;try with_reducible rfl)
  try simp only [Act.put,List.setIfInBounds_toArray,List.set_cons_zero,List.set_cons_succ]
  refine gt_one (i := 2) rfl (by kernel_rfl) (by kernel_rfl) (fun K hK => ?_)
  go_simp
  go_at_call 55
  refine hF.mono ?_
  rintro e Y2 ⟨z,rfl,hz,c7,g7⟩
  have M2 := (HM.out.step (Same.drewN V2 1).below).drawn g7 c7
  refine hK.out _ _ (Bx.r5 M2.own) (fun hHeldN => ?_)
  clear hK hHeld
  have hHeld := hHeldN
  try simp only [Act.put,List.setIfInBounds_toArray,List.set_cons_zero,List.set_cons_succ]
  obtain ⟨MM,hM⟩ : ∃ MM : Nat,20 + z = MM := ⟨_,rfl⟩
  have hMi : IntKind.i64.wrap ((20 : Int) + (z : Int)) = (MM : Int) := by rw [IntKind.wrap_i64];omega
  have hmk := make_byR MM (by omega)
  have hml : (List.replicate MM (0 : UInt8)).length ≤ 21 := by rw [List.length_replicate];omega
  have HLt : Hid ((List.replicate MM (0 : UInt8)).length = MM) := List.length_replicate
  have hby := fun Y => by_made Y MM (by omega)
  generalize List.replicate MM (0 : UInt8) = t at *
  refine gt_pure (i := 3) (v := ?_) rfl (by kernel_rfl) (by kernel_rfl) (by kernel_rfl) (fun _ _ _ h => h) (Or.inl ⟨by rfl, ?_⟩) ?_
  rotate_left
  ·(intro X;go_simp;try with_reducible rfl)
  try simp only [Act.put,List.setIfInBounds_toArray,List.set_cons_zero,List.set_cons_succ]
  obtain ⟨z0,z1,z2,z3,z4⟩ := Bx.r5 M2.res
  obtain ⟨f0,f1,f2,f3,f4⟩ := M2.res.f5
  refine gt_two (i := 4) (j := 6) rfl rfl (by kernel_rfl) (by kernel_rfl) (fun K hK => ?_) (fun K hK => ?_)
  ·go_simp
   have hbm := oneA16 Y2 (.cells (madeCells #[.int .u8 0] MM) 5)
   have M3 := M2.step hbm
   have hb3 := hby Y2
   have hlY : w.heap.size < Y2.heap.size := M2.res.lt
   generalize hV3 : Y2.alloc (.cells (madeCells #[.int .u8 0] MM) 5) = Y3 at *
   generalize hB3 : Y2.heap.size = b3 at *
   have hc3 := hb3.str
   rw [HLt.out] at hc3
   clear z0 z1 z2 z3 z4 f0 f1 f2 f3 f4
   obtain ⟨z0,z1,z2,z3,z4⟩ := Bx.r5 M3.res
   obtain ⟨f0,f1,f2,f3,f4⟩ := M3.res.f5
   refine hK.out _ _ (Bx.r5 M3.own) (fun hHeldN => ?_)
   clear hK hHeld
   have hHeld := hHeldN
   try simp only [Act.put,List.setIfInBounds_toArray,List.set_cons_zero,List.set_cons_succ]
   refine gt_two (i := 5) (j := 6) rfl rfl (by kernel_rfl) (by kernel_rfl) (fun K hK => ?_) (fun K hK => ?_)
   ·go_simp
    refine hK.out _ _ (Bx.r5 M3.own) (fun hHeldN => ?_)
    clear hK hHeld
    have hHeld := hHeldN
    try simp only [Act.put,List.setIfInBounds_toArray,List.set_cons_zero,List.set_cons_succ]
    refine gt_one (i := 6) rfl (by kernel_rfl) (by kernel_rfl) (fun K hK => ?_)
    go_simp
    refine hK.out _ _ (Bx.r5 M3.keep) (fun hHeldN => ?_)
    clear hK hHeld
    have hHeld := hHeldN
    try simp only [Act.put,List.setIfInBounds_toArray,List.set_cons_zero,List.set_cons_succ]
    refine gt_pure (i := 7) (v := ?_) rfl (by kernel_rfl) (by kernel_rfl) (by kernel_rfl) (fun _ _ _ h => h) (Or.inl ⟨by rfl, ?_⟩) ?_
    rotate_left
    ·(intro X;go_simp;try with_reducible rfl)
    try simp only [Act.put,List.setIfInBounds_toArray,List.set_cons_zero,List.set_cons_succ]
    refine gt_end (by kernel_rfl) ?_
    have hE : DrM w (((((Y3.setCell ⟨w.heap.size,0,none⟩ (.int .i64 m.id)).setCell ⟨w.heap.size,1,none⟩ (.int .i64 m.n)).setCell ⟨w.heap.size,2,none⟩ (.slice A.ra m.rows.length A.rc)).setCell ⟨w.heap.size,3,none⟩ (.slice A.sa m.sung.length A.sc)).setCell ⟨w.heap.size,4,none⟩ (.bool m.done)) A m n := M3.ans HS.out
    have hR : Bx (((((Y3.setCell ⟨w.heap.size,0,none⟩ (.int .i64 m.id)).setCell ⟨w.heap.size,1,none⟩ (.int .i64 m.n)).setCell ⟨w.heap.size,2,none⟩ (.slice A.ra m.rows.length A.rc)).setCell ⟨w.heap.size,3,none⟩ (.slice A.sa m.sung.length A.sc)).setCell ⟨w.heap.size,4,none⟩ (.bool m.done)) w.heap.size 27 #[.int .i64 m.id,.int .i64 m.n,.slice A.ra m.rows.length A.rc,.slice A.sa m.sung.length A.sc,.bool m.done] := bx_put5 M3.res
    have HE : Hid (DrM w _ A m n) := hE
    obtain ⟨r0,r1,r2,r3,r4⟩ := Bx.r5 hR
    clear hHeld
    try go_wp2
    refine bodyPost_ret (v := .tuple #[.agg #[.int .i64 m.id,.int .i64 m.n,.slice A.ra m.rows.length A.rc,.slice A.sa m.sung.length A.sc,.bool m.done],.string (sv t)]) (by simp [results,Tryz.results10,go_sem, *]) rfl ?_
    exact ⟨A,m,n,t,rfl,hml,HE.out⟩
   ·go_simp
    have hE : DrM w (((((Y3.setCell ⟨w.heap.size,0,none⟩ (.int .i64 m.id)).setCell ⟨w.heap.size,1,none⟩ (.int .i64 m.n)).setCell ⟨w.heap.size,2,none⟩ (.slice A.ra m.rows.length A.rc)).setCell ⟨w.heap.size,3,none⟩ (.slice A.sa m.sung.length A.sc)).setCell ⟨w.heap.size,4,none⟩ (.bool m.done)) A m n := M3.ans HS.out
    have hR : Bx (((((Y3.setCell ⟨w.heap.size,0,none⟩ (.int .i64 m.id)).setCell ⟨w.heap.size,1,none⟩ (.int .i64 m.n)).setCell ⟨w.heap.size,2,none⟩ (.slice A.ra m.rows.length A.rc)).setCell ⟨w.heap.size,3,none⟩ (.slice A.sa m.sung.length A.sc)).setCell ⟨w.heap.size,4,none⟩ (.bool m.done)) w.heap.size 27 #[.int .i64 m.id,.int .i64 m.n,.slice A.ra m.rows.length A.rc,.slice A.sa m.sung.length A.sc,.bool m.done] := bx_put5 M3.res
    have hO4 : Bx (((((Y3.setCell ⟨w.heap.size,0,none⟩ (.int .i64 m.id)).setCell ⟨w.heap.size,1,none⟩ (.int .i64 m.n)).setCell ⟨w.heap.size,2,none⟩ (.slice A.ra m.rows.length A.rc)).setCell ⟨w.heap.size,3,none⟩ (.slice A.sa m.sung.length A.sc)).setCell ⟨w.heap.size,4,none⟩ (.bool m.done)) o 27 #[.int .i64 m.id,.int .i64 m.n,.slice A.ra m.rows.length A.rc,.slice A.sa m.sung.length A.sc,.bool m.done] := M3.keep
    have hb4 : OBy (((((Y3.setCell ⟨w.heap.size,0,none⟩ (.int .i64 m.id)).setCell ⟨w.heap.size,1,none⟩ (.int .i64 m.n)).setCell ⟨w.heap.size,2,none⟩ (.slice A.ra m.rows.length A.rc)).setCell ⟨w.heap.size,3,none⟩ (.slice A.sa m.sung.length A.sc)).setCell ⟨w.heap.size,4,none⟩ (.bool m.done)) b3 0 t.length MM t := by
     have hw := wrt5 Y3 w.heap.size (a := .int .i64 m.id) (b := .int .i64 m.n) (c := .slice A.ra m.rows.length A.rc) (d := .slice A.sa m.sung.length A.sc) (e := .bool m.done)
     exact OSl.of_block hb3 (hw.block b3 hb3.blk (by omega)) (Nat.lt_of_lt_of_le hb3.blk hw.size)
    generalize (((((Y3.setCell ⟨w.heap.size,0,none⟩ (.int .i64 m.id)).setCell ⟨w.heap.size,1,none⟩ (.int .i64 m.n)).setCell ⟨w.heap.size,2,none⟩ (.slice A.ra m.rows.length A.rc)).setCell ⟨w.heap.size,3,none⟩ (.slice A.sa m.sung.length A.sc)).setCell ⟨w.heap.size,4,none⟩ (.bool m.done)) = Y4 at *
    have hc4 := hb4.str
    rw [HLt.out] at hc4
    refine hK.out _ _ (Bx.r5 hO4) (fun hHeldN => ?_)
    clear hK hHeld
    have hHeld := hHeldN
    try simp only [Act.put,List.setIfInBounds_toArray,List.set_cons_zero,List.set_cons_succ]
    refine gt_one (i := 5) rfl (by kernel_rfl) (by kernel_rfl) (fun K hK => ?_)
    go_simp
    refine hK.out _ _ (Bx.r5 hO4) (fun hHeldN => ?_)
    clear hK hHeld
    have hHeld := hHeldN
    try simp only [Act.put,List.setIfInBounds_toArray,List.set_cons_zero,List.set_cons_succ]
    refine gt_pure (i := 7) (v := ?_) rfl (by kernel_rfl) (by kernel_rfl) (by kernel_rfl) (fun _ _ _ h => h) (Or.inl ⟨by rfl, ?_⟩) ?_
    rotate_left
    ·(intro X;go_simp;try with_reducible rfl)
    try simp only [Act.put,List.setIfInBounds_toArray,List.set_cons_zero,List.set_cons_succ]
    refine gt_end (by kernel_rfl) ?_
    have HE : Hid (DrM w _ A m n) := hE
    obtain ⟨r0,r1,r2,r3,r4⟩ := Bx.r5 hR
    clear hHeld
    try go_wp2
    refine bodyPost_ret (v := .tuple #[.agg #[.int .i64 m.id,.int .i64 m.n,.slice A.ra m.rows.length A.rc,.slice A.sa m.sung.length A.sc,.bool m.done],.string (sv t)]) (by simp [results,Tryz.results10,go_sem, *]) rfl ?_
    exact ⟨A,m,n,t,rfl,hml,HE.out⟩
  ·go_simp
   have hE : DrM w (((((Y2.setCell ⟨w.heap.size,0,none⟩ (.int .i64 m.id)).setCell ⟨w.heap.size,1,none⟩ (.int .i64 m.n)).setCell ⟨w.heap.size,2,none⟩ (.slice A.ra m.rows.length A.rc)).setCell ⟨w.heap.size,3,none⟩ (.slice A.sa m.sung.length A.sc)).setCell ⟨w.heap.size,4,none⟩ (.bool m.done)) A m n := M2.ans HS.out
   have hR : Bx (((((Y2.setCell ⟨w.heap.size,0,none⟩ (.int .i64 m.id)).setCell ⟨w.heap.size,1,none⟩ (.int .i64 m.n)).setCell ⟨w.heap.size,2,none⟩ (.slice A.ra m.rows.length A.rc)).setCell ⟨w.heap.size,3,none⟩ (.slice A.sa m.sung.length A.sc)).setCell ⟨w.heap.size,4,none⟩ (.bool m.done)) w.heap.size 27 #[.int .i64 m.id,.int .i64 m.n,.slice A.ra m.rows.length A.rc,.slice A.sa m.sung.length A.sc,.bool m.done] := bx_put5 M2.res
   have hO4 : Bx (((((Y2.setCell ⟨w.heap.size,0,none⟩ (.int .i64 m.id)).setCell ⟨w.heap.size,1,none⟩ (.int .i64 m.n)).setCell ⟨w.heap.size,2,none⟩ (.slice A.ra m.rows.length A.rc)).setCell ⟨w.heap.size,3,none⟩ (.slice A.sa m.sung.length A.sc)).setCell ⟨w.heap.size,4,none⟩ (.bool m.done)) o 27 #[.int .i64 m.id,.int .i64 m.n,.slice A.ra m.rows.length A.rc,.slice A.sa m.sung.length A.sc,.bool m.done] := M2.keep
   generalize hW4 : (((((Y2.setCell ⟨w.heap.size,0,none⟩ (.int .i64 m.id)).setCell ⟨w.heap.size,1,none⟩ (.int .i64 m.n)).setCell ⟨w.heap.size,2,none⟩ (.slice A.ra m.rows.length A.rc)).setCell ⟨w.heap.size,3,none⟩ (.slice A.sa m.sung.length A.sc)).setCell ⟨w.heap.size,4,none⟩ (.bool m.done)) = Y4 at *
   clear z0 z1 z2 z3 z4 f0 f1 f2 f3 f4
   refine hK.out _ _ (Bx.r5 hO4) (fun hHeldN => ?_)
   clear hK hHeld
   have hHeld := hHeldN
   try simp only [Act.put,List.setIfInBounds_toArray,List.set_cons_zero,List.set_cons_succ]
   refine gt_one (i := 4) rfl (by kernel_rfl) (by kernel_rfl) (fun K hK => ?_)
   go_simp
   have hbm := oneA16 Y4 (.cells (madeCells #[.int .u8 0] MM) 5)
   have hb4 := hby Y4
   have hE5 := hE.step hbm
   have hR5 := hR.below hbm
   have hO5 := hO4.below hbm
   clear hE hR
   have hE := hE5
   have hR := hR5
   generalize hV5 : Y4.alloc (.cells (madeCells #[.int .u8 0] MM) 5) = Y5 at *
   generalize Y4.heap.size = b4 at *
   have hc4 := hb4.str
   rw [HLt.out] at hc4
   refine hK.out _ _ (Bx.r5 hO5) (fun hHeldN => ?_)
   clear hK hHeld
   have hHeld := hHeldN
   try simp only [Act.put,List.setIfInBounds_toArray,List.set_cons_zero,List.set_cons_succ]
   refine gt_one (i := 5) rfl (by kernel_rfl) (by kernel_rfl) (fun K hK => ?_)
   go_simp
   refine hK.out _ _ (Bx.r5 hO5) (fun hHeldN => ?_)
   clear hK hHeld
   have hHeld := hHeldN
   try simp only [Act.put,List.setIfInBounds_toArray,List.set_cons_zero,List.set_cons_succ]
   refine gt_pure (i := 7) (v := ?_) rfl (by kernel_rfl) (by kernel_rfl) (by kernel_rfl) (fun _ _ _ h => h) (Or.inl ⟨by rfl, ?_⟩) ?_
   rotate_left
   ·(intro X;go_simp;try with_reducible rfl)
   try simp only [Act.put,List.setIfInBounds_toArray,List.set_cons_zero,List.set_cons_succ]
   refine gt_end (by kernel_rfl) ?_
   have HE : Hid (DrM w _ A m n) := hE
   obtain ⟨r0,r1,r2,r3,r4⟩ := Bx.r5 hR
   clear hHeld
   try go_wp2
   refine bodyPost_ret (v := .tuple #[.agg #[.int .i64 m.id,.int .i64 m.n,.slice A.ra m.rows.length A.rc,.slice A.sa m.sung.length A.sc,.bool m.done],.string (sv t)]) (by simp [results,Tryz.results10,go_sem, *]) rfl ?_
   exact ⟨A,m,n,t,rfl,hml,HE.out⟩
end Go.Proofs.YthioodpmgifomaaGreat
namespace Go.Proofs.YthioodpmgifomaaGreat
set_option linter.unusedVariables false
set_option linter.unusedSimpArgs false
open Go.RowKit Go.Sort
set_option maxRecDepth 100000 in
set_option maxHeartbeats 6400000 in
theorem drawHe_any (a : Option Addr) (len cap : Nat) (bs : Nat → Int) (w : World) (hv : BVec w a len bs) (hl : len ≤ 4096) :
  Calls Tryz.prog 14 #[.slice a len cap] w fun e w' => ∃ (A : Ma) (m : Mb) (n : Nat) (x : Int) (Ar : Ra) (r : Rw),e = .returned (.tuple #[mbV A m,.int .i64 x,rwV Ar r]) ∧ (-1 ≤ x ∧ x ≤ 6) ∧ DrM w w' A m n ∧ RwP w' Ar r := by
 have hmix := mixed17
 have hb00 := oneA16 w (.cells #[.int .i64 0,.int .i64 0,.slice none 0 0,.slice none 0 0,.bool false] 27)
 have hb01 := oneA16 (w.alloc (.cells #[.int .i64 0,.int .i64 0,.slice none 0 0,.slice none 0 0,.bool false] 27)) (.cells #[.int .i64 0,.slice none 0 0,.slice none 0 0,.slice none 0 0,.bool false,.bool false,.int .i64 0,.slice none 0 0] 37)
 have hb0 : Below w.heap.size w ((w.alloc (.cells #[.int .i64 0,.int .i64 0,.slice none 0 0,.slice none 0 0,.bool false] 27)).alloc (.cells #[.int .i64 0,.slice none 0 0,.slice none 0 0,.slice none 0 0,.bool false,.bool false,.int .i64 0,.slice none 0 0] 37)) := hb00.trans (hb01.mono hb00.size)
 have HR : Hid (Bx ((w.alloc (.cells #[.int .i64 0,.int .i64 0,.slice none 0 0,.slice none 0 0,.bool false] 27)).alloc (.cells #[.int .i64 0,.slice none 0 0,.slice none 0 0,.slice none 0 0,.bool false,.bool false,.int .i64 0,.slice none 0 0] 37)) w.heap.size 27 #[.int .i64 0,.int .i64 0,.slice none 0 0,.slice none 0 0,.bool false]) := (Bx.new w _ _).below hb01
 have HQ : Hid (Bx ((w.alloc (.cells #[.int .i64 0,.int .i64 0,.slice none 0 0,.slice none 0 0,.bool false] 27)).alloc (.cells #[.int .i64 0,.slice none 0 0,.slice none 0 0,.slice none 0 0,.bool false,.bool false,.int .i64 0,.slice none 0 0] 37)) (w.heap.size + 1) 37 #[.int .i64 0,.slice none 0 0,.slice none 0 0,.slice none 0 0,.bool false,.bool false,.int .i64 0,.slice none 0 0]) := by
  have := Bx.new (w.alloc (.cells #[.int .i64 0,.int .i64 0,.slice none 0 0,.slice none 0 0,.bool false] 27)) 37 #[.int .i64 0,.slice none 0 0,.slice none 0 0,.slice none 0 0,.bool false,.bool false,.int .i64 0,.slice none 0 0]
  rw [World.size_alloc] at this
  exact this
 have hN := newC a len cap bs w _ hb0 hv hl
 generalize hX0 : (w.alloc (.cells #[.int .i64 0,.int .i64 0,.slice none 0 0,.slice none 0 0,.bool false] 27)).alloc (.cells #[.int .i64 0,.slice none 0 0,.slice none 0 0,.slice none 0 0,.bool false,.bool false,.int .i64 0,.slice none 0 0] 37) = X0 at *
 clear hb0 hb00 hb01
 go_enter Tryz.func14,Tryz.ntmps14
 go_wp2_with fail
 refine hN.mono ?_
 rintro e X1 ⟨p,rfl,hp,c1,hb1⟩
 have HR1 : Hid (Bx X1 w.heap.size 27 #[.int .i64 0,.int .i64 0,.slice none 0 0,.slice none 0 0,.bool false]) := HR.out.below hb1
 have HQ1 : Hid (Bx X1 (w.heap.size + 1) 37 #[.int .i64 0,.slice none 0 0,.slice none 0 0,.slice none 0 0,.bool false,.bool false,.int .i64 0,.slice none 0 0]) := HQ.out.below hb1
 have hwp : w.heap.size + 1 < p := by have := HQ.out.lt;omega
 have hp1 := c1.lt
 have hD := drawMa_any c1
 clear hN c1 hb1 HR HQ
 go_wp2_with fail
 refine hD.mono ?_
 rintro e X2 ⟨m,n,hS,A,fp,rfl,hlo,hf,c2,g2⟩
 have HS : Hid (DmS m n) := hS
 have hn5 := hS.n5
 have hba := oneA16 X2 (.cells #[.int .i64 m.id,.int .i64 m.n,.slice A.ra m.rows.length A.rc,.slice A.sa m.sung.length A.sc,.bool m.done] 27)
 have hxb := Bx.new X2 27 #[.int .i64 m.id,.int .i64 m.n,.slice A.ra m.rows.length A.rc,.slice A.sa m.sung.length A.sc,.bool m.done]
 have hlt2 := g2.size
 have HM : Hid (ME w (X2.alloc (.cells #[.int .i64 m.id,.int .i64 m.n,.slice A.ra m.rows.length A.rc,.slice A.sa m.sung.length A.sc,.bool m.done] 27)) p a len cap bs X2.heap.size A m fp) := ⟨c2.step hba,(HR1.out.grown g2 (by simp;omega)).below hba,by omega,hxb,owL_below hlo hba,fun b hb => by have := hf b hb;omega,by omega⟩
 have HQ2 : Hid (Bx (X2.alloc (.cells #[.int .i64 m.id,.int .i64 m.n,.slice A.ra m.rows.length A.rc,.slice A.sa m.sung.length A.sc,.bool m.done] 27)) (w.heap.size + 1) 37 #[.int .i64 0,.slice none 0 0,.slice none 0 0,.slice none 0 0,.bool false,.bool false,.int .i64 0,.slice none 0 0]) := (HQ1.out.grown g2 (by simp;omega)).below hba
 unfold mbV mbC
 clear hD hS hlo hf c2 g2 hba hxb HR1 HQ1
 go_upto_region 3 with fail
 generalize hVV : X2.alloc (.cells #[.int .i64 m.id,.int .i64 m.n,.slice A.ra m.rows.length A.rc,.slice A.sa m.sung.length A.sc,.bool m.done] 27) = V at *
 generalize X2.heap.size = o at *
 have hF := fromC (-1) 6 (by omega) (by omega) (by omega) HM.out.cc
 go_wp2_with fail
 refine hF.mono ?_
 rintro e V1 ⟨x,rfl,hx1,hx2,c3,g3⟩
 have HM1 : Hid (ME w V1 p a len cap bs o A m fp) := HM.out.drawn g3 c3
 have HQ3 : Hid (Bx V1 (w.heap.size + 1) 37 #[.int .i64 0,.slice none 0 0,.slice none 0 0,.slice none 0 0,.bool false,.bool false,.int .i64 0,.slice none 0 0]) := HQ2.out.grown g3 (by simp;omega)
 have hD := drawRw_any n (n : Int) rfl (by omega) c3
 have hMi := fun X => l1Min_any 5 (n : Int) X
 have hMa := fun X => l1Max_any 0 (n : Int) X
 rw [show min (5 : Int) (n : Int) = (n : Int) by omega] at hMi
 rw [show max (0 : Int) (n : Int) = (n : Int) by omega] at hMa
 obtain ⟨d0,d1,d2,d3,d4⟩ := Bx.r5 HM1.out.own
 rw [HS.out.hn] at d1
 clear hF c3 g3 HM HQ2 d0 d2 d3 d4
 go_wp2_with (first
  | (go_at_call 65;refine (hMi _).mono ?_;rintro e w' ⟨rfl,hw'⟩;rw [hw'];clear hw')
  | (go_at_call 64;refine (hMa _).mono ?_;rintro e w' ⟨rfl,hw'⟩;rw [hw'];clear hw'))
 refine hD.mono ?_
 rintro e V2 ⟨Ar,r,fr,rfl,hSr,hlr,hfr,c4,g4⟩
 have HM2 : Hid (ME w V2 p a len cap bs o A m fp) := HM1.out.drawn g4 c4
 have HQ4 : Hid (Bx V2 (w.heap.size + 1) 37 #[.int .i64 0,.slice none 0 0,.slice none 0 0,.slice none 0 0,.bool false,.bool false,.int .i64 0,.slice none 0 0]) := HQ3.out.grown g4 (by simp;omega)
 have hpV := HM1.out.cc.lt
 have HFr : Hid (∀ b,fr b → p < b) := fun b hb => by have := hfr b hb;omega
 have HSr : Hid (SmR r) := hSr
 have hbr := oneA16 V2 (.cells #[.int .i64 r.ver,.slice Ar.ta r.txt.length Ar.tc,.slice Ar.ga r.got.length Ar.gc,.slice Ar.sa r.sus.length Ar.sc,.bool r.wed,.bool r.rdy,.int .i64 r.by_,.slice Ar.ma r.trm.length Ar.mc] 37)
 have hxr := Bx.new V2 37 #[.int .i64 r.ver,.slice Ar.ta r.txt.length Ar.tc,.slice Ar.ga r.got.length Ar.gc,.slice Ar.sa r.sus.length Ar.sc,.bool r.wed,.bool r.rdy,.int .i64 r.by_,.slice Ar.ma r.trm.length Ar.mc]
 have hqp := HM2.out.cc.lt
 have hqo := HM2.out.own.lt
 have HX3 : Hid (Bx (V2.alloc (.cells #[.int .i64 r.ver,.slice Ar.ta r.txt.length Ar.tc,.slice Ar.ga r.got.length Ar.gc,.slice Ar.sa r.sus.length Ar.sc,.bool r.wed,.bool r.rdy,.int .i64 r.by_,.slice Ar.ma r.trm.length Ar.mc] 37)) V2.heap.size 37 #[.int .i64 r.ver,.slice Ar.ta r.txt.length Ar.tc,.slice Ar.ga r.got.length Ar.gc,.slice Ar.sa r.sus.length Ar.sc,.bool r.wed,.bool r.rdy,.int .i64 r.by_,.slice Ar.ma r.trm.length Ar.mc]) := hxr
 have HM3 : Hid (ME w (V2.alloc (.cells #[.int .i64 r.ver,.slice Ar.ta r.txt.length Ar.tc,.slice Ar.ga r.got.length Ar.gc,.slice Ar.sa r.sus.length Ar.sc,.bool r.wed,.bool r.rdy,.int .i64 r.by_,.slice Ar.ma r.trm.length Ar.mc] 37)) p a len cap bs o A m fp) := HM2.out.step hbr
 have HQ5 : Hid (Bx (V2.alloc (.cells #[.int .i64 r.ver,.slice Ar.ta r.txt.length Ar.tc,.slice Ar.ga r.got.length Ar.gc,.slice Ar.sa r.sus.length Ar.sc,.bool r.wed,.bool r.rdy,.int .i64 r.by_,.slice Ar.ma r.trm.length Ar.mc] 37)) (w.heap.size + 1) 37 #[.int .i64 0,.slice none 0 0,.slice none 0 0,.slice none 0 0,.bool false,.bool false,.int .i64 0,.slice none 0 0]) := HQ4.out.below hbr
 have HL3 : Hid (owL (V2.alloc (.cells #[.int .i64 r.ver,.slice Ar.ta r.txt.length Ar.tc,.slice Ar.ga r.got.length Ar.gc,.slice Ar.sa r.sus.length Ar.sc,.bool r.wed,.bool r.rdy,.int .i64 r.by_,.slice Ar.ma r.trm.length Ar.mc] 37)) (rwCels r) (rwVals Ar r) fr) := owL_below hlr hbr
 have HFq : Hid (∀ b,fr b → b < V2.heap.size) := owL_lt hlr
 have HFm : Hid (∀ b,fp b → b < V2.heap.size) := owL_lt HM2.out.ls
 unfold rwV rwC
 clear hD hlr hfr c4 g4 hbr hxr hSr HM1 HM2 HQ3 HQ4 hMi hMa d1
 go_upto_region 5 with fail
 generalize hV3 : V2.alloc (.cells #[.int .i64 r.ver,.slice Ar.ta r.txt.length Ar.tc,.slice Ar.ga r.got.length Ar.gc,.slice Ar.sa r.sus.length Ar.sc,.bool r.wed,.bool r.rdy,.int .i64 r.by_,.slice Ar.ma r.trm.length Ar.mc] 37) = V3 at *
 generalize V2.heap.size = q at *
 have hB := belowC 9 9 rfl (HM3.out.step (Same.drewN V3 1).below).cc (by omega) (by omega)
 have hx3 := HX3.out.at 0 rfl
 have hvr := HSr.out.ver
 refine gt_begin (S := fun X : World => X.cell? ⟨q,0,none⟩ = some (.int .i64 r.ver)) 6 hmix (by kernel_rfl) ?_
 have hHeld : (fun X : World => X.cell? ⟨q,0,none⟩ = some (.int .i64 r.ver)) V3.drew := hx3
 refine gt_take (i := 0) (v := ?_) rfl (by kernel_rfl) (by kernel_rfl) (by kernel_rfl) (by kernel_rfl) (fun _ _ _ h => h) (Or.inl ⟨by rfl, ?_⟩) hHeld ?_
 rotate_left
 ·(intro X hSX;(try dsimp only at hSX);have g0 := hSX;go_simp;try with_reducible rfl)
 try simp only [Act.put,List.setIfInBounds_toArray,List.set_cons_zero,List.set_cons_succ]
 refine gt_take (i := 1) (v := ?_) rfl (by kernel_rfl) (by kernel_rfl) (by kernel_rfl) (by kernel_rfl) (fun _ _ _ h => h) (Or.inl ⟨by rfl, ?_⟩) hHeld ?_
 rotate_left
 ·(intro X hSX;(try dsimp only at hSX);have g0 := hSX;go_simp;try with_reducible rfl)
 try simp only [Act.put,List.setIfInBounds_toArray,List.set_cons_zero,List.set_cons_succ]
 refine gt_pure (i := 2) (v := ?_) rfl (by kernel_rfl) (by kernel_rfl) (by kernel_rfl) (fun _ _ _ h => h) (Or.inl ⟨by rfl, ?_⟩) ?_
 rotate_left
 ·(intro X;go_simp;try with_reducible rfl)
 try simp only [Act.put,List.setIfInBounds_toArray,List.set_cons_zero,List.set_cons_succ]
 refine gt_one (i := 3) rfl (by kernel_rfl) (by kernel_rfl) (fun K hK => ?_)
 go_simp
 go_at_call 55
 refine hB.mono ?_
 rintro e V4 ⟨z,rfl,hz,c5,g5⟩
 have HM4 : Hid (ME w V4 p a len cap bs o A m fp) := (HM3.out.step (Same.drewN V3 1).below).drawn g5 c5
 have hX4 : Bx V4 q 37 #[.int .i64 r.ver,.slice Ar.ta r.txt.length Ar.tc,.slice Ar.ga r.got.length Ar.gc,.slice Ar.sa r.sus.length Ar.sc,.bool r.wed,.bool r.rdy,.int .i64 r.by_,.slice Ar.ma r.trm.length Ar.mc] := (HX3.out.below (Same.drewN V3 1).below).grown g5 (by simp;omega)
 have HQ6 : Hid (Bx V4 (w.heap.size + 1) 37 #[.int .i64 0,.slice none 0 0,.slice none 0 0,.slice none 0 0,.bool false,.bool false,.int .i64 0,.slice none 0 0]) := (HQ5.out.below (Same.drewN V3 1).below).grown g5 (by simp;omega)
 have HL4 : Hid (owL V4 (rwCels r) (rwVals Ar r) fr) := owL_wrt (owL_below HL3.out (Same.drewN V3 1).below) (Wrt.of_grown g5) (fun b hb e => by cases e;have := HFr.out _ hb;omega)
 refine hK.out _ _ (hX4.at 0 rfl) (fun hHeldN => ?_)
 clear hK hHeld
 have hHeld := hHeldN
 try simp only [Act.put,List.setIfInBounds_toArray,List.set_cons_zero,List.set_cons_succ]
 have hwv : IntKind.i64.wrap (r.ver + (z : Int)) = r.ver + (z : Int) := by rw [IntKind.wrap_i64];omega
 refine gt_pure (i := 4) (v := ?_) rfl (by kernel_rfl) (by kernel_rfl) (by kernel_rfl) (fun _ _ _ h => h) (Or.inl ⟨by rfl, ?_⟩) ?_
 rotate_left
 ·(intro X;go_simp;try with_reducible rfl)
 try simp only [Act.put,List.setIfInBounds_toArray,List.set_cons_zero,List.set_cons_succ]
 refine gt_take (i := 5) (v := ?_) rfl (by kernel_rfl) (by kernel_rfl) (by kernel_rfl) (by kernel_rfl) (fun _ _ _ h => h) (Or.inl ⟨by rfl, ?_⟩) hHeld ?_
 rotate_left
 ·(intro X hSX;(try dsimp only at hSX);have g0 := hSX;go_simp;try with_reducible rfl)
 try simp only [Act.put,List.setIfInBounds_toArray,List.set_cons_zero,List.set_cons_succ]
 have y0 := hX4.at 0 rfl
 have z0 := hX4.f 0
 have hW5 := Wrt.set V4 q 0 (.int .i64 (r.ver + (z : Int)))
 have HX5 : Hid (Bx (V4.setCell ⟨q,0,none⟩ (.int .i64 (r.ver + (z : Int)))) q 37 #[.int .i64 (r.ver + (z : Int)),.slice Ar.ta r.txt.length Ar.tc,.slice Ar.ga r.got.length Ar.gc,.slice Ar.sa r.sus.length Ar.sc,.bool r.wed,.bool r.rdy,.int .i64 r.by_,.slice Ar.ma r.trm.length Ar.mc]) := by have := hX4.setC 0 (.int .i64 (r.ver + (z : Int)));rw [Hid];simpa using this
 have HM5 : Hid (ME w (V4.setCell ⟨q,0,none⟩ (.int .i64 (r.ver + (z : Int)))) p a len cap bs o A m fp) := ⟨HM4.out.cc.wrt hW5 (by omega) (fun b e => by omega),HM4.out.res.wrt hW5 (by omega),HM4.out.hp,HM4.out.own.wrt hW5 (by omega),owL_wrt HM4.out.ls hW5 (fun b hb e => by have := HFm.out b hb;omega),HM4.out.fpl,HM4.out.ho⟩
 have HQ7 : Hid (Bx (V4.setCell ⟨q,0,none⟩ (.int .i64 (r.ver + (z : Int)))) (w.heap.size + 1) 37 #[.int .i64 0,.slice none 0 0,.slice none 0 0,.slice none 0 0,.bool false,.bool false,.int .i64 0,.slice none 0 0]) := HQ6.out.wrt hW5 (by omega)
 have HL5 : Hid (owL (V4.setCell ⟨q,0,none⟩ (.int .i64 (r.ver + (z : Int)))) (rwCels r) (rwVals Ar r) fr) := owL_wrt HL4.out hW5 (fun b hb e => by have := HFq.out b hb;omega)
 refine gt_last rfl (by kernel_rfl) (by kernel_rfl) (fun K hK => ?_)
 go_simp
 refine hK.out _ _ ?_
 clear hK hHeld hB c5 g5 hX4 HQ6 HL4 HM4 HX3 HM3 HQ5 HL3 hW5 y0 z0 hwv hx3
 go_upto_region 6 with fail
 generalize V4.setCell ⟨q,0,none⟩ (.int .i64 (r.ver + (z : Int))) = V5 at *
 refine gt_begin (S := fun X : World => (X.cell? ⟨o,0,none⟩ = some (.int .i64 m.id) ∧ X.cell? ⟨o,1,none⟩ = some (.int .i64 m.n) ∧ X.cell? ⟨o,2,none⟩ = some (.slice A.ra m.rows.length A.rc) ∧ X.cell? ⟨o,3,none⟩ = some (.slice A.sa m.sung.length A.sc) ∧ X.cell? ⟨o,4,none⟩ = some (.bool m.done)) ∧ ((X.cell? ⟨q,0,none⟩ = some (.int .i64 (r.ver + (z : Int))) ∧ X.cell? ⟨q,1,none⟩ = some (.slice Ar.ta r.txt.length Ar.tc) ∧ X.cell? ⟨q,2,none⟩ = some (.slice Ar.ga r.got.length Ar.gc) ∧ X.cell? ⟨q,3,none⟩ = some (.slice Ar.sa r.sus.length Ar.sc)) ∧ X.cell? ⟨q,4,none⟩ = some (.bool r.wed) ∧ X.cell? ⟨q,5,none⟩ = some (.bool r.rdy) ∧ X.cell? ⟨q,6,none⟩ = some (.int .i64 r.by_) ∧ X.cell? ⟨q,7,none⟩ = some (.slice Ar.ma r.trm.length Ar.mc))) 6 hmix (by kernel_rfl) ?_
 have hHeld : (fun X : World => (X.cell? ⟨o,0,none⟩ = some (.int .i64 m.id) ∧ X.cell? ⟨o,1,none⟩ = some (.int .i64 m.n) ∧ X.cell? ⟨o,2,none⟩ = some (.slice A.ra m.rows.length A.rc) ∧ X.cell? ⟨o,3,none⟩ = some (.slice A.sa m.sung.length A.sc) ∧ X.cell? ⟨o,4,none⟩ = some (.bool m.done)) ∧ ((X.cell? ⟨q,0,none⟩ = some (.int .i64 (r.ver + (z : Int))) ∧ X.cell? ⟨q,1,none⟩ = some (.slice Ar.ta r.txt.length Ar.tc) ∧ X.cell? ⟨q,2,none⟩ = some (.slice Ar.ga r.got.length Ar.gc) ∧ X.cell? ⟨q,3,none⟩ = some (.slice Ar.sa r.sus.length Ar.sc)) ∧ X.cell? ⟨q,4,none⟩ = some (.bool r.wed) ∧ X.cell? ⟨q,5,none⟩ = some (.bool r.rdy) ∧ X.cell? ⟨q,6,none⟩ = some (.int .i64 r.by_) ∧ X.cell? ⟨q,7,none⟩ = some (.slice Ar.ma r.trm.length Ar.mc))) V5.drew := (⟨Bx.r5 HM5.out.own,Bx.r8 HX5.out⟩)
 refine gt_takeA (i := 0) (v := ?_) rfl (by kernel_rfl) (by kernel_rfl) (by kernel_rfl) (by kernel_rfl) (fun _ _ _ h => h) (Or.inl ⟨by rfl, ?_⟩) hHeld ?_
 rotate_left
 ·(intro X hSX;(try dsimp only at hSX);obtain ⟨⟨g0,g1,g2,g3,g4⟩,⟨g5,g6,g7,g8⟩,g9,g10,g11,g12⟩ := hSX;go_simp;try with_reducible rfl)
 try simp only [Act.put,List.setIfInBounds_toArray,List.set_cons_zero,List.set_cons_succ]
 refine gt_takeA (i := 2) (v := ?_) rfl (by kernel_rfl) (by kernel_rfl) (by kernel_rfl) (by kernel_rfl) (fun _ _ _ h => h) (Or.inl ⟨by rfl, ?_⟩) hHeld ?_
 rotate_left
 ·(intro X hSX;(try dsimp only at hSX);obtain ⟨⟨g0,g1,g2,g3,g4⟩,⟨g5,g6,g7,g8⟩,g9,g10,g11,g12⟩ := hSX;go_simp;try with_reducible rfl)
 try simp only [Act.put,List.setIfInBounds_toArray,List.set_cons_zero,List.set_cons_succ]
 refine gt_pure (i := 1) (v := ?_) rfl (by kernel_rfl) (by kernel_rfl) (by kernel_rfl) (fun _ _ _ h => h) (Or.inl ⟨by rfl, ?_⟩) ?_
 rotate_left
 ·(intro X;go_simp;try with_reducible rfl)
 try simp only [Act.put,List.setIfInBounds_toArray,List.set_cons_zero,List.set_cons_succ]
 obtain ⟨z0,z1,z2,z3,z4⟩ := Bx.r5 HM5.out.res
 obtain ⟨f0,f1,f2,f3,f4⟩ := HM5.out.res.f5
 refine gt_one (i := 3) rfl (by kernel_rfl) (by kernel_rfl) (fun K hK => ?_)
 go_simp
 have hW6 : Wrt (fun b => b = w.heap.size) V5 (((((V5.setCell ⟨w.heap.size,0,none⟩ (.int .i64 m.id)).setCell ⟨w.heap.size,1,none⟩ (.int .i64 m.n)).setCell ⟨w.heap.size,2,none⟩ (.slice A.ra m.rows.length A.rc)).setCell ⟨w.heap.size,3,none⟩ (.slice A.sa m.sung.length A.sc)).setCell ⟨w.heap.size,4,none⟩ (.bool m.done)).drew := (wrt5 V5 w.heap.size).drewN 1
 have hhp := HM5.out.hp
 have hR6 : Bx (((((V5.setCell ⟨w.heap.size,0,none⟩ (.int .i64 m.id)).setCell ⟨w.heap.size,1,none⟩ (.int .i64 m.n)).setCell ⟨w.heap.size,2,none⟩ (.slice A.ra m.rows.length A.rc)).setCell ⟨w.heap.size,3,none⟩ (.slice A.sa m.sung.length A.sc)).setCell ⟨w.heap.size,4,none⟩ (.bool m.done)).drew w.heap.size 27 #[.int .i64 m.id,.int .i64 m.n,.slice A.ra m.rows.length A.rc,.slice A.sa m.sung.length A.sc,.bool m.done] := (bx_put5 HM5.out.res).below (Same.drewN _ 1).below
 have hO6 : Bx (((((V5.setCell ⟨w.heap.size,0,none⟩ (.int .i64 m.id)).setCell ⟨w.heap.size,1,none⟩ (.int .i64 m.n)).setCell ⟨w.heap.size,2,none⟩ (.slice A.ra m.rows.length A.rc)).setCell ⟨w.heap.size,3,none⟩ (.slice A.sa m.sung.length A.sc)).setCell ⟨w.heap.size,4,none⟩ (.bool m.done)).drew o 27 #[.int .i64 m.id,.int .i64 m.n,.slice A.ra m.rows.length A.rc,.slice A.sa m.sung.length A.sc,.bool m.done] := HM5.out.own.wrt hW6 (by have := HM5.out.ho;omega)
 have hX6 : Bx (((((V5.setCell ⟨w.heap.size,0,none⟩ (.int .i64 m.id)).setCell ⟨w.heap.size,1,none⟩ (.int .i64 m.n)).setCell ⟨w.heap.size,2,none⟩ (.slice A.ra m.rows.length A.rc)).setCell ⟨w.heap.size,3,none⟩ (.slice A.sa m.sung.length A.sc)).setCell ⟨w.heap.size,4,none⟩ (.bool m.done)).drew q 37 #[.int .i64 (r.ver + (z : Int)),.slice Ar.ta r.txt.length Ar.tc,.slice Ar.ga r.got.length Ar.gc,.slice Ar.sa r.sus.length Ar.sc,.bool r.wed,.bool r.rdy,.int .i64 r.by_,.slice Ar.ma r.trm.length Ar.mc] := HX5.out.wrt hW6 (by omega)
 have hQ6 : Bx (((((V5.setCell ⟨w.heap.size,0,none⟩ (.int .i64 m.id)).setCell ⟨w.heap.size,1,none⟩ (.int .i64 m.n)).setCell ⟨w.heap.size,2,none⟩ (.slice A.ra m.rows.length A.rc)).setCell ⟨w.heap.size,3,none⟩ (.slice A.sa m.sung.length A.sc)).setCell ⟨w.heap.size,4,none⟩ (.bool m.done)).drew (w.heap.size + 1) 37 #[.int .i64 0,.slice none 0 0,.slice none 0 0,.slice none 0 0,.bool false,.bool false,.int .i64 0,.slice none 0 0] := HQ7.out.wrt hW6 (by omega)
 have hl6 : owL (((((V5.setCell ⟨w.heap.size,0,none⟩ (.int .i64 m.id)).setCell ⟨w.heap.size,1,none⟩ (.int .i64 m.n)).setCell ⟨w.heap.size,2,none⟩ (.slice A.ra m.rows.length A.rc)).setCell ⟨w.heap.size,3,none⟩ (.slice A.sa m.sung.length A.sc)).setCell ⟨w.heap.size,4,none⟩ (.bool m.done)).drew (mbCels m) (mbVals A m) fp := owL_wrt HM5.out.ls hW6 (fun b hb e => by have := HM5.out.fpl b hb;omega)
 have hr6 : owL (((((V5.setCell ⟨w.heap.size,0,none⟩ (.int .i64 m.id)).setCell ⟨w.heap.size,1,none⟩ (.int .i64 m.n)).setCell ⟨w.heap.size,2,none⟩ (.slice A.ra m.rows.length A.rc)).setCell ⟨w.heap.size,3,none⟩ (.slice A.sa m.sung.length A.sc)).setCell ⟨w.heap.size,4,none⟩ (.bool m.done)).drew (rwCels r) (rwVals Ar r) fr := owL_wrt HL5.out hW6 (fun b hb e => by have := HFr.out b hb;omega)
 have hb6 : Below w.heap.size w (((((V5.setCell ⟨w.heap.size,0,none⟩ (.int .i64 m.id)).setCell ⟨w.heap.size,1,none⟩ (.int .i64 m.n)).setCell ⟨w.heap.size,2,none⟩ (.slice A.ra m.rows.length A.rc)).setCell ⟨w.heap.size,3,none⟩ (.slice A.sa m.sung.length A.sc)).setCell ⟨w.heap.size,4,none⟩ (.bool m.done)).drew := hW6.below HM5.out.cc.below HM5.out.cc.below.size (fun b e => by rw [e];exact Nat.le_refl _)
 have HFp : Hid (∀ b,fp b → p < b) := HM5.out.fpl
 generalize hV6 : (((((V5.setCell ⟨w.heap.size,0,none⟩ (.int .i64 m.id)).setCell ⟨w.heap.size,1,none⟩ (.int .i64 m.n)).setCell ⟨w.heap.size,2,none⟩ (.slice A.ra m.rows.length A.rc)).setCell ⟨w.heap.size,3,none⟩ (.slice A.sa m.sung.length A.sc)).setCell ⟨w.heap.size,4,none⟩ (.bool m.done)).drew = V6 at *
 clear z0 z1 z2 z3 z4 f0 f1 f2 f3 f4 hV6
 refine hK.out _ _ (⟨Bx.r5 hO6,Bx.r8 hX6⟩) (fun hHeldN => ?_)
 clear hK hHeld
 have hHeld := hHeldN
 try simp only [Act.put,List.setIfInBounds_toArray,List.set_cons_zero,List.set_cons_succ]
 refine gt_pure (i := 4) (v := ?_) rfl (by kernel_rfl) (by kernel_rfl) (by kernel_rfl) (fun _ _ _ h => h) (Or.inl ⟨by rfl, ?_⟩) ?_
 rotate_left
 ·(intro X;go_simp;try with_reducible rfl)
 try simp only [Act.put,List.setIfInBounds_toArray,List.set_cons_zero,List.set_cons_succ]
 obtain ⟨⟨z0,z1,z2,z3⟩,z4,z5,z6,z7⟩ := Bx.r8 hQ6
 obtain ⟨⟨f0,f1,f2,f3⟩,f4,f5,f6,f7⟩ := hQ6.f8
 refine gt_one (i := 5) rfl (by kernel_rfl) (by kernel_rfl) (fun K hK => ?_)
 go_simp
 have hW7 : Wrt (fun b => b = w.heap.size + 1) V6 ((((((((V6.setCell ⟨w.heap.size + 1,0,none⟩ (.int .i64 (r.ver + (z : Int)))).setCell ⟨w.heap.size + 1,1,none⟩ (.slice Ar.ta r.txt.length Ar.tc)).setCell ⟨w.heap.size + 1,2,none⟩ (.slice Ar.ga r.got.length Ar.gc)).setCell ⟨w.heap.size + 1,3,none⟩ (.slice Ar.sa r.sus.length Ar.sc)).setCell ⟨w.heap.size + 1,4,none⟩ (.bool r.wed)).setCell ⟨w.heap.size + 1,5,none⟩ (.bool r.rdy)).setCell ⟨w.heap.size + 1,6,none⟩ (.int .i64 r.by_)).setCell ⟨w.heap.size + 1,7,none⟩ (.slice Ar.ma r.trm.length Ar.mc)) := wrt8 V6 (w.heap.size + 1)
 have hR7 : Bx ((((((((V6.setCell ⟨w.heap.size + 1,0,none⟩ (.int .i64 (r.ver + (z : Int)))).setCell ⟨w.heap.size + 1,1,none⟩ (.slice Ar.ta r.txt.length Ar.tc)).setCell ⟨w.heap.size + 1,2,none⟩ (.slice Ar.ga r.got.length Ar.gc)).setCell ⟨w.heap.size + 1,3,none⟩ (.slice Ar.sa r.sus.length Ar.sc)).setCell ⟨w.heap.size + 1,4,none⟩ (.bool r.wed)).setCell ⟨w.heap.size + 1,5,none⟩ (.bool r.rdy)).setCell ⟨w.heap.size + 1,6,none⟩ (.int .i64 r.by_)).setCell ⟨w.heap.size + 1,7,none⟩ (.slice Ar.ma r.trm.length Ar.mc)) w.heap.size 27 #[.int .i64 m.id,.int .i64 m.n,.slice A.ra m.rows.length A.rc,.slice A.sa m.sung.length A.sc,.bool m.done] := hR6.wrt hW7 (by omega)
 have hO7 : Bx ((((((((V6.setCell ⟨w.heap.size + 1,0,none⟩ (.int .i64 (r.ver + (z : Int)))).setCell ⟨w.heap.size + 1,1,none⟩ (.slice Ar.ta r.txt.length Ar.tc)).setCell ⟨w.heap.size + 1,2,none⟩ (.slice Ar.ga r.got.length Ar.gc)).setCell ⟨w.heap.size + 1,3,none⟩ (.slice Ar.sa r.sus.length Ar.sc)).setCell ⟨w.heap.size + 1,4,none⟩ (.bool r.wed)).setCell ⟨w.heap.size + 1,5,none⟩ (.bool r.rdy)).setCell ⟨w.heap.size + 1,6,none⟩ (.int .i64 r.by_)).setCell ⟨w.heap.size + 1,7,none⟩ (.slice Ar.ma r.trm.length Ar.mc)) o 27 #[.int .i64 m.id,.int .i64 m.n,.slice A.ra m.rows.length A.rc,.slice A.sa m.sung.length A.sc,.bool m.done] := hO6.wrt hW7 (by have := HM5.out.ho;omega)
 have hX7 : Bx ((((((((V6.setCell ⟨w.heap.size + 1,0,none⟩ (.int .i64 (r.ver + (z : Int)))).setCell ⟨w.heap.size + 1,1,none⟩ (.slice Ar.ta r.txt.length Ar.tc)).setCell ⟨w.heap.size + 1,2,none⟩ (.slice Ar.ga r.got.length Ar.gc)).setCell ⟨w.heap.size + 1,3,none⟩ (.slice Ar.sa r.sus.length Ar.sc)).setCell ⟨w.heap.size + 1,4,none⟩ (.bool r.wed)).setCell ⟨w.heap.size + 1,5,none⟩ (.bool r.rdy)).setCell ⟨w.heap.size + 1,6,none⟩ (.int .i64 r.by_)).setCell ⟨w.heap.size + 1,7,none⟩ (.slice Ar.ma r.trm.length Ar.mc)) q 37 #[.int .i64 (r.ver + (z : Int)),.slice Ar.ta r.txt.length Ar.tc,.slice Ar.ga r.got.length Ar.gc,.slice Ar.sa r.sus.length Ar.sc,.bool r.wed,.bool r.rdy,.int .i64 r.by_,.slice Ar.ma r.trm.length Ar.mc] := hX6.wrt hW7 (by omega)
 have hQ7 : Bx ((((((((V6.setCell ⟨w.heap.size + 1,0,none⟩ (.int .i64 (r.ver + (z : Int)))).setCell ⟨w.heap.size + 1,1,none⟩ (.slice Ar.ta r.txt.length Ar.tc)).setCell ⟨w.heap.size + 1,2,none⟩ (.slice Ar.ga r.got.length Ar.gc)).setCell ⟨w.heap.size + 1,3,none⟩ (.slice Ar.sa r.sus.length Ar.sc)).setCell ⟨w.heap.size + 1,4,none⟩ (.bool r.wed)).setCell ⟨w.heap.size + 1,5,none⟩ (.bool r.rdy)).setCell ⟨w.heap.size + 1,6,none⟩ (.int .i64 r.by_)).setCell ⟨w.heap.size + 1,7,none⟩ (.slice Ar.ma r.trm.length Ar.mc)) (w.heap.size + 1) 37 #[.int .i64 (r.ver + (z : Int)),.slice Ar.ta r.txt.length Ar.tc,.slice Ar.ga r.got.length Ar.gc,.slice Ar.sa r.sus.length Ar.sc,.bool r.wed,.bool r.rdy,.int .i64 r.by_,.slice Ar.ma r.trm.length Ar.mc] := bx_set8 hQ6
 have hl7 : owL ((((((((V6.setCell ⟨w.heap.size + 1,0,none⟩ (.int .i64 (r.ver + (z : Int)))).setCell ⟨w.heap.size + 1,1,none⟩ (.slice Ar.ta r.txt.length Ar.tc)).setCell ⟨w.heap.size + 1,2,none⟩ (.slice Ar.ga r.got.length Ar.gc)).setCell ⟨w.heap.size + 1,3,none⟩ (.slice Ar.sa r.sus.length Ar.sc)).setCell ⟨w.heap.size + 1,4,none⟩ (.bool r.wed)).setCell ⟨w.heap.size + 1,5,none⟩ (.bool r.rdy)).setCell ⟨w.heap.size + 1,6,none⟩ (.int .i64 r.by_)).setCell ⟨w.heap.size + 1,7,none⟩ (.slice Ar.ma r.trm.length Ar.mc)) (mbCels m) (mbVals A m) fp := owL_wrt hl6 hW7 (fun b hb e => by have := HFp.out b hb;omega)
 have hr7 : owL ((((((((V6.setCell ⟨w.heap.size + 1,0,none⟩ (.int .i64 (r.ver + (z : Int)))).setCell ⟨w.heap.size + 1,1,none⟩ (.slice Ar.ta r.txt.length Ar.tc)).setCell ⟨w.heap.size + 1,2,none⟩ (.slice Ar.ga r.got.length Ar.gc)).setCell ⟨w.heap.size + 1,3,none⟩ (.slice Ar.sa r.sus.length Ar.sc)).setCell ⟨w.heap.size + 1,4,none⟩ (.bool r.wed)).setCell ⟨w.heap.size + 1,5,none⟩ (.bool r.rdy)).setCell ⟨w.heap.size + 1,6,none⟩ (.int .i64 r.by_)).setCell ⟨w.heap.size + 1,7,none⟩ (.slice Ar.ma r.trm.length Ar.mc)) (rwCels r) (rwVals Ar r) fr := owL_wrt hr6 hW7 (fun b hb e => by have := HFr.out b hb;omega)
 have hb7 : Below w.heap.size w ((((((((V6.setCell ⟨w.heap.size + 1,0,none⟩ (.int .i64 (r.ver + (z : Int)))).setCell ⟨w.heap.size + 1,1,none⟩ (.slice Ar.ta r.txt.length Ar.tc)).setCell ⟨w.heap.size + 1,2,none⟩ (.slice Ar.ga r.got.length Ar.gc)).setCell ⟨w.heap.size + 1,3,none⟩ (.slice Ar.sa r.sus.length Ar.sc)).setCell ⟨w.heap.size + 1,4,none⟩ (.bool r.wed)).setCell ⟨w.heap.size + 1,5,none⟩ (.bool r.rdy)).setCell ⟨w.heap.size + 1,6,none⟩ (.int .i64 r.by_)).setCell ⟨w.heap.size + 1,7,none⟩ (.slice Ar.ma r.trm.length Ar.mc)) := hW7.below hb6 hb6.size (fun b e => by omega)
 generalize hV7 : ((((((((V6.setCell ⟨w.heap.size + 1,0,none⟩ (.int .i64 (r.ver + (z : Int)))).setCell ⟨w.heap.size + 1,1,none⟩ (.slice Ar.ta r.txt.length Ar.tc)).setCell ⟨w.heap.size + 1,2,none⟩ (.slice Ar.ga r.got.length Ar.gc)).setCell ⟨w.heap.size + 1,3,none⟩ (.slice Ar.sa r.sus.length Ar.sc)).setCell ⟨w.heap.size + 1,4,none⟩ (.bool r.wed)).setCell ⟨w.heap.size + 1,5,none⟩ (.bool r.rdy)).setCell ⟨w.heap.size + 1,6,none⟩ (.int .i64 r.by_)).setCell ⟨w.heap.size + 1,7,none⟩ (.slice Ar.ma r.trm.length Ar.mc)) = V7 at *
 clear z0 z1 z2 z3 z4 z5 z6 z7 f0 f1 f2 f3 f4 f5 f6 f7 hV7
 refine hK.out _ _ (⟨Bx.r5 hO7,Bx.r8 hX7⟩) (fun hHeldN => ?_)
 clear hK hHeld
 have hHeld := hHeldN
 try simp only [Act.put,List.setIfInBounds_toArray,List.set_cons_zero,List.set_cons_succ]
 refine gt_end (by kernel_rfl) ?_
 have HE : Hid (DrM w V7 A m n ∧ RwP V7 Ar { r with ver := r.ver + (z : Int) }) := by
  refine ⟨⟨owL_it hl7 (fun b hb => by have := HFp.out b hb;omega),HS.out,hb7⟩, ?_⟩
  have h1 := HSr.out.rwp hr7
  exact ⟨h1.txt,h1.got,h1.sus,h1.trm,⟨⟨by simp only;omega,by simp only;omega⟩,h1.i64.2⟩,h1.sz⟩
 obtain ⟨r0,r1,r2,r3,r4⟩ := Bx.r5 hR7
 obtain ⟨⟨q0,q1,q2,q3⟩,q4,q5,q6,q7⟩ := Bx.r8 hQ7
 clear hHeld hO7 hX7 hQ7 hR7 hl7 hr7 hb7 hR6 hO6 hX6 hQ6 hl6 hr6 hb6 hW6 hW7
 try go_wp2
 refine bodyPost_ret (v := .tuple #[.agg #[.int .i64 m.id,.int .i64 m.n,.slice A.ra m.rows.length A.rc,.slice A.sa m.sung.length A.sc,.bool m.done],.int .i64 x,.agg #[.int .i64 (r.ver + (z : Int)),.slice Ar.ta r.txt.length Ar.tc,.slice Ar.ga r.got.length Ar.gc,.slice Ar.sa r.sus.length Ar.sc,.bool r.wed,.bool r.rdy,.int .i64 r.by_,.slice Ar.ma r.trm.length Ar.mc]]) (by simp [results,Tryz.results14,go_sem, *]) rfl ?_
 exact ⟨A,m,n,x,Ar,{ r with ver := r.ver + (z : Int) },rfl,⟨hx1,hx2⟩,HE.out.1,HE.out.2⟩
end Go.Proofs.YthioodpmgifomaaGreat
namespace Go.Proofs.YthioodpmgifomaaGreat
set_option linter.unusedVariables false
set_option linter.unusedSimpArgs false
open Go.RowKit Go.Sort
attribute [local irreducible] sv
set_option maxRecDepth 100000 in
set_option maxHeartbeats 3200000 in
theorem likeRw_any (A B : Ra) (r : Rw) (w : World) (hv : RwS w A r) (hu : RwS w B r) :
  Calls Tryz.prog 26 #[rwV A r,rwV B r] w fun e w' => e = .returned (.bool true) ∧ Grew w w' := by
 have hB0 : Grew w ((w.alloc (.cells (rwC A r) 37)).alloc (.cells (rwC B r) 37)) := ((Grew.refl _).alloc _).alloc _
 have hx : Bx ((w.alloc (.cells (rwC A r) 37)).alloc (.cells (rwC B r) 37)) w.heap.size 37 (rwC A r) := (Bx.new w _ _).alloc _
 have hy : Bx ((w.alloc (.cells (rwC A r) 37)).alloc (.cells (rwC B r) 37)) (w.heap.size + 1) 37 (rwC B r) := by
  have := Bx.new (w.alloc (.cells (rwC A r) 37)) 37 (rwC B r)
  simpa using this
 have h0 := hv.below hB0.1
 have g0 := hu.below hB0.1
 have hT := likeSV_any A.ta B.ta A.tc B.tc r.txt _ h0.txt g0.txt h0.mt
 have hE : ∀ X,Below w.heap.size w X → ∀ (x y : Option Addr) (c d : Nat) (l : List Int),Vec w x l.length l → Vec w y l.length l → l.length ≤ maxLen → Calls Tryz.prog 36 #[.slice x l.length c,.slice y l.length d] X fun e w' => e = .returned (.bool true) ∧ Grew X w' := fun X h x y c d l h1 h2 h3 => (like_any x y l.length c l.length d l l X (h1.below h (Nat.le_refl _)) (h2.below h (Nat.le_refl _)) h3).mono (fun e w' ⟨h4,q,h5⟩ => ⟨by rw [h4,sameB_self],by rw [h5];exact (Grew.refl _).drewN q⟩)
 obtain ⟨ver,txt,got,sus,wed,rdy,by_,trm⟩ := r
 obtain ⟨ta,tc,ga,gc,sa,sc,ma,mc⟩ := A
 obtain ⟨ub,uc,vb,vc,xb,xc,yb,yc⟩ := B
 have HV : Hid (RwS w ⟨ta,tc,ga,gc,sa,sc,ma,mc⟩ ⟨ver,txt,got,sus,wed,rdy,by_,trm⟩) := hv
 have HU : Hid (RwS w ⟨ub,uc,vb,vc,xb,xc,yb,yc⟩ ⟨ver,txt,got,sus,wed,rdy,by_,trm⟩) := hu
 have hG := fun X h => hE X h ga vb gc vc got HV.out.got HU.out.got HV.out.mg
 have hS := fun X h => hE X h sa xb sc xc sus HV.out.sus HU.out.sus HV.out.ms
 have hM := fun X h => hE X h ma yb mc yc trm HV.out.trm HU.out.trm HV.out.mm
 have HX : Hid (∀ X,Grew ((w.alloc (.cells (rwC ⟨ta,tc,ga,gc,sa,sc,ma,mc⟩ ⟨ver,txt,got,sus,wed,rdy,by_,trm⟩) 37)).alloc (.cells (rwC ⟨ub,uc,vb,vc,xb,xc,yb,yc⟩ ⟨ver,txt,got,sus,wed,rdy,by_,trm⟩) 37)) X → Bx X w.heap.size 37 #[.int .i64 ver,.slice ta txt.length tc,.slice ga got.length gc,.slice sa sus.length sc,.bool wed,.bool rdy,.int .i64 by_,.slice ma trm.length mc] ∧ Bx X (w.heap.size + 1) 37 #[.int .i64 ver,.slice ub txt.length uc,.slice vb got.length vc,.slice xb sus.length xc,.bool wed,.bool rdy,.int .i64 by_,.slice yb trm.length yc]) := fun X h => ⟨hx.below h.1,hy.below h.1⟩
 have n1 : (ver == ver) = true := by simp
 have n2 : (by_ == by_) = true := by simp
 have n3 : (wed == wed) = true := by simp
 have n4 : (rdy == rdy) = true := by simp
 unfold rwV
 unfold rwC at *
 simp only at hT ⊢
 generalize hWW : (w.alloc (.cells #[.int .i64 ver,.slice ta txt.length tc,.slice ga got.length gc,.slice sa sus.length sc,.bool wed,.bool rdy,.int .i64 by_,.slice ma trm.length mc] 37)).alloc (.cells #[.int .i64 ver,.slice ub txt.length uc,.slice vb got.length vc,.slice xb sus.length xc,.bool wed,.bool rdy,.int .i64 by_,.slice yb trm.length yc] 37) = W at *
 have HG0 : Hid (Grew w W) := hB0
 obtain ⟨⟨c0,c1,_,_⟩,_⟩ := Bx.r8 (HX.out W (Grew.refl _)).1
 obtain ⟨⟨d0,d1,_,_⟩,_⟩ := Bx.r8 (HX.out W (Grew.refl _)).2
 clear hv hu hx hy h0 g0 hE hB0
 go_enter Tryz.func26,Tryz.ntmps26
 go_wp2_with fail
 refine hT.mono ?_
 rintro e w1 ⟨rfl,hg1⟩
 obtain ⟨⟨_,_,c2,_⟩,_⟩ := Bx.r8 (HX.out w1 hg1).1
 obtain ⟨⟨_,_,d2,_⟩,_⟩ := Bx.r8 (HX.out w1 hg1).2
 have HG1 : Hid (Grew W w1) := hg1
 clear hT hg1 c0 c1 d0 d1
 go_wp2_with fail
 refine (hG w1 (HG0.out.trans HG1.out).1).mono ?_
 rintro e w2 ⟨rfl,hg2⟩
 have HG2 : Hid (Grew W w2) := HG1.out.trans hg2
 obtain ⟨⟨_,_,_,c3⟩,_⟩ := Bx.r8 (HX.out w2 HG2.out).1
 obtain ⟨⟨_,_,_,d3⟩,_⟩ := Bx.r8 (HX.out w2 HG2.out).2
 clear hg2 c2 d2 hG
 go_wp2_with fail
 refine (hS w2 (HG0.out.trans HG2.out).1).mono ?_
 rintro e w3 ⟨rfl,hg3⟩
 have HG3 : Hid (Grew W w3) := HG2.out.trans hg3
 obtain ⟨_,c4,c5,c6,c7⟩ := Bx.r8 (HX.out w3 HG3.out).1
 obtain ⟨_,d4,d5,d6,d7⟩ := Bx.r8 (HX.out w3 HG3.out).2
 clear hg3 c3 d3 hS
 go_wp2_with fail
 refine (hM w3 (HG0.out.trans HG3.out).1).mono ?_
 rintro e w4 ⟨rfl,hg4⟩
 have HG4 : Hid (Grew w w4) := HG0.out.trans (HG3.out.trans hg4)
 clear hg4 c4 c5 c6 c7 d4 d5 d6 d7 hM
 go_wp2
 go_ret
 exact ⟨rfl,HG4.out⟩
end Go.Proofs.YthioodpmgifomaaGreat