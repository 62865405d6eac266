/-
  Texts in one: Rdw Rzo Rzf Rzt Rzq.
-/
import Derived.Test.YtlnmdfgcpfbleaaJac
import Derived.Test.YtlnmdfgcpfbleaaJab
import Derived.Deep.CutRange
import Derived.Deep.Cut
import Derived.Deep.QuietTactic
namespace Go.Proofs.Ytlnmdfgcpfbleaa
set_option linter.unusedVariables false
set_option linter.unusedSimpArgs false
open Go.RowKit Go.Sort
theorem textR (most : Nat) (n : Int) (hn : n = (most : Int)) (hm : most ≤ 1000) {w X : World} {p : Nat} {a : Option Addr} {len cap : Nat} {bs : Nat → Int} (h : Cc w X p a len cap bs) :
  Calls Try.prog 112 #[.pointer (some ⟨p,0,none⟩),.int .i64 n] X fun e w' => ∃ l : List UInt8,e = .returned (.string (sv l)) ∧ l.length ≤ most ∧ Cc w w' p a len cap bs ∧ X.grownBy w' (some p) := by
 subst hn
 refine (drawText_any p a len cap bs most X h.cur h.bvec h.off h.hl hm).mono ?_
 rintro e w' ⟨l,h1,rfl,hc,hg⟩
 exact ⟨l,rfl,h1,h.drawn hg hc,hg⟩
theorem snoc_short {T : List (List UInt8)} {s : List UInt8} {n : Nat} (h : (∀ i,i < T.length → (T.getD i []).length ≤ n)) (hs : s.length ≤ n) : ∀ i,i < (T ++ [s]).length → ((T ++ [s]).getD i []).length ≤ n := fun i hi => by
 rw [List.length_append,List.length_singleton] at hi
 by_cases e : i < T.length
 ·have := h i e
  simpa [List.getD_eq_getElem?_getD,List.getElem?_append_left e] using this
 ·obtain rfl : i = T.length := by omega
  simpa [List.getD_eq_getElem?_getD] using hs
theorem make_byR (n : Nat) (hn : n ≤ 1048576) (w : World) :
  (Instr.makeSlice 22 (.int .i64 (n : Int)) (.int .i64 (n : Int))).run Try.prog w = .ok (.slice (some ⟨w.heap.size,0,none⟩) n n) (w.alloc (.cells (madeCells #[.int .u8 0] n) 5)) := by
 obtain ⟨i,hi,hz,hs,hb⟩ := info_parts9 Try.info5
 have hr := run_make (P := Try.prog) w 22 5 i _ Try.underlying22 hi hz .i64 .i64 n n (by omega) (Int.le_refl _) (by rw [hb];omega) (by omega)
 simp only [Int.toNat_natCast,hs,Nat.mul_one] at hr
 exact hr
theorem conv_byR (w : World) (n : Nat) (hn : n ≤ 1048576) : (convert 22 9 (.slice (some ⟨w.heap.size,0,none⟩) n n)).run Try.prog (w.alloc (.cells (madeCells #[.int .u8 0] n) 5)) = .ok (.string (sv (List.replicate n 0))) (w.alloc (.cells (madeCells #[.int .u8 0] n) 5)) := by
 have h := osl_made w #[.int .u8 0] 1 n 5 rfl (by omega) (by unfold maxLen;omega)
 have e : bys (List.replicate n 0) = (List.replicate n (#[Value.int .u8 0] : Array Value).toList).flatten := by
  simp only [bys,List.map_replicate]
  clear h hn
  induction n with
  | zero => rfl
  | succ n ih => rw [List.replicate_succ,List.replicate_succ,List.flatten_cons,← ih];rfl
 rw [← e,Nat.mul_one] at h
 have h2 : OBy (w.alloc (.cells (madeCells #[.int .u8 0] n) 5)) w.heap.size 0 (List.replicate n (0 : UInt8)).length n (List.replicate n 0) := by rw [List.length_replicate];exact h
 have h3 := h2.str
 rw [List.length_replicate] at h3
 exact h3
theorem put_len (xs : List Int) (n : Int) : (putL xs n).length ≤ xs.length + 1 := by
 induction xs with
 | nil => simp [putL]
 | cons x l ih =>
  unfold putL
  split
  ·simp;omega
  ·split
   ·simp
   ·simp
theorem put_fits {xs : List Int} {n : Int} (h : Fits xs) (hn : -9223372036854775808 ≤ n ∧ n ≤ 9223372036854775807) : Fits (putL xs n) := fun x hx => by
 rcases mem_putL.1 hx with e | e
 ·rw [e];exact hn
 ·exact h x e
theorem newRw_sus (n : Int) : (newRw n).sus.length = 0 := by
 unfold newRw
 split <;> rfl
theorem newRw_sm (n : Int) : SmR (newRw n) ∧ (newRw n).txt.length = 0 := by
 unfold newRw
 split
 ·rename_i h
  have := inB7.1 h
  exact ⟨⟨by simp,by simp,fun i hi => by simp at hi,by simp;omega,fun x hx => by have := List.eq_of_mem_replicate hx;omega,by simp,fun x hx => absurd hx List.not_mem_nil,by simp,fun x hx => absurd hx List.not_mem_nil,by simp⟩,rfl⟩
 ·exact ⟨⟨by simp [zeroRw],by simp [zeroRw],fun i hi => by simp [zeroRw] at hi,by simp [zeroRw],fun x hx => absurd hx List.not_mem_nil,by simp [zeroRw],fun x hx => absurd hx List.not_mem_nil,by simp [zeroRw],fun x hx => absurd hx List.not_mem_nil,by simp [zeroRw]⟩,rfl⟩
attribute [local irreducible] sv
set_option maxRecDepth 100000 in
set_option maxHeartbeats 12800000 in
theorem drawRw_any (N : Nat) (n : Int) (hN : n = (N : Int)) (hN5 : N ≤ 5) {w X : World} {p : Nat} {a : Option Addr} {len cap : Nat} {bs : Nat → Int} (h : Cc w X p a len cap bs) :
  Calls Try.prog 76 #[.pointer (some ⟨p,0,none⟩),.int .i64 n] X fun e X' => ∃ (A : Ra) (r : Rw) (fp : Fp),e = .returned (rwV A r) ∧ SmR r ∧ owL X' (rwCels r) (rwVals A r) fp ∧ (∀ b,fp b → X.heap.size ≤ b) ∧ Cc w X' p a len cap bs ∧ X.grownBy X' (some p) := by
 subst hN
 have hmix : Try.prog.follows .mixedOrders = true := by kernel_rfl
 obtain ⟨i0,hi0,hz0,hz1,hz2⟩ := info_parts9 Try.info9
 have b1 := oneA16 X (.cells #[.int .i64 0,.slice none 0 0,.slice none 0 0,.slice none 0 0,.bool false,.bool false,.int .i64 0,.slice none 0 0] 35)
 have c1 := h.step b1
 have HR : Hid (Bx (X.alloc (.cells #[.int .i64 0,.slice none 0 0,.slice none 0 0,.slice none 0 0,.bool false,.bool false,.int .i64 0,.slice none 0 0] 35)) X.heap.size 35 #[.int .i64 0,.slice none 0 0,.slice none 0 0,.slice none 0 0,.bool false,.bool false,.int .i64 0,.slice none 0 0]) := Bx.new _ _ _
 have hpl := h.lt
 have hC := nrwS_any (N : Int) (X.alloc (.cells #[.int .i64 0,.slice none 0 0,.slice none 0 0,.slice none 0 0,.bool false,.bool false,.int .i64 0,.slice none 0 0] 35))
 obtain ⟨hsm,ht0⟩ := newRw_sm (N : Int)
 have hu0 := newRw_sus (N : Int)
 generalize newRw (N : Int) = r0 at *
 have HT0 : Hid (r0.txt.length = 0 ∧ r0.sus.length = 0) := ⟨ht0,hu0⟩
 clear ht0 hu0
 unfold AnsRw rwV rwC at hC
 have HC1 : Hid (Cc w _ p a len cap bs) := c1
 have HB1 : Hid (Below X.heap.size X _) := b1
 clear c1 b1
 go_enter Try.func76,Try.ntmps76
 go_wp2_with fail
 refine hC.mono ?_
 rintro e X2 ⟨A0,rfl,fp0,ho0,hf0,hb0⟩
 have R0 : RD w X (X2.alloc (.cells #[.int .i64 r0.ver,.slice A0.ta r0.txt.length A0.tc,.slice A0.ga r0.got.length A0.gc,.slice A0.sa r0.sus.length A0.sc,.bool r0.wed,.bool r0.rdy,.int .i64 r0.by_,.slice A0.ma r0.trm.length A0.mc] 35)) p a len cap bs X2.heap.size zeroRc A0 r0 fp0 := by
  have hs2 := hb0.size
  rw [World.size_alloc] at hs2
  have hb3 := oneA16 X2 (.cells (rwC A0 r0) 35)
  exact ⟨(HC1.out.step hb0).step hb3,(HR.out.below hb0).below hb3,Bx.new _ _ _,owL_below ho0 hb3,fun b hb => ⟨by have := hf0 b hb;rw [World.size_alloc] at this;omega,by have := owL_lt ho0 b hb;omega⟩,hpl,by omega,grown_trans (World.grownBy_alloc X _ _) (grown_trans ⟨hb0.os,hb0.tape,hb0.output,hb0.size,fun x hx _ => hb0.block x hx⟩ (World.grownBy_alloc _ _ _))⟩
 have hB1 := belowC 6 6 rfl R0.cc (by omega) (by omega)
 have HR0 : Hid (RD w X (X2.alloc (.cells #[.int .i64 r0.ver,.slice A0.ta r0.txt.length A0.tc,.slice A0.ga r0.got.length A0.gc,.slice A0.sa r0.sus.length A0.sc,.bool r0.wed,.bool r0.rdy,.int .i64 r0.by_,.slice A0.ma r0.trm.length A0.mc] 35)) p a len cap bs X2.heap.size zeroRc A0 r0 fp0) := R0
 clear R0 hC HC1 HB1 HR ho0 hf0 hb0
 go_wp2_with fail
 refine hB1.mono ?_
 rintro e Y1 ⟨v,rfl,hv,c2,g1⟩
 have R1 := HR0.out.drawn g1 c2
 obtain ⟨⟨x0,_⟩,_⟩ := R1.c8
 have x1 := R1.fo 0
 have R2 := R1.ver (v : Int)
 have hB2 := belowC 4 4 rfl R2.cc (by omega) (by omega)
 obtain ⟨r1,hr1⟩ : ∃ r1 : Rw,Hid (r1 = { r0 with ver := (v : Int) }) := ⟨_,rfl⟩
 have HR2 : Hid (RD w X (Y1.setCell ⟨X2.heap.size,0,none⟩ (.int .i64 (v : Int))) p a len cap bs X2.heap.size zeroRc A0 r1 fp0) := by rw [hr1.out];exact R2
 have HS2 : Hid (SmR r1) := by rw [hr1.out];exact ⟨by simp only;omega,hsm.tl,hsm.ts,hsm.gl,hsm.gf,hsm.sl,hsm.sf,hsm.ml,hsm.mf,hsm.bys⟩
 have HT2 : Hid (r1.txt.length = 0 ∧ r1.sus.length = 0) := by rw [hr1.out];exact HT0.out
 clear R1 R2 hB1 c2 g1 HR0 hsm HT0
 go_wp2_with fail
 refine hB2.mono ?_
 rintro e Y2 ⟨m,rfl,hm,c3,g2⟩
 have HR3 : Hid (RD w X Y2 p a len cap bs X2.heap.size zeroRc A0 r1 fp0) := HR2.out.drawn g2 c3
 clear hB2 c3 g2 HR2 x0 x1
 clear hr1
 generalize X2.heap.size = o at *
 go_wp2_with fail
 go_loopw [6] (fun i wr => ∃ (k : Nat) (A : Ra) (r : Rw) (fp : Fp),k ≤ m ∧ i = .int .i64 k ∧ RD w X wr p a len cap bs o zeroRc A r fp ∧ SmR r ∧ r.txt.length + k ≤ 3 ∧ r.sus.length = 0) (fun i _ => (intOf i).toNat)
 case atStart => exact ⟨m,A0,r1,fp0,Nat.le_refl _,rfl,HR3.out,HS2.out,by have := HT2.out.1;omega,HT2.out.2⟩
 case round =>
  obtain ⟨k,A,r,fp,hk,rfl,hR,hS,hTk,hU⟩ := hrel
  have HS : Hid (SmR r) := hS
  have HU : Hid (r.sus.length = 0) := hU
  clear hS hU
  by_cases hlt : 0 < k
  ·have k0 : (0 : Int) < (k : Int) := by omega
   have hR1 := hR.drewN 1
   have hT := textR 3 3 rfl (by omega) hR1.cc
   have x1 := hR.c8.1.2.1
   have hlen : r.txt.length ≤ 1000 := by omega
   have HR : Hid (RD w X (wr.drewN 1) p a len cap bs o zeroRc A r fp) := hR1
   clear hR hR1
   go_wp2_with fail
   refine gt_begin (S := fun X : World => X.cell? ⟨o,1,none⟩ = some (.slice A.ta r.txt.length A.tc)) 7 hmix (by kernel_rfl) ?_
   have hHeld : (fun X : World => X.cell? ⟨o,1,none⟩ = some (.slice A.ta r.txt.length A.tc)) wr.drew := x1
   refine gt_take (i := 0) (v := ?_) rfl (by kernel_rfl) (by kernel_rfl) (by kernel_rfl) (by kernel_rfl) (fun _ _ _ h => h) (Or.inl ⟨by rfl, ?_⟩) hHeld ?_
   rotate_left
   ·(intro X hSX;(try dsimp only at hSX);have g0 := hSX;go_simp;try with_reducible rfl)
   try simp only [Act.put,List.setIfInBounds_toArray,List.set_cons_zero,List.set_cons_succ]
   refine gt_take (i := 1) (v := ?_) rfl (by kernel_rfl) (by kernel_rfl) (by kernel_rfl) (by kernel_rfl) (fun _ _ _ h => h) (Or.inl ⟨by rfl, ?_⟩) hHeld ?_
   rotate_left
   ·(intro X hSX;(try dsimp only at hSX);have g0 := hSX;go_simp;try with_reducible rfl)
   try simp only [Act.put,List.setIfInBounds_toArray,List.set_cons_zero,List.set_cons_succ]
   refine gt_pure (i := 2) (v := ?_) rfl (by kernel_rfl) (by kernel_rfl) (by kernel_rfl) (fun _ _ _ h => h) (Or.inl ⟨by rfl, ?_⟩) ?_
   rotate_left
   ·(intro X;go_simp;try with_reducible rfl)
   try simp only [Act.put,List.setIfInBounds_toArray,List.set_cons_zero,List.set_cons_succ]
   refine gt_one (i := 3) rfl (by kernel_rfl) (by kernel_rfl) (fun K hK => ?_)
   go_simp
   go_at_call 112
   refine hT.mono ?_
   rintro e Y3 ⟨s,rfl,hs,c4,g4⟩
   have R3 := HR.out.drawn g4 c4
   refine hK.out _ _ R3.c8.1.2.1 (fun hHeld2 => ?_)
   clear hK hHeld
   have hHeld := hHeld2
   try simp only [Act.put,List.setIfInBounds_toArray,List.set_cons_zero,List.set_cons_succ]
   refine gt_one (i := 4) rfl (by kernel_rfl) (by kernel_rfl) (fun K hK => ?_)
   go_simp
   refine hK.out _ _ (R3.step (oneA16 Y3 (.cells #[.string (sv s)] 9))).c8.1.2.1 (fun hHeld3 => ?_)
   clear hK hHeld
   have hHeld := hHeld3
   try simp only [Act.put,List.setIfInBounds_toArray,List.set_cons_zero,List.set_cons_succ]
   refine gt_one (i := 5) rfl (by kernel_rfl) (by kernel_rfl) (fun K hK => ?_)
   refine step_append_of (by rfl) _ _ _ _ (by rfl) (.slice A.ta r.txt.length A.tc) _ (by rfl) (by rfl) (R3.app i0 hi0 hz0 hz1 hz2 s hlen) ⟨rfl,rfl,rfl,rfl⟩ ?_
   rintro v' w4 ⟨a',c',rfl,q1,q2,fp',hRn⟩
   refine hK.out _ _ q1 (fun hHeld4 => ?_)
   clear hK hHeld
   have hHeld := hHeld4
   try simp only [Act.put,List.setIfInBounds_toArray,List.set_cons_zero,List.set_cons_succ]
   refine gt_take (i := 6) (v := ?_) rfl (by kernel_rfl) (by kernel_rfl) (by kernel_rfl) (by kernel_rfl) (fun _ _ _ h => h) (Or.inl ⟨by rfl, ?_⟩) hHeld ?_
   rotate_left
   ·(intro X hSX;(try dsimp only at hSX);have g0 := hSX;go_simp;try with_reducible rfl)
   try simp only [Act.put,List.setIfInBounds_toArray,List.set_cons_zero,List.set_cons_succ]
   have HRn : Hid (RD w X (w4.setCell ⟨o,1,none⟩ (.slice a' (r.txt.length + 1) c')) p a len cap bs o zeroRc { A with ta := a',tc := c' } { r with txt := r.txt ++ [s] } fp') := hRn
   clear R3 hRn c4 g4 hT
   refine gt_last rfl (by kernel_rfl) (by kernel_rfl) (fun K hK => ?_)
   go_simp
   refine hK.out _ _ ?_
   go_wp2
   go_roundw
   case rel => exact ⟨k - 1,_,_,fp',by omega,by go_num,HRn.out,⟨HS.out.ver,by simp;omega,snoc_short HS.out.ts (by omega),HS.out.gl,HS.out.gf,HS.out.sl,HS.out.sf,HS.out.ml,HS.out.mf,HS.out.bys⟩,by simp;omega,HU.out⟩
   case measure => simp [intOf];omega
  ·obtain rfl : k = 0 := by omega
   have HR : Hid (RD w X wr p a len cap bs o zeroRc A r fp) := hR
   have HTL : Hid (r.txt.length ≤ 3) := by rw [Hid];omega
   obtain ⟨G,hG⟩ : ∃ G,Hid (r.got.length = G) := ⟨_,rfl⟩
   have hG16 : G ≤ 16 := by have := hG.out;have := HS.out.gl;omega
   clear hR hTk hlt hk
   go_wp2_with fail
   go_loopw [7] (fun i wx => ∃ (k : Nat) (A : Ra) (r : Rw) (fp : Fp),k ≤ G ∧ i = .int .i64 k ∧ RD w X wx p a len cap bs o zeroRc A r fp ∧ SmR r ∧ (r.txt.length ≤ 3 ∧ r.sus.length = 0) ∧ r.got.length = G) (fun i _ => G - (intOf i).toNat)
   case atStart => exact ⟨0,A,r,fp,Nat.zero_le _,rfl,HR.out,HS.out,⟨HTL.out,HU.out⟩,hG.out⟩
   case round =>
    clear HR HS HTL hG HU
    obtain ⟨k,A,r,fp,hk,rfl,hR,hS,⟨hT3,hU⟩,hGl⟩ := hrel
    have HU : Hid (r.sus.length = 0) := hU
    clear hU
    have HS : Hid (SmR r) := hS
    have HT3 : Hid (r.txt.length ≤ 3) := hT3
    have HGl : Hid (r.got.length = G) := hGl
    clear hS hT3
    by_cases hlt : k < G
    ·have k1 : (k : Int) < (r.got.length : Int) := by omega
     have k0 : (0 : Int) ≤ (k : Int) := by omega
     have hR1 := hR.drewN 1
     have hB := belowC 4 4 rfl hR1.cc (by omega) (by omega)
     have x1 := hR.c8.1.2.2.1
     have HR : Hid (RD w X (wr.drewN 1) p a len cap bs o zeroRc A r fp) := hR1
     obtain ⟨ta,tc,ga,gc,sa,sc,ma,mc⟩ := A
     obtain ⟨g,off,hga,_⟩ := hR.gotAt (show k < r.got.length by omega)
     simp only at hga
     subst hga
     clear hR hR1 hGl
     simp only at x1
     go_wp2_with fail
     refine gt_begin (S := fun X : World => X.cell? ⟨o,2,none⟩ = some (.slice (some ⟨g,off,none⟩) r.got.length gc)) 6 hmix (by kernel_rfl) ?_
     have hHeld : (fun X : World => X.cell? ⟨o,2,none⟩ = some (.slice (some ⟨g,off,none⟩) r.got.length gc)) wr.drew := x1
     refine gt_take (i := 0) (v := ?_) rfl (by kernel_rfl) (by kernel_rfl) (by kernel_rfl) (by kernel_rfl) (fun _ _ _ h => h) (Or.inl ⟨by rfl, ?_⟩) hHeld ?_
     rotate_left
     ·(intro X hSX;(try dsimp only at hSX);have g0 := hSX;go_simp;try with_reducible rfl)
     try simp only [Act.put,List.setIfInBounds_toArray,List.set_cons_zero,List.set_cons_succ]
     refine gt_take (i := 1) (v := ?_) rfl (by kernel_rfl) (by kernel_rfl) (by kernel_rfl) (by kernel_rfl) (fun _ _ _ h => h) (Or.inl ⟨by rfl, ?_⟩) hHeld ?_
     rotate_left
     ·(intro X hSX;(try dsimp only at hSX);have g0 := hSX;go_simp;try with_reducible rfl)
     try simp only [Act.put,List.setIfInBounds_toArray,List.set_cons_zero,List.set_cons_succ]
     refine gt_pure (i := 2) (v := ?_) rfl (by kernel_rfl) (by kernel_rfl) (by kernel_rfl) (fun _ _ _ h => h) (Or.inl ⟨by rfl, ?_⟩) ?_
     rotate_left
     ·(intro X;go_simp;try with_reducible rfl)
     try simp only [Act.put,List.setIfInBounds_toArray,List.set_cons_zero,List.set_cons_succ]
     refine gt_pure (i := 3) (v := ?_) rfl (by kernel_rfl) (by kernel_rfl) (by kernel_rfl) (fun _ _ _ h => h) (Or.inl ⟨by rfl, ?_⟩) ?_
     rotate_left
     ·(intro X;go_simp;try with_reducible rfl)
     try simp only [Act.put,List.setIfInBounds_toArray,List.set_cons_zero,List.set_cons_succ]
     refine gt_one (i := 4) rfl (by kernel_rfl) (by kernel_rfl) (fun K hK => ?_)
     go_simp
     go_at_call 57
     refine hB.mono ?_
     rintro e Y3 ⟨z,rfl,hz,c4,g4⟩
     have R3 := HR.out.drawn g4 c4
     refine hK.out _ _ R3.c8.1.2.2.1 (fun hHeld2 => ?_)
     clear hK hHeld
     have hHeld := hHeld2
     try simp only [Act.put,List.setIfInBounds_toArray,List.set_cons_zero,List.set_cons_succ]
     obtain ⟨g2,off2,hga2,⟨y1,y2⟩,hput⟩ := R3.gotAt (i := k) (by have := HGl.out;omega)
     simp only at hga2
     cases hga2
     obtain ⟨fp2,hRn⟩ := hput (z : Int)
     have HRn : Hid (RD w X (Y3.setCell ⟨g,off + k,none⟩ (.int .i64 (z : Int))) p a len cap bs o zeroRc ⟨ta,tc,some ⟨g,off,none⟩,gc,sa,sc,ma,mc⟩ { r with got := r.got.set k (z : Int) } fp2) := hRn
     clear hRn hput R3 c4 g4 hB HR
     refine gt_pure (i := 5) (v := ?_) rfl (by kernel_rfl) (by kernel_rfl) (by kernel_rfl) (fun _ _ _ h => h) (Or.inl ⟨by rfl, ?_⟩) ?_
     rotate_left
     ·(intro X;go_simp;try with_reducible rfl)
     try simp only [Act.put,List.setIfInBounds_toArray,List.set_cons_zero,List.set_cons_succ]
     refine gt_last rfl (by kernel_rfl) (by kernel_rfl) (fun K hK => ?_)
     go_simp
     refine hK.out _ _ ?_
     go_wp2
     go_roundw
     case rel => (repeat apply Exists.intro);exact ⟨⟨k + 1,_,_,fp2,by omega,by go_num,HRn.out,⟨HS.out.ver,HS.out.tl,HS.out.ts,by simp only [List.length_set];exact HS.out.gl,fits_set HS.out.gf k (by omega),HS.out.sl,HS.out.sf,HS.out.ml,HS.out.mf,HS.out.bys⟩,⟨HT3.out,HU.out⟩,by simp only [List.length_set];exact HGl.out⟩,rfl⟩
     case measure => simp [intOf];omega
    ·obtain rfl : k = G := by omega
     have x2 := hR.c8.1.2.2.1
     have kn : ¬ ((k : Int) < (r.got.length : Int)) := by omega
     have hO := onceC 3 hR.cc (by omega)
     have HR : Hid (RD w X wr p a len cap bs o zeroRc A r fp) := hR
     clear hR hGl hlt hk hG16
     go_upto_region 11 with fail
     go_cut [44] from 39 to 44 (fun s44 wx => ∃ b : Bool,s44 = .bool b ∧ (b = true → 0 < N) ∧ RD w X wx p a len cap bs o zeroRc A r fp)
     case first =>
      go_wp2_with fail
      refine hO.mono ?_
      rintro e Y4 ⟨t,rfl,c5,g5⟩
      have HR4 : Hid (RD w X Y4 p a len cap bs o zeroRc A r fp) := HR.out.drawn g5 c5
      clear hO c5 g5 HR x2 kn
      cases t with
      | false =>
       go_wp2
       go_meet
       case rel => exact ⟨false,rfl,fun h => (by cases h),HR4.out⟩
      | true =>
       by_cases hNp : 0 < N
       ·have hNi : (0 : Int) < (N : Int) := by omega
        go_wp2
        go_meet
        case rel => exact ⟨true,rfl,fun _ => hNp,HR4.out⟩
       ·have hNi : ¬ ((0 : Int) < (N : Int)) := by omega
        go_wp2
        go_meet
        case rel => exact ⟨false,rfl,fun h => (by cases h),HR4.out⟩
     case rest =>
      obtain ⟨bb,rfl,hbN,hR4⟩ := hcut
      have HR4 : Hid (RD w X wc p a len cap bs o zeroRc A r fp) := hR4
      have HBN : Hid (bb = true → 0 < N) := hbN
      clear hR4 hbN HR hO x2 kn
      generalize wc = Y4 at *
      go_upto_if 44 with fail
      go_cut [44] from 45 to 64 (fun _ wx => ∃ (A : Ra) (r : Rw) (fp : Fp),RD w X wx p a len cap bs o zeroRc A r fp ∧ SmR r ∧ r.txt.length ≤ 3)
      case first =>
       cases bb with
       | false =>
        go_wp2
        go_meet
        case rel => exact ⟨A,r,fp,HR4.out,HS.out,HT3.out⟩
       | true =>
        have hNp : 0 < N := HBN.out rfl
        have hNi : (0 : Int) < (N : Int) := by omega
        have y0 := HR4.out.c8.2.1
        have y1 := HR4.out.fo 4
        have R5 := HR4.out.wed true
        have R6 := R5.drewN 1
        have hB := belowC N (N : Int) rfl R6.cc (by omega) (by omega)
        have z1 := R5.c8.1.2.2.2
        have HR6 : Hid (RD w X ((Y4.setCell ⟨o,4,none⟩ (.bool true)).drewN 1) p a len cap bs o zeroRc A { r with wed := true } fp) := R6
        clear R5 R6
        go_wp2_with fail
        refine gt_begin (S := fun X : World => X.cell? ⟨o,3,none⟩ = some (.slice A.sa r.sus.length A.sc)) 7 hmix (by kernel_rfl) ?_
        have hHeld : (fun X : World => X.cell? ⟨o,3,none⟩ = some (.slice A.sa r.sus.length A.sc)) ((Y4.setCell ⟨o,4,none⟩ (.bool true)).drew) := z1
        refine gt_take (i := 0) (v := ?_) rfl (by kernel_rfl) (by kernel_rfl) (by kernel_rfl) (by kernel_rfl) (fun _ _ _ h => h) (Or.inl ⟨by rfl, ?_⟩) hHeld ?_
        rotate_left
        ·(intro X hSX;(try dsimp only at hSX);have g0 := hSX;go_simp;try with_reducible rfl)
        try simp only [Act.put,List.setIfInBounds_toArray,List.set_cons_zero,List.set_cons_succ]
        refine gt_take (i := 1) (v := ?_) rfl (by kernel_rfl) (by kernel_rfl) (by kernel_rfl) (by kernel_rfl) (fun _ _ _ h => h) (Or.inl ⟨by rfl, ?_⟩) hHeld ?_
        rotate_left
        ·(intro X hSX;(try dsimp only at hSX);have g0 := hSX;go_simp;try with_reducible rfl)
        try simp only [Act.put,List.setIfInBounds_toArray,List.set_cons_zero,List.set_cons_succ]
        refine gt_pure (i := 2) (v := ?_) rfl (by kernel_rfl) (by kernel_rfl) (by kernel_rfl) (fun _ _ _ h => h) (Or.inl ⟨by rfl, ?_⟩) ?_
        rotate_left
        ·(intro X;go_simp;try with_reducible rfl)
        try simp only [Act.put,List.setIfInBounds_toArray,List.set_cons_zero,List.set_cons_succ]
        refine gt_pure (i := 3) (v := ?_) rfl (by kernel_rfl) (by kernel_rfl) (by kernel_rfl) (fun _ _ _ h => h) (Or.inl ⟨by rfl, ?_⟩) ?_
        rotate_left
        ·(intro X;go_simp;try with_reducible rfl)
        try simp only [Act.put,List.setIfInBounds_toArray,List.set_cons_zero,List.set_cons_succ]
        refine gt_one (i := 4) rfl (by kernel_rfl) (by kernel_rfl) (fun K hK => ?_)
        go_simp
        go_at_call 57
        refine hB.mono ?_
        rintro e Y5 ⟨u,rfl,hu,c6,g6⟩
        have R7 := HR6.out.drawn g6 c6
        have hPut := R7.putS HS.out.sf (by have := HS.out.sl;simp only;omega) (u : Int)
        simp only at hPut
        refine hK.out _ _ R7.c8.1.2.2.2 (fun hHeld2 => ?_)
        clear hK hHeld
        have hHeld := hHeld2
        try simp only [Act.put,List.setIfInBounds_toArray,List.set_cons_zero,List.set_cons_succ]
        refine gt_one (i := 5) rfl (by kernel_rfl) (by kernel_rfl) (fun K hK => ?_)
        go_simp
        go_at_call 113
        refine hPut.mono ?_
        rintro e Y6 ⟨a6,c6b,rfl,hb6,fp6,R8⟩
        have R7b := R7.step hb6
        refine hK.out _ _ R7b.c8.1.2.2.2 (fun hHeld3 => ?_)
        clear hK hHeld
        have hHeld := hHeld3
        try simp only [Act.put,List.setIfInBounds_toArray,List.set_cons_zero,List.set_cons_succ]
        have q1 := R7b.c8.1.2.2.2
        have q2 := R7b.fo 3
        refine gt_take (i := 6) (v := ?_) rfl (by kernel_rfl) (by kernel_rfl) (by kernel_rfl) (by kernel_rfl) (fun _ _ _ h => h) (Or.inl ⟨by rfl, ?_⟩) hHeld ?_
        rotate_left
        ·(intro X hSX;(try dsimp only at hSX);have g0 := hSX;go_simp;try with_reducible rfl)
        try simp only [Act.put,List.setIfInBounds_toArray,List.set_cons_zero,List.set_cons_succ]
        have HR8 : Hid (RD w X (Y6.setCell ⟨o,3,none⟩ (.slice a6 (putL r.sus (u : Int)).length c6b)) p a len cap bs o zeroRc { A with sa := a6,sc := c6b } { r with wed := true,sus := putL r.sus (u : Int) } fp6) := R8
        have HS8 : Hid (SmR { r with wed := true,sus := putL r.sus (u : Int) }) := ⟨HS.out.ver,HS.out.tl,HS.out.ts,HS.out.gl,HS.out.gf,by have := put_len r.sus (u : Int);have := HU.out;simp only;omega,put_fits HS.out.sf (by omega),HS.out.ml,HS.out.mf,HS.out.bys⟩
        clear R7 R7b hB hPut R8 c6 g6 hb6 HR6
        refine gt_last rfl (by kernel_rfl) (by kernel_rfl) (fun K hK => ?_)
        go_simp
        refine hK.out _ _ ?_
        have hO := onceC 2 HR8.out.cc (by omega)
        clear hK hHeld z1 y0 y1 q1 q2
        generalize (Y6.setCell ⟨o,3,none⟩ (.slice a6 (putL r.sus (u : Int)).length c6b)) = Y7 at *
        obtain ⟨A7,r7,hR7,hS7,HT8⟩ : ∃ (A7 : Ra) (r7 : Rw),RD w X Y7 p a len cap bs o zeroRc A7 r7 fp6 ∧ SmR r7 ∧ Hid (r7.txt.length ≤ 3) := ⟨_,_,HR8.out,HS8.out,HT3.out⟩
        clear HR8 HS8
        have HR8 : Hid (RD w X Y7 p a len cap bs o zeroRc A7 r7 fp6) := hR7
        have HS8 : Hid (SmR r7) := hS7
        clear hR7 hS7
        go_wp2_with fail
        refine hO.mono ?_
        rintro e Y8 ⟨t2,rfl,c7,g7⟩
        have HR9 : Hid (RD w X Y8 p a len cap bs o zeroRc A7 r7 fp6) := HR8.out.drawn g7 c7
        clear hO c7 g7 HR8
        cases t2 with
        | false =>
         go_wp2
         go_meet
         case rel => exact ⟨_,_,_,HR9.out,HS8.out,HT8.out⟩
        | true =>
         have y0 := HR9.out.c8.2.2.1
         have y1 := HR9.out.fo 5
         have R10 := HR9.out.rdy true
         have hB := belowC N (N : Int) rfl R10.cc (by omega) (by omega)
         have HR10 : Hid (RD w X (Y8.setCell ⟨o,5,none⟩ (.bool true)) p a len cap bs o zeroRc A7 { r7 with rdy := true } fp6) := R10
         clear R10 HR9
         go_wp2_with fail
         refine hB.mono ?_
         rintro e Y9 ⟨u2,rfl,hu2,c8,g8⟩
         obtain ⟨i2,hi2,hw0,hw1,hw2⟩ := info_parts2n Try.info2n
         have R11 := HR10.out.drawn g8 c8
         have z0 := R11.c8.2.2.2.1
         have z1 := R11.fo 6
         have R12 := R11.by_ (u2 : Int)
         clear hB HR10 R11 c8 g8 y0 y1
         go_upto_region 17 with fail
         clear z0 z1
         generalize Y9.setCell ⟨o,6,none⟩ (.int .i64 (u2 : Int)) = Y10 at *
         have hA := R12.copyT HS8.out.gf (by have := HS8.out.gl;simp only;omega) i2 hi2 hw0 hw1 hw2
         have z2 := R12.c8.1.2.2.1
         have R13 := R12.step (oneA16 _ (.cells #[] 2))
         have z3 := R13.c8.1.2.2.1
         clear R12 R13
         simp only at hA z2 z3
         go_wp2_with (at_builtin;refine wpList_append_of (by rfl) _ _ _ _ (by rfl) _ _ (by rfl) (by rfl) hA ⟨rfl,rfl,rfl,rfl⟩ ?_;rintro v14 w14 ⟨a14,c14,rfl,q1,q2,fp14,hR14⟩;have HR14 : Hid (∃ (A : Ra) (r : Rw) (fp : Fp),RD w X (w14.setCell ⟨o,7,none⟩ (.slice a14 r7.got.length c14)) p a len cap bs o zeroRc A r fp ∧ SmR r ∧ r.txt.length ≤ 3) := ⟨_,_,_,hR14,⟨HS8.out.ver,HS8.out.tl,HS8.out.ts,HS8.out.gl,HS8.out.gf,HS8.out.sl,HS8.out.sf,HS8.out.gl,HS8.out.gf,by simp only;omega⟩,HT8.out⟩;clear hR14 hA z2 z3)
         go_meet
         case rel => exact HR14.out
      case rest =>
       clear HS HT3 HU HGl HR4 HBN
       obtain ⟨A,r,fp,hR,hS,hT⟩ := hcut
       have HS : Hid (SmR r) := hS
       have HT : Hid (r.txt.length ≤ 3) := hT
       have hO := onceC 12 hR.cc (by omega)
       have HR : Hid (RD w X wc p a len cap bs o zeroRc A r fp) := hR
       clear hR hS hT
       go_wp2_with fail
       refine hO.mono ?_
       rintro e Z1 ⟨t,rfl,c5,g5⟩
       have HR1 : Hid (RD w X Z1 p a len cap bs o zeroRc A r fp) := HR.out.drawn g5 c5
       clear hO c5 g5 HR
       go_upto_if 66 with fail
       go_cut [66] from 67 to 112 (fun _ wx => ∃ (A : Ra) (r : Rw) (fp : Fp),RD w X wx p a len cap bs o zeroRc A r fp ∧ SmR r)
       case first =>
        cases t with
        | false =>
         go_wp2
         go_meet
         case rel => exact ⟨A,r,fp,HR1.out,HS.out⟩
        | true =>
         have hB := belowC 6 6 rfl HR1.out.cc (by omega) (by omega)
         go_wp2_with fail
         refine hB.mono ?_
         rintro e Z2 ⟨y,rfl,hy,c6,g6⟩
         have R2 := HR1.out.drawn g6 c6
         clear hB c6 g6 HR1
         obtain rfl | rfl | rfl | rfl | rfl | rfl : y = 0 ∨ y = 1 ∨ y = 2 ∨ y = 3 ∨ y = 4 ∨ y = 5 := by omega
         ·have R3 := R2.step (oneA16 Z2 (.cells #[.int .i64 (-1),.int .i64 1000000,.int .i64 1000001] 2))
          have hB3 := belowC 3 3 rfl R3.cc (by omega) (by omega)
          have hq := Bx.new Z2 2 #[.int .i64 (-1),.int .i64 1000000,.int .i64 1000001]
          have hpZ : p < Z2.heap.size := R2.cc.lt
          have HR3 : Hid (RD w X (Z2.alloc (.cells #[.int .i64 (-1),.int .i64 1000000,.int .i64 1000001] 2)) p a len cap bs o zeroRc A r fp) := R3
          clear R2 R3
          go_wp2_with fail
          refine hB3.mono ?_
          rintro e Z3 ⟨z,rfl,hz,c7,g7⟩
          have R4 := HR3.out.drawn g7 c7
          have hq7 := hq.grown g7 (by simp;omega)
          have d0 := R4.c8.1.1
          have d2 := R4.fo 0
          have HR4 : Hid (RD w X Z3 p a len cap bs o zeroRc A r fp) := R4
          clear hB3 c7 g7 HR3 hq R4
          obtain rfl | rfl | rfl : z = 0 ∨ z = 1 ∨ z = 2 := by omega
          ·have hqc : Z3.cell? ⟨Z2.heap.size,0,none⟩ = some (.int .i64 (-1)) := hq7.at 0 rfl
           clear hq7
           go_wp2
           go_meet
           case rel => exact ⟨A,_,fp,HR4.out.ver (-1),⟨by simp only;omega,HS.out.tl,HS.out.ts,HS.out.gl,HS.out.gf,HS.out.sl,HS.out.sf,HS.out.ml,HS.out.mf,HS.out.bys⟩⟩
          ·have hqc : Z3.cell? ⟨Z2.heap.size,1,none⟩ = some (.int .i64 1000000) := hq7.at 1 rfl
           clear hq7
           go_wp2
           go_meet
           case rel => exact ⟨A,_,fp,HR4.out.ver 1000000,⟨by simp only;omega,HS.out.tl,HS.out.ts,HS.out.gl,HS.out.gf,HS.out.sl,HS.out.sf,HS.out.ml,HS.out.mf,HS.out.bys⟩⟩
          ·have hqc : Z3.cell? ⟨Z2.heap.size,2,none⟩ = some (.int .i64 1000001) := hq7.at 2 rfl
           clear hq7
           go_wp2
           go_meet
           case rel => exact ⟨A,_,fp,HR4.out.ver 1000001,⟨by simp only;omega,HS.out.tl,HS.out.ts,HS.out.gl,HS.out.gf,HS.out.sl,HS.out.sf,HS.out.ml,HS.out.mf,HS.out.bys⟩⟩
         ·have R3 := R2.drewN 1
          have hB5 := belowC 2 2 rfl R3.cc (by omega) (by omega)
          have x1 := R2.c8.1.2.1
          have hlen : r.txt.length ≤ 1000 := by have := HT.out;omega
          have HR3 : Hid (RD w X (Z2.drewN 1) p a len cap bs o zeroRc A r fp) := R3
          clear R2 R3
          go_wp2_with fail
          refine gt_begin (S := fun X : World => X.cell? ⟨o,1,none⟩ = some (.slice A.ta r.txt.length A.tc)) 10 hmix (by kernel_rfl) ?_
          have hHeld : (fun X : World => X.cell? ⟨o,1,none⟩ = some (.slice A.ta r.txt.length A.tc)) Z2.drew := x1
          refine gt_take (i := 0) (v := ?_) rfl (by kernel_rfl) (by kernel_rfl) (by kernel_rfl) (by kernel_rfl) (fun _ _ _ h => h) (Or.inl ⟨by rfl, ?_⟩) hHeld ?_
          rotate_left
          ·(intro X hSX;(try dsimp only at hSX);have g0 := hSX;go_simp;try with_reducible rfl)
          try simp only [Act.put,List.setIfInBounds_toArray,List.set_cons_zero,List.set_cons_succ]
          refine gt_take (i := 1) (v := ?_) rfl (by kernel_rfl) (by kernel_rfl) (by kernel_rfl) (by kernel_rfl) (fun _ _ _ h => h) (Or.inl ⟨by rfl, ?_⟩) hHeld ?_
          rotate_left
          ·(intro X hSX;(try dsimp only at hSX);have g0 := hSX;go_simp;try with_reducible rfl)
          try simp only [Act.put,List.setIfInBounds_toArray,List.set_cons_zero,List.set_cons_succ]
          refine gt_pure (i := 2) (v := ?_) rfl (by kernel_rfl) (by kernel_rfl) (by kernel_rfl) (fun _ _ _ h => h) (Or.inl ⟨by rfl, ?_⟩) ?_
          rotate_left
          ·(intro X;go_simp;try with_reducible rfl)
          try simp only [Act.put,List.setIfInBounds_toArray,List.set_cons_zero,List.set_cons_succ]
          refine gt_one (i := 3) rfl (by kernel_rfl) (by kernel_rfl) (fun K hK => ?_)
          go_simp
          go_at_call 57
          refine hB5.mono ?_
          rintro e Y6 ⟨z,rfl,hz,c7,g7⟩
          have L7 := HR3.out.drawn g7 c7
          refine hK.out _ _ L7.c8.1.2.1 (fun hHeld2 => ?_)
          clear hK hHeld
          have hHeld := hHeld2
          try simp only [Act.put,List.setIfInBounds_toArray,List.set_cons_zero,List.set_cons_succ]
          obtain ⟨MM,hM⟩ : ∃ MM : Nat,20 + z = MM := ⟨_,rfl⟩
          have hMi : IntKind.i64.wrap ((20 : Int) + (z : Int)) = (MM : Int) := by rw [IntKind.wrap_i64];omega
          have hmk := make_byR MM (by omega)
          have hst := conv_byR Y6 MM (by omega)
          have hml : (List.replicate MM (0 : UInt8)).length ≤ 21 := by rw [List.length_replicate];omega
          generalize List.replicate MM (0 : UInt8) = s at *
          refine gt_pure (i := 4) (v := ?_) rfl (by kernel_rfl) (by kernel_rfl) (by kernel_rfl) (fun _ _ _ h => h) (Or.inl ⟨by rfl, ?_⟩) ?_
          rotate_left
          ·(intro X;go_simp;try with_reducible rfl)
          try simp only [Act.put,List.setIfInBounds_toArray,List.set_cons_zero,List.set_cons_succ]
          refine gt_one (i := 5) rfl (by kernel_rfl) (by kernel_rfl) (fun K hK => ?_)
          go_simp
          have L8 := L7.step (oneA16 Y6 (.cells (madeCells #[.int .u8 0] MM) 5))
          refine hK.out _ _ L8.c8.1.2.1 (fun hHeld3 => ?_)
          clear hK hHeld
          have hHeld := hHeld3
          try simp only [Act.put,List.setIfInBounds_toArray,List.set_cons_zero,List.set_cons_succ]
          refine gt_one (i := 6) rfl (by kernel_rfl) (by kernel_rfl) (fun K hK => ?_)
          go_simp
          refine hK.out _ _ L8.c8.1.2.1 (fun hHeld4 => ?_)
          clear hK hHeld
          have hHeld := hHeld4
          try simp only [Act.put,List.setIfInBounds_toArray,List.set_cons_zero,List.set_cons_succ]
          refine gt_one (i := 7) rfl (by kernel_rfl) (by kernel_rfl) (fun K hK => ?_)
          go_simp
          refine hK.out _ _ (L8.step (oneA16 _ (.cells #[.string (sv s)] 9))).c8.1.2.1 (fun hHeld5 => ?_)
          clear hK hHeld
          have hHeld := hHeld5
          try simp only [Act.put,List.setIfInBounds_toArray,List.set_cons_zero,List.set_cons_succ]
          have hA := L8.app i0 hi0 hz0 hz1 hz2 s hlen
          rw [World.size_alloc] at hA
          refine gt_one (i := 8) rfl (by kernel_rfl) (by kernel_rfl) (fun K hK => ?_)
          refine step_append_of (by rfl) _ _ _ _ (by rfl) (.slice A.ta r.txt.length A.tc) _ (by rfl) (by rfl) hA ⟨rfl,rfl,rfl,rfl⟩ ?_
          rintro v' w4 ⟨a',c',rfl,q1,q2,fp',hRn⟩
          refine hK.out _ _ q1 (fun hHeld6 => ?_)
          clear hK hHeld
          have hHeld := hHeld6
          try simp only [Act.put,List.setIfInBounds_toArray,List.set_cons_zero,List.set_cons_succ]
          refine gt_take (i := 9) (v := ?_) rfl (by kernel_rfl) (by kernel_rfl) (by kernel_rfl) (by kernel_rfl) (fun _ _ _ h => h) (Or.inl ⟨by rfl, ?_⟩) hHeld ?_
          rotate_left
          ·(intro X hSX;(try dsimp only at hSX);have g0 := hSX;go_simp;try with_reducible rfl)
          try simp only [Act.put,List.setIfInBounds_toArray,List.set_cons_zero,List.set_cons_succ]
          have HRn : Hid (∃ (A : Ra) (r : Rw) (fp : Fp),RD w X _ p a len cap bs o zeroRc A r fp ∧ SmR r) := ⟨_,_,fp',hRn,⟨HS.out.ver,by have := HT.out;simp;omega,snoc_short HS.out.ts hml,HS.out.gl,HS.out.gf,HS.out.sl,HS.out.sf,HS.out.ml,HS.out.mf,HS.out.bys⟩⟩
          clear L7 L8 hRn hA c7 g7 hB5
          refine gt_last rfl (by kernel_rfl) (by kernel_rfl) (fun K hK => ?_)
          go_simp
          refine hK.out _ _ ?_
          go_wp2
          go_meet
          case rel => exact HRn.out
         ·have hV := vecCO N (N : Int) rfl (by omega) R2.cc
          have HR2 : Hid (RD w X Z2 p a len cap bs o zeroRc A r fp) := R2
          clear R2
          go_wp2_with fail
          refine hV.mono ?_
          rintro e Z3 ⟨a',c',zs,f',rfl,ho',hf',hfz,hz16,c7,g7⟩
          have R3 := HR2.out.drawn g7 c7
          have hs7 := g7.size
          have hol := HR2.out.own.lt
          have hXo := HR2.out.ho
          have d1 := R3.c8.1.2.2.1
          have d2 := R3.fo 2
          obtain ⟨fp',R4⟩ := R3.got ho' (fun b hb => by have := hf' b hb;omega) (fun b hb hfp => by have := hf' b hb;have := owL_lt HR2.out.ls b hfp;omega)
          have HR4 : Hid (∃ (A : Ra) (r : Rw) (fp : Fp),RD w X (Z3.setCell ⟨o,2,none⟩ (.slice a' zs.length c')) p a len cap bs o zeroRc A r fp ∧ SmR r) := ⟨_,_,fp',R4,⟨HS.out.ver,HS.out.tl,HS.out.ts,hz16,hfz,HS.out.sl,HS.out.sf,HS.out.ml,HS.out.mf,HS.out.bys⟩⟩
          clear R3 R4 hV ho' hf' hfz c7 g7 HR2
          go_wp2
          go_meet
          case rel => exact HR4.out
         ·have d1 := R2.c8.2.2.1
          have d2 := R2.fo 5
          have HR2 : Hid (RD w X Z2 p a len cap bs o zeroRc A r fp) := R2
          clear R2
          go_wp2
          go_meet
          case rel => exact ⟨A,_,fp,HR2.out.rdy (!r.rdy),⟨HS.out.ver,HS.out.tl,HS.out.ts,HS.out.gl,HS.out.gf,HS.out.sl,HS.out.sf,HS.out.ml,HS.out.mf,HS.out.bys⟩⟩
         ·have hF := fromC (-1) 7 (by omega) (by omega) (by omega) R2.cc
          have HR2 : Hid (RD w X Z2 p a len cap bs o zeroRc A r fp) := R2
          clear R2
          go_wp2_with fail
          refine hF.mono ?_
          rintro e Z3 ⟨x,rfl,hx0,hx1,c7,g7⟩
          have R3 := HR2.out.drawn g7 c7
          have d1 := R3.c8.2.2.2.1
          have d2 := R3.fo 6
          have HR3 : Hid (RD w X Z3 p a len cap bs o zeroRc A r fp) := R3
          clear R3 hF c7 g7 HR2
          go_wp2
          go_meet
          case rel => exact ⟨A,_,fp,HR3.out.by_ x,⟨HS.out.ver,HS.out.tl,HS.out.ts,HS.out.gl,HS.out.gf,HS.out.sl,HS.out.sf,HS.out.ml,HS.out.mf,⟨hx0,hx1⟩⟩⟩
         ·have hB5 := belowC 2 2 rfl R2.cc (by omega) (by omega)
          have HR2 : Hid (RD w X Z2 p a len cap bs o zeroRc A r fp) := R2
          clear R2
          go_wp2_with fail
          refine hB5.mono ?_
          rintro e Z3 ⟨z,rfl,hz,c7,g7⟩
          have R3 := HR2.out.drawn g7 c7
          have hoY : o < Z3.heap.size := R3.own.lt
          have hXo := R3.ho
          obtain ⟨MM,hM⟩ : ∃ MM : Nat,12 + z = MM := ⟨_,rfl⟩
          obtain ⟨T',hT'l,hOS,hsm⟩ : ∃ T' : List (List UInt8),T'.length = MM ∧ OS (Z3.alloc (.cells (madeCells #[.string ⟨#[]⟩] MM) 9)) Z3.heap.size 0 MM MM T' ∧ ∀ i,i < T'.length → (T'.getD i []).length ≤ 21 := ⟨List.replicate MM [],by simp,made_os Z3 MM (by unfold maxLen;omega),fun i hi => by simp [List.getD_eq_getElem?_getD,List.getElem?_replicate];split <;> simp⟩
          subst hT'l
          have hmk := run_make_row' (P := Try.prog) 33 9 (.string ⟨#[]⟩) 16 Try.underlying33 Try.info9 rfl .i64 .i64 T'.length (by omega) (by omega)
          have hMi : (12 : Int) + (z : Int) = (T'.length : Int) := by omega
          have hwm : wrap64 (T'.length : Int) = (T'.length : Int) := by unfold wrap64;omega
          have HM1 : Hid ((12 : Int) + (z : Int) = (T'.length : Int)) := hMi
          have HM2 : Hid (wrap64 (T'.length : Int) = (T'.length : Int)) := hwm
          clear hMi hwm
          have R4 := R3.step (oneA16 Z3 (.cells (madeCells #[.string ⟨#[]⟩] T'.length) 9))
          have d1 := R4.c8.1.2.1
          have d2 := R4.fo 1
          obtain ⟨fp',R5⟩ := R4.txt (a' := some ⟨Z3.heap.size,0,none⟩) (c' := T'.length) (Z := T') (f' := fun b => b = Z3.heap.size) (ow_scl.2 ⟨_,_,some Z3.heap.size,rfl,OSo.of hOS,fun b => by simp [eq_comm]⟩) (fun b hb => by omega) (fun b hb hfp => by have := owL_lt R3.ls b hfp;omega)
          have HR5 : Hid (∃ (A : Ra) (r : Rw) (fp : Fp),RD w X ((Z3.alloc (.cells (madeCells #[.string ⟨#[]⟩] T'.length) 9)).setCell ⟨o,1,none⟩ (.slice (some ⟨Z3.heap.size,0,none⟩) T'.length T'.length)) p a len cap bs o zeroRc A r fp ∧ SmR r) := ⟨_,_,fp',R5,⟨HS.out.ver,by simp only;omega,hsm,HS.out.gl,HS.out.gf,HS.out.sl,HS.out.sf,HS.out.ml,HS.out.mf,HS.out.bys⟩⟩
          clear hB5 c7 g7 HR2 R3 R4 R5 hOS hsm hM hz
          generalize hVV : Z3.alloc (.cells (madeCells #[.string ⟨#[]⟩] T'.length) 9) = V at *
          have hMi := HM1.out
          have hwm := HM2.out
          go_wp2
          go_meet
          case rel => exact HR5.out
       case rest =>
        clear HS HT HR1
        obtain ⟨A,r,fp,hR,hS⟩ := hcut
        have HS : Hid (SmR r) := hS
        clear hS
        obtain ⟨⟨e0,e1,e2,e3⟩,e4,e5,e6,e7⟩ := hR.c8
        obtain ⟨⟨r0b,r1b,r2b,r3b⟩,r4b,r5b,r6b,r7b⟩ := hR.r8
        obtain ⟨⟨f0,f1,f2,f3⟩,f4,f5,f6,f7⟩ := hR.f8
        have HR : Hid (RD w X wc p a len cap bs o zeroRc A r fp) := hR
        clear hR
        go_wp2
        refine bodyPost_ret (v := .agg #[.int .i64 r.ver,.slice A.ta r.txt.length A.tc,.slice A.ga r.got.length A.gc,.slice A.sa r.sus.length A.sc,.bool r.wed,.bool r.rdy,.int .i64 r.by_,.slice A.ma r.trm.length A.mc]) (by simp [results,Try.results76,go_sem, *]) rfl ?_
        exact ⟨A,r,fp,rfl,HS.out,HR.out.ans⟩
end Go.Proofs.Ytlnmdfgcpfbleaa
namespace Go.Proofs.Ytlnmdfgcpfbleaa
set_option linter.unusedVariables false
set_option linter.unusedSimpArgs false
open Go.RowKit Go.Sort
theorem okRw_n {r : Rw} {n : Int} (h : inB n 1 5 = false) : okRw r n = false := by rw [okRw,h];rfl
theorem okRw_v {r : Rw} {n : Int} (h : inB r.ver 0 1000000 = false) : okRw r n = false := by rw [okRw,h];simp
theorem okRw_t {r : Rw} {n : Int} (h : ¬ r.txt.length ≤ 12) : okRw r n = false := by rw [okRw,decide_eq_false h];simp
theorem okRw_g {r : Rw} {n : Int} (h : smB r.got n = false) : okRw r n = false := by rw [okRw,h];simp
theorem okRw_s {r : Rw} {n : Int} (h : susB r.sus n = false) : okRw r n = false := by rw [okRw,h];simp
theorem okRw_x {r : Rw} {n : Int} {k : Nat} (hk : k < r.txt.length) (h : ¬ (r.txt.getD k []).length ≤ 20) : okRw r n = false := by
 have : r.txt.all (fun t => decide (t.length ≤ 20)) = false := by
  rw [List.all_eq_false]
  refine ⟨r.txt[k],List.getElem_mem hk, ?_⟩
  rw [List.getD_eq_getElem?_getD,List.getElem?_eq_getElem hk] at h
  simpa using h
 rw [okRw,this]
 simp
def endB (r : Rw) (n : Int) : Bool := if r.rdy then r.wed && (inB r.by_ 0 (n - 1) && smB r.trm n) else decide (r.by_ = 0) && decide (r.trm = [])
theorem okRw_end {r : Rw} {n : Int} (h1 : inB n 1 5 = true) (h2 : inB r.ver 0 1000000 = true) (h3 : r.txt.length ≤ 12) (h4 : smB r.got n = true) (h5 : susB r.sus n = true) (h6 : ∀ k,k < r.txt.length → (r.txt.getD k []).length ≤ 20) : okRw r n = endB r n := by
 have : r.txt.all (fun t => decide (t.length ≤ 20)) = true := by
  rw [List.all_eq_true]
  intro t ht
  obtain ⟨j,hj,rfl⟩ := List.mem_iff_getElem.1 ht
  have := h6 j hj
  rw [List.getD_eq_getElem?_getD,List.getElem?_eq_getElem hj] at this
  simpa using this
 rw [okRw,h1,h2,decide_eq_true h3,h4,h5,this]
 rfl
attribute [local irreducible] sv
set_option maxRecDepth 100000 in
set_option maxHeartbeats 3200000 in
theorem rowS_any (A : Ra) (r : Rw) (n : Int) (w : World) (hv : RwS w A r) :
  Calls Try.prog 36 #[rwV A r,.int .i64 n] w fun e w' => e = .returned (.bool (okRw r n)) ∧ Below w.heap.size w w' := by
 have hB0 := oneA16 w (.cells (rwC A r) 35)
 have hx := Bx.new w 35 (rwC A r)
 have h0 := hv.below hB0
 generalize hW : w.alloc (.cells (rwC A r) 35) = W at *
 have hsz : w.heap.size < W.heap.size := hx.lt
 obtain ⟨ver,txt,got,sus,wed,rdy,by_,trm⟩ := r
 obtain ⟨ta,tc,ga,gc,sa,sc,ma,mc⟩ := A
 have hw0 : w.alloc (.cells #[.int .i64 ver,.slice ta txt.length tc,.slice ga got.length gc,.slice sa sus.length sc,.bool wed,.bool rdy,.int .i64 by_,.slice ma trm.length mc] 35) = W := hW
 obtain ⟨⟨c0,c1,c2,c3⟩,c4,c5,c6,c7⟩ := Bx.r8 hx
 have HX : Hid (Bx W w.heap.size 35 #[.int .i64 ver,.slice ta txt.length tc,.slice ga got.length gc,.slice sa sus.length sc,.bool wed,.bool rdy,.int .i64 by_,.slice ma trm.length mc]) := hx
 obtain ⟨htx,hgo,hsu,htr,mt,mg,ms,mm⟩ := h0
 simp only at htx hgo hsu htr mt mg ms mm c0 c1 c2 c3 c4 c5 c6 c7
 have HB0 : Hid (Below w.heap.size w W) := hB0
 unfold rwV rwC
 clear hv hx hW hB0
 have hVo := specOk_any ga got.length gc got W hgo mg
 simp only
 cases e1 : inB n 1 5 with
 | false =>
  have HZ : Hid (okRw ⟨ver,txt,got,sus,wed,rdy,by_,trm⟩ n = false) := okRw_n e1
  go_enter Try.func36,Try.ntmps36
  go_wp2_with (first | (go_at_call 73;refine (l1In_any _ _ _ _).mono ?_;rintro e w' ⟨rfl,hw'⟩;rw [hw'];clear hw'))
  go_ret
  exact ⟨ret_bool (by rw [HZ.out]),HB0.out⟩
 | true =>
 have hn5 := inB7.1 e1
 have hSu := susS_any sa sc sus n W hsu ms (by omega)
 have HN1 : Hid (inB n 1 5 = true) := e1
 cases e2 : inB ver 0 1000000 with
 | false =>
  have HZ : Hid (okRw ⟨ver,txt,got,sus,wed,rdy,by_,trm⟩ n = false) := okRw_v e2
  go_enter Try.func36,Try.ntmps36
  go_wp2_with (first | (go_at_call 73;refine (l1In_any _ _ _ _).mono ?_;rintro e w' ⟨rfl,hw'⟩;rw [hw'];clear hw'))
  go_ret
  exact ⟨ret_bool (by rw [HZ.out]),HB0.out⟩
 | true =>
 have HN2 : Hid (inB ver 0 1000000 = true) := e2
 by_cases h12 : txt.length ≤ 12
 rotate_left
 ·have g12 : (12 : Int) < (txt.length : Int) := by omega
  have HZ : Hid (okRw ⟨ver,txt,got,sus,wed,rdy,by_,trm⟩ n = false) := okRw_t h12
  go_enter Try.func36,Try.ntmps36
  go_wp2_with (first | (go_at_call 73;refine (l1In_any _ _ _ _).mono ?_;rintro e w' ⟨rfl,hw'⟩;rw [hw'];clear hw'))
  go_ret
  exact ⟨ret_bool (by rw [HZ.out]),HB0.out⟩
 have g12 : ¬ ((12 : Int) < (txt.length : Int)) := by omega
 cases e4 : okB got with
 | false =>
  rw [e4] at hVo
  have HZ : Hid (okRw ⟨ver,txt,got,sus,wed,rdy,by_,trm⟩ n = false) := okRw_g (by simp [smB,e4])
  go_enter Try.func36,Try.ntmps36
  go_wp2_with (first | (go_at_call 73;refine (l1In_any _ _ _ _).mono ?_;rintro e w' ⟨rfl,hw'⟩;rw [hw'];clear hw') | (go_at_call 25;refine hVo.mono ?_;rintro e w' ⟨rfl,hw'⟩;rw [hw'];clear hw'))
  go_ret
  exact ⟨ret_bool (by rw [HZ.out]),HB0.out⟩
 | true =>
 rw [e4] at hVo
 by_cases h5 : (got.length : Int) = n
 rotate_left
 ·have g5 : ((got.length : Int) != n) = true := by simpa using h5
  have HZ : Hid (okRw ⟨ver,txt,got,sus,wed,rdy,by_,trm⟩ n = false) := okRw_g (by simp [smB,h5])
  go_enter Try.func36,Try.ntmps36
  go_wp2_with (first | (go_at_call 73;refine (l1In_any _ _ _ _).mono ?_;rintro e w' ⟨rfl,hw'⟩;rw [hw'];clear hw') | (go_at_call 25;refine hVo.mono ?_;rintro e w' ⟨rfl,hw'⟩;rw [hw'];clear hw'))
  go_ret
  exact ⟨ret_bool (by rw [HZ.out]),HB0.out⟩
 have g5 : ((got.length : Int) != n) = false := by simpa using h5
 have HSM : Hid ((∀ k,k < got.length → el got k ≤ 12) → smB got n = true) := fun h => smB_parts e4 h5 h
 have HG5 : Hid ((got.length : Int) = n) := h5
 clear h5 e4
 cases e6 : susB sus n with
 | false =>
  rw [e6] at hSu
  have HZ : Hid (okRw ⟨ver,txt,got,sus,wed,rdy,by_,trm⟩ n = false) := okRw_s e6
  go_enter Try.func36,Try.ntmps36
  go_wp2_with (first | (go_at_call 73;refine (l1In_any _ _ _ _).mono ?_;rintro e w' ⟨rfl,hw'⟩;rw [hw'];clear hw') | (go_at_call 25;refine hVo.mono ?_;rintro e w' ⟨rfl,hw'⟩;rw [hw'];clear hw') | (go_at_call 81;refine hSu.mono ?_;rintro e w2 ⟨rfl,hb2⟩;obtain ⟨⟨d0,d1,d2,d3⟩,d4,d5,d6,d7⟩ := Bx.r8 (HX.out.below hb2)))
  go_ret
  exact ⟨ret_bool (by rw [HZ.out]),HB0.out.trans (hb2.mono HB0.out.size)⟩
 | true =>
 rw [e6] at hSu
 have HN6 : Hid (susB sus n = true) := e6
 clear e6
 have HTX : Hid (TxS W ta txt) := htx
 have HGO : Hid (Vec W ga got.length got) := hgo
 have HTR : Hid (Vec W ma trm.length trm) := htr
 clear htx hgo hsu htr
 go_enter Try.func36,Try.ntmps36
 go_wp2_with (first | (go_at_call 73;refine (l1In_any _ _ _ _).mono ?_;rintro e w' ⟨rfl,hw'⟩;rw [hw'];clear hw') | (go_at_call 25;refine hVo.mono ?_;rintro e w' ⟨rfl,hw'⟩;rw [hw'];clear hw') | (go_at_call 81;refine hSu.mono ?_;rintro e w2 ⟨rfl,hb2⟩;obtain ⟨⟨d0,d1,d2,d3⟩,d4,d5,d6,d7⟩ := Bx.r8 (HX.out.below hb2)))
 have HB2 : Hid (Below w.heap.size w w2) := HB0.out.trans (hb2.mono HB0.out.size)
 have HT2 : Hid (TxS w2 ta txt) := HTX.out.below hb2
 have HG2 : Hid (Vec w2 ga got.length got) := HGO.out.below hb2 (Nat.le_refl _)
 have hTr := trmS16_any ma mc trm n w2 (HTR.out.below hb2 (Nat.le_refl _)) mm
 unfold maxLen at mt mg ms mm
 clear hVo hSu hb2 c0 c1 c2 c3 c4 c5 c6 c7 hw0 g5 e1 e2 HTX HGO HTR
 go_loop [5] (fun i => ∃ k : Nat,k ≤ txt.length ∧ i = .int .i64 k ∧ ∀ j,j < k → (txt.getD j []).length ≤ 20) (fun i => txt.length - (intOf i).toNat)
 case atStart => exact ⟨0,Nat.zero_le _,rfl,fun j hj => by omega⟩
 case round =>
  obtain ⟨k,hk,rfl,hall⟩ := hrel
  have HA : Hid (∀ j,j < k → (txt.getD j []).length ≤ 20) := hall
  clear hall
  by_cases hlt : k < txt.length
  ·rcases HT2.out with h0 | ⟨b,off,rfl,hc⟩
   ·omega
   have hck := hc k hlt
   have k1 : (k : Int) < (txt.length : Int) := by omega
   have k0 : (0 : Int) ≤ (k : Int) := by omega
   clear hc
   have hszt := sv_size (txt.getD k [])
   by_cases h20 : (txt.getD k []).length ≤ 20
   ·have g20 : ¬ ((20 : Int) < ((txt.getD k []).length : Int)) := by omega
    have HN : Hid (∀ j,j < k + 1 → (txt.getD j []).length ≤ 20) := fun j hj => by
     rcases Nat.lt_succ_iff_lt_or_eq.1 hj with h1 | h1
     ·exact HA.out j h1
     ·rw [h1];exact h20
    generalize txt.getD k [] = t at *
    clear h20
    go_wp2
    go_round
    case rel => exact ⟨k + 1,by omega,by go_num,HN.out⟩
    case measure => simp [intOf];omega
   ·have g20 : (20 : Int) < ((txt.getD k []).length : Int) := by omega
    have HZ : Hid (okRw ⟨ver,txt,got,sus,wed,rdy,by_,trm⟩ n = false) := okRw_x (k := k) hlt h20
    generalize txt.getD k [] = t at *
    clear h20
    go_wp2
    go_ret
    exact ⟨ret_bool (by rw [HZ.out]),HB2.out⟩
  ·have k1 : ¬ ((k : Int) < (txt.length : Int)) := by omega
   have HAll : Hid (∀ j,j < txt.length → (txt.getD j []).length ≤ 20) := fun j hj => HA.out j (by omega)
   clear HA HT2
   go_wp2
   go_loop [6] (fun i => ∃ m : Nat,m ≤ got.length ∧ i = .int .i64 m ∧ ∀ j,j < m → el got j ≤ 12) (fun i => got.length - (intOf i).toNat)
   case atStart => exact ⟨0,Nat.zero_le _,rfl,fun j hj => by omega⟩
   case round =>
    obtain ⟨m,hm,rfl,hall⟩ := hrel
    have HA : Hid (∀ j,j < m → el got j ≤ 12) := hall
    clear hall
    by_cases hlt2 : m < got.length
    ·rcases HG2.out.2.2 with h0 | ⟨b,off,rfl,hc⟩
     ·omega
     have hck := hc m hlt2
     have k1 : (m : Int) < (got.length : Int) := by omega
     have k0 : (0 : Int) ≤ (m : Int) := by omega
     clear hc
     by_cases h12' : el got m ≤ 12
     ·have g12' : ¬ (12 < el got m) := by omega
      have HN : Hid (∀ j,j < m + 1 → el got j ≤ 12) := fun j hj => by
       rcases Nat.lt_succ_iff_lt_or_eq.1 hj with h1 | h1
       ·exact HA.out j h1
       ·rw [h1];exact h12'
      generalize el got m = x at *
      clear h12'
      go_wp2
      go_round
      case rel => exact ⟨m + 1,by omega,by go_num,HN.out⟩
      case measure => simp [intOf];omega
     ·have g12' : 12 < el got m := by omega
      have HZ : Hid (okRw ⟨ver,txt,got,sus,wed,rdy,by_,trm⟩ n = false) := okRw_g (smB_not (v := got) hlt2 h12')
      generalize el got m = x at *
      clear h12'
      go_wp2
      go_ret
      exact ⟨ret_bool (by rw [HZ.out]),HB2.out⟩
    ·have k1 : ¬ ((m : Int) < (got.length : Int)) := by omega
     have HE : Hid (okRw ⟨ver,txt,got,sus,wed,rdy,by_,trm⟩ n = endB ⟨ver,txt,got,sus,wed,rdy,by_,trm⟩ n) := okRw_end HN1.out HN2.out h12 (HSM.out (fun j hj => HA.out j (by omega))) HN6.out HAll.out
     clear HA HG2 HAll
     have hwn : wrap64 (n - 1) = n - 1 := by unfold wrap64;omega
     cases rdy with
     | true =>
      cases wed with
      | false =>
       have HZ : Hid (okRw ⟨ver,txt,got,sus,false,true,by_,trm⟩ n = false) := by rw [Hid,HE.out];rfl
       go_wp2
       go_ret
       exact ⟨ret_bool (by rw [HZ.out]),HB2.out⟩
      | true =>
       cases e7 : inB by_ 0 (n - 1) with
       | false =>
        have HZ : Hid (okRw ⟨ver,txt,got,sus,true,true,by_,trm⟩ n = false) := by rw [Hid,HE.out,endB];simp [e7]
        go_wp2_with (first | (go_at_call 73;refine (l1In_any _ _ _ _).mono ?_;rintro e w' ⟨rfl,hw'⟩;rw [hw'];clear hw'))
        go_ret
        exact ⟨ret_bool (by rw [HZ.out]),HB2.out⟩
       | true =>
        have HZ : Hid (okRw ⟨ver,txt,got,sus,true,true,by_,trm⟩ n = smB trm n) := by rw [Hid,HE.out,endB];simp [e7]
        generalize smB trm n = Q at *
        go_wp2_with (first | (go_at_call 73;refine (l1In_any _ _ _ _).mono ?_;rintro e w' ⟨rfl,hw'⟩;rw [hw'];clear hw') | (go_at_call 82;refine hTr.mono ?_;rintro e w' ⟨rfl,hw'⟩;rw [hw'];clear hw'))
        go_ret
        exact ⟨ret_bool (by rw [HZ.out]),HB2.out⟩
     | false =>
      have HZ : Hid (okRw ⟨ver,txt,got,sus,wed,false,by_,trm⟩ n = (decide (by_ = 0) && decide (trm = []))) := by rw [Hid,HE.out];rfl
      by_cases h7 : by_ = 0
      ·have g7 : (by_ == 0) = true := by simpa using h7
       have HZ2 : Hid (okRw ⟨ver,txt,got,sus,wed,false,by_,trm⟩ n = decide (trm = [])) := by rw [Hid,HZ.out,decide_eq_true h7];rfl
       by_cases h8 : trm = []
       ·have g8 : ((trm.length : Int) == 0) = true := by rw [h8];rfl
        have HZ3 : Hid (okRw ⟨ver,txt,got,sus,wed,false,by_,trm⟩ n = true) := by rw [Hid,HZ2.out,decide_eq_true h8]
        clear h7 h8
        go_wp2
        go_ret
        exact ⟨ret_bool (by rw [HZ3.out]),HB2.out⟩
       ·have g8 : ((trm.length : Int) == 0) = false := by
         have := List.length_pos_iff.2 h8
         simp;omega
        have HZ3 : Hid (okRw ⟨ver,txt,got,sus,wed,false,by_,trm⟩ n = false) := by rw [Hid,HZ2.out,decide_eq_false h8]
        clear h7 h8
        go_wp2
        go_ret
        exact ⟨ret_bool (by rw [HZ3.out]),HB2.out⟩
      ·have g7 : (by_ == 0) = false := by simpa using h7
       have HZ3 : Hid (okRw ⟨ver,txt,got,sus,wed,false,by_,trm⟩ n = false) := by rw [Hid,HZ.out,decide_eq_false h7];rfl
       clear h7
       go_wp2
       go_ret
       exact ⟨ret_bool (by rw [HZ3.out]),HB2.out⟩
end Go.Proofs.Ytlnmdfgcpfbleaa
namespace Go.Proofs.Ytlnmdfgcpfbleaa
set_option linter.unusedVariables false
set_option linter.unusedSimpArgs false
open Go.RowKit Go.Sort
set_option maxRecDepth 100000 in
set_option maxHeartbeats 800000 in
theorem latS_any (A B : Ra) (r s : Rw) (w : World) :
  Calls Try.prog 34 #[rwV A r,rwV B s] w fun e w' => e = .returned (.bool (decide (s.ver < r.ver))) ∧ Below w.heap.size w w' := by
 have hB0 : Below w.heap.size w ((w.alloc (.cells (rwC A r) 35)).alloc (.cells (rwC B s) 35)) := (oneA16 w _).trans ((oneA16 _ _).mono (oneA16 w _).size)
 have hx : Bx ((w.alloc (.cells (rwC A r) 35)).alloc (.cells (rwC B s) 35)) w.heap.size 35 (rwC A r) := (Bx.new w _ _).alloc _
 have hy : Bx ((w.alloc (.cells (rwC A r) 35)).alloc (.cells (rwC B s) 35)) (w.heap.size + 1) 35 (rwC B s) := by
  have := Bx.new (w.alloc (.cells (rwC A r) 35)) 35 (rwC B s)
  simpa using this
 have c0 := hx.at 0 (v := .int .i64 r.ver) rfl
 have d0 := hy.at 0 (v := .int .i64 s.ver) rfl
 have HB : Hid (Below w.heap.size w ((w.alloc (.cells (rwC A r) 35)).alloc (.cells (rwC B s) 35))) := hB0
 unfold rwV
 unfold rwC at *
 clear hx hy hB0
 by_cases h : s.ver < r.ver
 ·have HZ : Hid (decide (s.ver < r.ver) = true) := decide_eq_true h
  go_enter Try.func34,Try.ntmps34
  go_wp2
  go_ret
  exact ⟨ret_bool (by rw [HZ.out]),HB.out⟩
 ·have HZ : Hid (decide (s.ver < r.ver) = false) := decide_eq_false h
  go_enter Try.func34,Try.ntmps34
  go_wp2
  go_ret
  exact ⟨ret_bool (by rw [HZ.out]),HB.out⟩
theorem all_miss16 {l o : List Int} {k : Nat} (hk : k < o.length) (h : el o k ∉ l) : o.all (fun x => decide (x ∈ l)) = false := by
 rw [List.all_eq_false]
 exact ⟨el o k,el_mem hk,by simpa using h⟩
theorem all_hit16 {l o : List Int} (h : ∀ k,k < o.length → el o k ∈ l) : o.all (fun x => decide (x ∈ l)) = true := by
 rw [List.all_eq_true]
 intro x hx
 obtain ⟨j,hj,rfl⟩ := List.mem_iff_getElem.1 hx
 have := h j hj
 simpa [el,hj] using this
set_option maxRecDepth 100000 in
set_option maxHeartbeats 1600000 in
theorem allS_any (a b : Option Addr) (c d : Nat) (l o : List Int) (w : World) (hv : Vec w a l.length l) (hu : Vec w b o.length o) (hm : l.length ≤ maxLen) (hm2 : o.length ≤ maxLen) :
  Calls Try.prog 80 #[.slice a l.length c,.slice b o.length d] w fun e w' => e = .returned (.bool (o.all (fun x => decide (x ∈ l)))) ∧ w' = w := by
 have hH := fun x => l1Has_any a l.length c x l w hv hm
 have HU : Hid (Vec w b o.length o) := hu
 unfold maxLen at hm hm2
 clear hu hv
 go_enter Try.func80,Try.ntmps80
 go_wp2
 go_loop [5] (fun i => ∃ k : Nat,k ≤ o.length ∧ i = .int .i64 k ∧ ∀ j,j < k → el o j ∈ l) (fun i => o.length - (intOf i).toNat)
 case atStart => exact ⟨0,Nat.zero_le _,rfl,fun j hj => by omega⟩
 case round =>
  obtain ⟨k,hk,rfl,hall⟩ := hrel
  have HA : Hid (∀ j,j < k → el o j ∈ l) := hall
  clear hall
  by_cases hlt : k < o.length
  ·rcases HU.out.2.2 with h0 | ⟨b',off,rfl,hc⟩
   ·omega
   have hck := hc k hlt
   have k1 : (k : Int) < (o.length : Int) := by omega
   have k0 : (0 : Int) ≤ (k : Int) := by omega
   have hI := hH (el o k)
   clear hc hH
   by_cases hb : el o k ∈ l
   ·rw [decide_eq_true hb] at hI
    have HN : Hid (∀ j,j < k + 1 → el o j ∈ l) := fun j hj => by
     rcases Nat.lt_succ_iff_lt_or_eq.1 hj with h1 | h1
     ·exact HA.out j h1
     ·rw [h1];exact hb
    generalize el o k = x at *
    clear hb
    go_wp2_with (go_at_call 120;refine hI.mono ?_;rintro e w' ⟨rfl,hw'⟩;rw [hw'];clear hw')
    go_round
    case rel => exact ⟨k + 1,by omega,by go_num,HN.out⟩
    case measure => simp [intOf];omega
   ·rw [decide_eq_false hb] at hI
    have HZ : Hid (o.all (fun x => decide (x ∈ l)) = false) := all_miss16 hlt hb
    generalize el o k = x at *
    clear hb
    go_wp2_with (go_at_call 120;refine hI.mono ?_;rintro e w' ⟨rfl,hw'⟩;rw [hw'];clear hw')
    go_ret
    exact ⟨ret_bool (by rw [HZ.out]),rfl⟩
  ·have k1 : ¬ ((k : Int) < (o.length : Int)) := by omega
   have HZ : Hid (o.all (fun x => decide (x ∈ l)) = true) := all_hit16 (fun j hj => HA.out j (by omega))
   go_wp2
   go_ret
   exact ⟨ret_bool (by rw [HZ.out]),rfl⟩
theorem fol_1 {r s : Rw} {n : Int} (h : okRw r n = false) : folB r s n = false := by rw [folB,h];rfl
theorem fol_2 {r s : Rw} {n : Int} (h : okRw s n = false) : folB r s n = false := by rw [folB,h];simp
theorem fol_3 {r s : Rw} {n : Int} (h : ¬ r.ver ≤ s.ver) : folB r s n = false := by rw [folB,decide_eq_false h];simp
theorem fol_4 {r s : Rw} {n : Int} (h : ¬ r.txt.length ≤ s.txt.length) : folB r s n = false := by rw [folB,decide_eq_false h];simp
theorem fol_5 {r s : Rw} {n : Int} (h : underB r.got s.got = false) : folB r s n = false := by rw [folB,h];simp
theorem fol_6 {r s : Rw} {n : Int} (h : r.sus.all (fun x => decide (x ∈ s.sus)) = false) : folB r s n = false := by rw [folB,h];simp
theorem fol_7 {r s : Rw} {n : Int} {k : Nat} (hk : k < r.txt.length) (hl : r.txt.length ≤ s.txt.length) (h : r.txt.getD k [] ≠ s.txt.getD k []) : folB r s n = false := by
 have : s.txt.take r.txt.length ≠ r.txt := fun e => h (by
  have e2 := congrArg (fun l : List (List UInt8) => l.getD k []) e
  simp only [List.getD_eq_getElem?_getD,List.getElem?_take,hk,if_true] at e2 ⊢
  exact e2.symm)
 rw [folB,decide_eq_false this]
 simp
theorem take_same16 {a b : List (List UInt8)} (hl : a.length ≤ b.length) (h : ∀ k,k < a.length → a.getD k [] = b.getD k []) : b.take a.length = a := by
 apply List.ext_getElem
 ·rw [List.length_take];omega
 ·intro i h1 h2
  have := h i h2
  rw [List.getD_eq_getElem?_getD,List.getD_eq_getElem?_getD,List.getElem?_eq_getElem h2,List.getElem?_eq_getElem (by omega)] at this
  rw [List.getElem_take]
  simpa using this.symm
def endF (r s : Rw) : Bool := (!r.wed || s.wed) && (!r.rdy || (s.rdy && decide (r.by_ ≤ s.by_)))
theorem fol_end {r s : Rw} {n : Int} (h1 : okRw r n = true) (h2 : okRw s n = true) (h3 : r.ver ≤ s.ver) (h4 : r.txt.length ≤ s.txt.length) (h5 : underB r.got s.got = true) (h6 : r.sus.all (fun x => decide (x ∈ s.sus)) = true) (h7 : ∀ k,k < r.txt.length → r.txt.getD k [] = s.txt.getD k []) : folB r s n = endF r s := by
 rw [folB,h1,h2,decide_eq_true h3,decide_eq_true h4,h5,h6,decide_eq_true (take_same16 h4 h7)]
 rfl
attribute [local irreducible] sv
set_option maxRecDepth 100000 in
set_option maxHeartbeats 6400000 in
theorem folS_any (A B : Ra) (r s : Rw) (n : Int) (w : World) (hv : RwS w A r) (hu : RwS w B s) :
  Calls Try.prog 32 #[rwV A r,rwV B s,.int .i64 n] w fun e w' => e = .returned (.bool (folB r s n)) ∧ Below w.heap.size w w' := by
 have hB0 : Below w.heap.size w ((w.alloc (.cells (rwC A r) 35)).alloc (.cells (rwC B s) 35)) := (oneA16 w _).trans ((oneA16 _ _).mono (oneA16 w _).size)
 have hx : Bx ((w.alloc (.cells (rwC A r) 35)).alloc (.cells (rwC B s) 35)) w.heap.size 35 (rwC A r) := (Bx.new w _ _).alloc _
 have hy : Bx ((w.alloc (.cells (rwC A r) 35)).alloc (.cells (rwC B s) 35)) (w.heap.size + 1) 35 (rwC B s) := by
  have := Bx.new (w.alloc (.cells (rwC A r) 35)) 35 (rwC B s)
  simpa using this
 have h0 := hv.below hB0
 have g0 := hu.below hB0
 obtain ⟨pv,pt,pg,ps,pw,pd,py,pm⟩ := r
 obtain ⟨qv,qt,qg,qs,qw,qd,qy,qm⟩ := s
 obtain ⟨pA,pa,pB,pb,pC,pc,pD,pe⟩ := A
 obtain ⟨qA,qa,qB,qb,qC,qc,qD,qe⟩ := B
 have hWe : ∃ W,((w.alloc (.cells #[.int .i64 pv,.slice pA pt.length pa,.slice pB pg.length pb,.slice pC ps.length pc,.bool pw,.bool pd,.int .i64 py,.slice pD pm.length pe] 35)).alloc (.cells #[.int .i64 qv,.slice qA qt.length qa,.slice qB qg.length qb,.slice qC qs.length qc,.bool qw,.bool qd,.int .i64 qy,.slice qD qm.length qe] 35)) = W := ⟨_,rfl⟩
 obtain ⟨W,hW⟩ := hWe
 have hx' : Bx W w.heap.size 35 #[.int .i64 pv,.slice pA pt.length pa,.slice pB pg.length pb,.slice pC ps.length pc,.bool pw,.bool pd,.int .i64 py,.slice pD pm.length pe] := hW ▸ hx
 have hy' : Bx W (w.heap.size + 1) 35 #[.int .i64 qv,.slice qA qt.length qa,.slice qB qg.length qb,.slice qC qs.length qc,.bool qw,.bool qd,.int .i64 qy,.slice qD qm.length qe] := hW ▸ hy
 have hB0' : Below w.heap.size w W := hW ▸ hB0
 have h0' : RwS W ⟨pA,pa,pB,pb,pC,pc,pD,pe⟩ ⟨pv,pt,pg,ps,pw,pd,py,pm⟩ := hW ▸ h0
 have g0' : RwS W ⟨qA,qa,qB,qb,qC,qc,qD,qe⟩ ⟨qv,qt,qg,qs,qw,qd,qy,qm⟩ := hW ▸ g0
 have HX : Hid (∀ X,Below W.heap.size W X → Bx X w.heap.size 35 #[.int .i64 pv,.slice pA pt.length pa,.slice pB pg.length pb,.slice pC ps.length pc,.bool pw,.bool pd,.int .i64 py,.slice pD pm.length pe] ∧ Bx X (w.heap.size + 1) 35 #[.int .i64 qv,.slice qA qt.length qa,.slice qB qg.length qb,.slice qC qs.length qc,.bool qw,.bool qd,.int .i64 qy,.slice qD qm.length qe]) := fun X h => ⟨hx'.below h,hy'.below h⟩
 have HBW : Hid (∀ X,Below W.heap.size W X → Below w.heap.size w X) := fun X h => hB0'.trans (h.mono hB0'.size)
 have HP : Hid (∀ X,Below W.heap.size W X → RwS X ⟨pA,pa,pB,pb,pC,pc,pD,pe⟩ ⟨pv,pt,pg,ps,pw,pd,py,pm⟩) := fun X h => h0'.below h
 have HQ : Hid (∀ X,Below W.heap.size W X → RwS X ⟨qA,qa,qB,qb,qC,qc,qD,qe⟩ ⟨qv,qt,qg,qs,qw,qd,qy,qm⟩) := fun X h => g0'.below h
 have mtp := h0'.mt
 have mtq := g0'.mt
 unfold maxLen at mtp mtq
 simp only at mtp mtq
 have hR1 : Calls Try.prog 36 #[.agg #[.int .i64 pv,.slice pA pt.length pa,.slice pB pg.length pb,.slice pC ps.length pc,.bool pw,.bool pd,.int .i64 py,.slice pD pm.length pe],.int .i64 n] W fun e w' => e = .returned (.bool (okRw (⟨pv,pt,pg,ps,pw,pd,py,pm⟩ : Rw) n)) ∧ Below W.heap.size W w' := rowS_any ⟨pA,pa,pB,pb,pC,pc,pD,pe⟩ ⟨pv,pt,pg,ps,pw,pd,py,pm⟩ n W h0'
 have hR2f : ∀ X,Below W.heap.size W X → Calls Try.prog 36 #[.agg #[.int .i64 qv,.slice qA qt.length qa,.slice qB qg.length qb,.slice qC qs.length qc,.bool qw,.bool qd,.int .i64 qy,.slice qD qm.length qe],.int .i64 n] X fun e w' => e = .returned (.bool (okRw (⟨qv,qt,qg,qs,qw,qd,qy,qm⟩ : Rw) n)) ∧ Below X.heap.size X w' := fun X h => rowS_any ⟨qA,qa,qB,qb,qC,qc,qD,qe⟩ ⟨qv,qt,qg,qs,qw,qd,qy,qm⟩ n X (HQ.out X h)
 have hUf : ∀ X,Below W.heap.size W X → Calls Try.prog 19 #[.slice pB pg.length pb,.slice qB qg.length qb] X fun e w' => e = .returned (.bool (underB pg qg)) ∧ ∃ q,w' = X.drewN q := fun X h => specUnder_any pB qB pg.length pb qg.length qb pg qg X (HP.out X h).got (HQ.out X h).got (HP.out X h).mg (HQ.out X h).mg
 have hAf : ∀ X,Below W.heap.size W X → Calls Try.prog 80 #[.slice qC qs.length qc,.slice pC ps.length pc] X fun e w' => e = .returned (.bool (ps.all (fun x => decide (x ∈ qs)))) ∧ w' = X := fun X h => allS_any qC pC qc pc qs ps X (HQ.out X h).sus (HP.out X h).sus (HQ.out X h).ms (HP.out X h).ms
 have B0 : Below W.heap.size W W := Below.refl _ _
 obtain ⟨⟨c0,c1,c2,c3⟩,c4,c5,c6,c7⟩ := Bx.r8 hx'
 obtain ⟨⟨d0,d1,d2,d3⟩,d4,d5,d6,d7⟩ := Bx.r8 hy'
 unfold rwV rwC
 simp only
 clear hv hu hx hy hx' hy' h0 g0 h0' g0' hB0 hB0'
 cases e1 : okRw (⟨pv,pt,pg,ps,pw,pd,py,pm⟩ : Rw) n with
 | false =>
  rw [e1] at hR1
  have HZ : Hid (folB (⟨pv,pt,pg,ps,pw,pd,py,pm⟩ : Rw) (⟨qv,qt,qg,qs,qw,qd,qy,qm⟩ : Rw) n = false) := fol_1 e1
  go_enter Try.func32,Try.ntmps32
  go_wp2_with (first | (go_at_call 36;refine hR1.mono ?_;rintro e w1 ⟨rfl,hb1⟩;clear c0 c1 c2 c3 c4 c5 c6 c7 d0 d1 d2 d3 d4 d5 d6 d7;obtain ⟨⟨c0,c1,c2,c3⟩,c4,c5,c6,c7⟩ := Bx.r8 (HX.out w1 hb1).1;obtain ⟨⟨d0,d1,d2,d3⟩,d4,d5,d6,d7⟩ := Bx.r8 (HX.out w1 hb1).2;have hR2 := hR2f w1 hb1))
  go_ret
  exact ⟨ret_bool (by rw [HZ.out]),HBW.out _ hb1⟩
 | true =>
 rw [e1] at hR1
 have E1 : Hid (okRw (⟨pv,pt,pg,ps,pw,pd,py,pm⟩ : Rw) n = true) := e1
 clear e1
 cases e2 : okRw (⟨qv,qt,qg,qs,qw,qd,qy,qm⟩ : Rw) n with
 | false =>
  rw [e2] at hR2f
  have HZ : Hid (folB (⟨pv,pt,pg,ps,pw,pd,py,pm⟩ : Rw) (⟨qv,qt,qg,qs,qw,qd,qy,qm⟩ : Rw) n = false) := fol_2 e2
  go_enter Try.func32,Try.ntmps32
  go_wp2_with (first | (go_at_call 36;refine hR2.mono ?_;rintro e w2 ⟨rfl,hb2⟩;have hB2 : Below W.heap.size W w2 := hb1.trans (hb2.mono hb1.size);clear c0 c1 c2 c3 c4 c5 c6 c7 d0 d1 d2 d3 d4 d5 d6 d7;obtain ⟨⟨c0,c1,c2,c3⟩,c4,c5,c6,c7⟩ := Bx.r8 (HX.out w2 hB2).1;obtain ⟨⟨d0,d1,d2,d3⟩,d4,d5,d6,d7⟩ := Bx.r8 (HX.out w2 hB2).2;have hU := hUf w2 hB2) | (go_at_call 36;refine hR1.mono ?_;rintro e w1 ⟨rfl,hb1⟩;clear c0 c1 c2 c3 c4 c5 c6 c7 d0 d1 d2 d3 d4 d5 d6 d7;obtain ⟨⟨c0,c1,c2,c3⟩,c4,c5,c6,c7⟩ := Bx.r8 (HX.out w1 hb1).1;obtain ⟨⟨d0,d1,d2,d3⟩,d4,d5,d6,d7⟩ := Bx.r8 (HX.out w1 hb1).2;have hR2 := hR2f w1 hb1))
  go_ret
  exact ⟨ret_bool (by rw [HZ.out]),HBW.out _ hB2⟩
 | true =>
 rw [e2] at hR2f
 have E2 : Hid (okRw (⟨qv,qt,qg,qs,qw,qd,qy,qm⟩ : Rw) n = true) := e2
 clear e2
 by_cases h3 : pv ≤ qv
 rotate_left
 ·have g3 : qv < pv := by omega
  have HZ : Hid (folB (⟨pv,pt,pg,ps,pw,pd,py,pm⟩ : Rw) (⟨qv,qt,qg,qs,qw,qd,qy,qm⟩ : Rw) n = false) := fol_3 (r := ⟨pv,pt,pg,ps,pw,pd,py,pm⟩) (s := ⟨qv,qt,qg,qs,qw,qd,qy,qm⟩) h3
  go_enter Try.func32,Try.ntmps32
  go_wp2_with (first | (go_at_call 36;refine hR2.mono ?_;rintro e w2 ⟨rfl,hb2⟩;have hB2 : Below W.heap.size W w2 := hb1.trans (hb2.mono hb1.size);clear c0 c1 c2 c3 c4 c5 c6 c7 d0 d1 d2 d3 d4 d5 d6 d7;obtain ⟨⟨c0,c1,c2,c3⟩,c4,c5,c6,c7⟩ := Bx.r8 (HX.out w2 hB2).1;obtain ⟨⟨d0,d1,d2,d3⟩,d4,d5,d6,d7⟩ := Bx.r8 (HX.out w2 hB2).2;have hU := hUf w2 hB2) | (go_at_call 36;refine hR1.mono ?_;rintro e w1 ⟨rfl,hb1⟩;clear c0 c1 c2 c3 c4 c5 c6 c7 d0 d1 d2 d3 d4 d5 d6 d7;obtain ⟨⟨c0,c1,c2,c3⟩,c4,c5,c6,c7⟩ := Bx.r8 (HX.out w1 hb1).1;obtain ⟨⟨d0,d1,d2,d3⟩,d4,d5,d6,d7⟩ := Bx.r8 (HX.out w1 hb1).2;have hR2 := hR2f w1 hb1))
  go_ret
  exact ⟨ret_bool (by rw [HZ.out]),HBW.out _ hB2⟩
 have g3 : ¬ (qv < pv) := by omega
 by_cases h4 : pt.length ≤ qt.length
 rotate_left
 ·have g4 : (qt.length : Int) < (pt.length : Int) := by omega
  have HZ : Hid (folB (⟨pv,pt,pg,ps,pw,pd,py,pm⟩ : Rw) (⟨qv,qt,qg,qs,qw,qd,qy,qm⟩ : Rw) n = false) := fol_4 (r := ⟨pv,pt,pg,ps,pw,pd,py,pm⟩) (s := ⟨qv,qt,qg,qs,qw,qd,qy,qm⟩) h4
  go_enter Try.func32,Try.ntmps32
  go_wp2_with (first | (go_at_call 36;refine hR2.mono ?_;rintro e w2 ⟨rfl,hb2⟩;have hB2 : Below W.heap.size W w2 := hb1.trans (hb2.mono hb1.size);clear c0 c1 c2 c3 c4 c5 c6 c7 d0 d1 d2 d3 d4 d5 d6 d7;obtain ⟨⟨c0,c1,c2,c3⟩,c4,c5,c6,c7⟩ := Bx.r8 (HX.out w2 hB2).1;obtain ⟨⟨d0,d1,d2,d3⟩,d4,d5,d6,d7⟩ := Bx.r8 (HX.out w2 hB2).2;have hU := hUf w2 hB2) | (go_at_call 36;refine hR1.mono ?_;rintro e w1 ⟨rfl,hb1⟩;clear c0 c1 c2 c3 c4 c5 c6 c7 d0 d1 d2 d3 d4 d5 d6 d7;obtain ⟨⟨c0,c1,c2,c3⟩,c4,c5,c6,c7⟩ := Bx.r8 (HX.out w1 hb1).1;obtain ⟨⟨d0,d1,d2,d3⟩,d4,d5,d6,d7⟩ := Bx.r8 (HX.out w1 hb1).2;have hR2 := hR2f w1 hb1))
  go_ret
  exact ⟨ret_bool (by rw [HZ.out]),HBW.out _ hB2⟩
 have g4 : ¬ ((qt.length : Int) < (pt.length : Int)) := by omega
 cases e5 : underB pg qg with
 | false =>
  rw [e5] at hUf
  have HZ : Hid (folB (⟨pv,pt,pg,ps,pw,pd,py,pm⟩ : Rw) (⟨qv,qt,qg,qs,qw,qd,qy,qm⟩ : Rw) n = false) := fol_5 (r := ⟨pv,pt,pg,ps,pw,pd,py,pm⟩) (s := ⟨qv,qt,qg,qs,qw,qd,qy,qm⟩) e5
  go_enter Try.func32,Try.ntmps32
  go_wp2_with (first | (go_at_call 36;refine hR2.mono ?_;rintro e w2 ⟨rfl,hb2⟩;have hB2 : Below W.heap.size W w2 := hb1.trans (hb2.mono hb1.size);clear c0 c1 c2 c3 c4 c5 c6 c7 d0 d1 d2 d3 d4 d5 d6 d7;obtain ⟨⟨c0,c1,c2,c3⟩,c4,c5,c6,c7⟩ := Bx.r8 (HX.out w2 hB2).1;obtain ⟨⟨d0,d1,d2,d3⟩,d4,d5,d6,d7⟩ := Bx.r8 (HX.out w2 hB2).2;have hU := hUf w2 hB2) | (go_at_call 36;refine hR1.mono ?_;rintro e w1 ⟨rfl,hb1⟩;clear c0 c1 c2 c3 c4 c5 c6 c7 d0 d1 d2 d3 d4 d5 d6 d7;obtain ⟨⟨c0,c1,c2,c3⟩,c4,c5,c6,c7⟩ := Bx.r8 (HX.out w1 hb1).1;obtain ⟨⟨d0,d1,d2,d3⟩,d4,d5,d6,d7⟩ := Bx.r8 (HX.out w1 hb1).2;have hR2 := hR2f w1 hb1) | (go_at_call 19;refine hU.mono ?_;rintro e w3 ⟨rfl,q3,hw3⟩;have hB3 : Below W.heap.size W w3 := (by rw [hw3];exact belowN hB2);clear hw3;clear c0 c1 c2 c3 c4 c5 c6 c7 d0 d1 d2 d3 d4 d5 d6 d7;obtain ⟨⟨c0,c1,c2,c3⟩,c4,c5,c6,c7⟩ := Bx.r8 (HX.out w3 hB3).1;obtain ⟨⟨d0,d1,d2,d3⟩,d4,d5,d6,d7⟩ := Bx.r8 (HX.out w3 hB3).2;have hA := hAf w3 hB3))
  go_ret
  exact ⟨ret_bool (by rw [HZ.out]),HBW.out _ hB3⟩
 | true =>
 rw [e5] at hUf
 have E5 : Hid (underB pg qg = true) := e5
 clear e5
 cases e6 : ps.all (fun x => decide (x ∈ qs)) with
 | false =>
  rw [e6] at hAf
  have HZ : Hid (folB (⟨pv,pt,pg,ps,pw,pd,py,pm⟩ : Rw) (⟨qv,qt,qg,qs,qw,qd,qy,qm⟩ : Rw) n = false) := fol_6 (r := ⟨pv,pt,pg,ps,pw,pd,py,pm⟩) (s := ⟨qv,qt,qg,qs,qw,qd,qy,qm⟩) e6
  go_enter Try.func32,Try.ntmps32
  go_wp2_with (first | (go_at_call 36;refine hR2.mono ?_;rintro e w2 ⟨rfl,hb2⟩;have hB2 : Below W.heap.size W w2 := hb1.trans (hb2.mono hb1.size);clear c0 c1 c2 c3 c4 c5 c6 c7 d0 d1 d2 d3 d4 d5 d6 d7;obtain ⟨⟨c0,c1,c2,c3⟩,c4,c5,c6,c7⟩ := Bx.r8 (HX.out w2 hB2).1;obtain ⟨⟨d0,d1,d2,d3⟩,d4,d5,d6,d7⟩ := Bx.r8 (HX.out w2 hB2).2;have hU := hUf w2 hB2) | (go_at_call 36;refine hR1.mono ?_;rintro e w1 ⟨rfl,hb1⟩;clear c0 c1 c2 c3 c4 c5 c6 c7 d0 d1 d2 d3 d4 d5 d6 d7;obtain ⟨⟨c0,c1,c2,c3⟩,c4,c5,c6,c7⟩ := Bx.r8 (HX.out w1 hb1).1;obtain ⟨⟨d0,d1,d2,d3⟩,d4,d5,d6,d7⟩ := Bx.r8 (HX.out w1 hb1).2;have hR2 := hR2f w1 hb1) | (go_at_call 19;refine hU.mono ?_;rintro e w3 ⟨rfl,q3,hw3⟩;have hB3 : Below W.heap.size W w3 := (by rw [hw3];exact belowN hB2);clear hw3;clear c0 c1 c2 c3 c4 c5 c6 c7 d0 d1 d2 d3 d4 d5 d6 d7;obtain ⟨⟨c0,c1,c2,c3⟩,c4,c5,c6,c7⟩ := Bx.r8 (HX.out w3 hB3).1;obtain ⟨⟨d0,d1,d2,d3⟩,d4,d5,d6,d7⟩ := Bx.r8 (HX.out w3 hB3).2;have hA := hAf w3 hB3) | (go_at_call 80;refine hA.mono ?_;rintro e w' ⟨rfl,hw'⟩;rw [hw'];clear hw'))
  go_ret
  exact ⟨ret_bool (by rw [HZ.out]),HBW.out _ hB3⟩
 | true =>
 rw [e6] at hAf
 have E6 : Hid (ps.all (fun x => decide (x ∈ qs)) = true) := e6
 clear e6
 go_enter Try.func32,Try.ntmps32
 go_wp2_with (first | (go_at_call 36;refine hR2.mono ?_;rintro e w2 ⟨rfl,hb2⟩;have hB2 : Below W.heap.size W w2 := hb1.trans (hb2.mono hb1.size);clear c0 c1 c2 c3 c4 c5 c6 c7 d0 d1 d2 d3 d4 d5 d6 d7;obtain ⟨⟨c0,c1,c2,c3⟩,c4,c5,c6,c7⟩ := Bx.r8 (HX.out w2 hB2).1;obtain ⟨⟨d0,d1,d2,d3⟩,d4,d5,d6,d7⟩ := Bx.r8 (HX.out w2 hB2).2;have hU := hUf w2 hB2) | (go_at_call 36;refine hR1.mono ?_;rintro e w1 ⟨rfl,hb1⟩;clear c0 c1 c2 c3 c4 c5 c6 c7 d0 d1 d2 d3 d4 d5 d6 d7;obtain ⟨⟨c0,c1,c2,c3⟩,c4,c5,c6,c7⟩ := Bx.r8 (HX.out w1 hb1).1;obtain ⟨⟨d0,d1,d2,d3⟩,d4,d5,d6,d7⟩ := Bx.r8 (HX.out w1 hb1).2;have hR2 := hR2f w1 hb1) | (go_at_call 19;refine hU.mono ?_;rintro e w3 ⟨rfl,q3,hw3⟩;have hB3 : Below W.heap.size W w3 := (by rw [hw3];exact belowN hB2);clear hw3;clear c0 c1 c2 c3 c4 c5 c6 c7 d0 d1 d2 d3 d4 d5 d6 d7;obtain ⟨⟨c0,c1,c2,c3⟩,c4,c5,c6,c7⟩ := Bx.r8 (HX.out w3 hB3).1;obtain ⟨⟨d0,d1,d2,d3⟩,d4,d5,d6,d7⟩ := Bx.r8 (HX.out w3 hB3).2;have hA := hAf w3 hB3) | (go_at_call 80;refine hA.mono ?_;rintro e w' ⟨rfl,hw'⟩;rw [hw'];clear hw'))
 clear hR1 hR2 hR2f hU hUf hA hAf
 have HB3 : Hid (Below W.heap.size W w3) := hB3
 clear hB3 hB2 hb1 hb2 B0
 have HTP : Hid (TxS w3 pA pt) := (HP.out w3 HB3.out).txt
 have HTQ : Hid (TxS w3 qA qt) := (HQ.out w3 HB3.out).txt
 have HW : Hid (Below w.heap.size w w3) := HBW.out w3 HB3.out
 have HL : Hid (pt.length ≤ qt.length) := h4
 have HV3 : Hid (pv ≤ qv) := h3
 clear HP HQ HX HBW HB3 hW g3 g4 h3 h4
 go_loopw [7] (fun i wr => ∃ k q : Nat,k ≤ pt.length ∧ i = .int .i64 k ∧ wr = w3.drewN q ∧ ∀ j,j < k → pt.getD j [] = qt.getD j []) (fun i _ => pt.length - (intOf i).toNat)
 case atStart => exact ⟨0,0,Nat.zero_le _,rfl,rfl,fun j hj => by omega⟩
 case round =>
  obtain ⟨k,q,hk,rfl,rfl,hall⟩ := hrel
  have HA : Hid (∀ j,j < k → pt.getD j [] = qt.getD j []) := hall
  clear hall
  by_cases hlt : k < pt.length
  ·have hlq : k < qt.length := Nat.lt_of_lt_of_le hlt HL.out
   rcases HTP.out with h0 | ⟨b,off,rfl,hc⟩
   ·omega
   rcases HTQ.out with h0 | ⟨b2,off2,rfl,hc2⟩
   ·omega
   have hck := hc k hlt
   have hck2 := hc2 k hlq
   have k1 : (k : Int) < (pt.length : Int) := by omega
   have k2 : (k : Int) < (qt.length : Int) := by omega
   have k0 : (0 : Int) ≤ (k : Int) := by omega
   clear hc hc2
   by_cases he : pt.getD k [] = qt.getD k []
   ·have HN : Hid (∀ j,j < k + 1 → pt.getD j [] = qt.getD j []) := fun j hj => by
     rcases Nat.lt_succ_iff_lt_or_eq.1 hj with h1 | h1
     ·exact HA.out j h1
     ·rw [h1];exact he
    rw [← he] at hck2
    generalize pt.getD k [] = t at *
    have ns : ((sv t).toList == (sv t).toList) = true := by simp
    clear he
    go_wp2_with fail
    go_quiet (fail)
    go_wp2
    go_roundw
    case rel => exact ⟨k + 1,_,by omega,by go_num,rfl,HN.out⟩
    case measure => simp [intOf];omega
   ·have HZ : Hid (folB (⟨pv,pt,pg,ps,pw,pd,py,pm⟩ : Rw) (⟨qv,qt,qg,qs,qw,qd,qy,qm⟩ : Rw) n = false) := fol_7 (r := ⟨pv,pt,pg,ps,pw,pd,py,pm⟩) (s := ⟨qv,qt,qg,qs,qw,qd,qy,qm⟩) hlt HL.out he
    have ns : ((sv (pt.getD k [])).toList == (sv (qt.getD k [])).toList) = false := by rw [sv_list,sv_list];simpa using he
    generalize pt.getD k [] = t at *
    generalize qt.getD k [] = t2 at *
    clear he
    go_wp2_with fail
    go_quiet (fail)
    go_wp2
    go_ret
    exact ⟨ret_bool (by rw [HZ.out]),belowN (belowN HW.out)⟩
  ·have k1 : ¬ ((k : Int) < (pt.length : Int)) := by omega
   have HE : Hid (folB (⟨pv,pt,pg,ps,pw,pd,py,pm⟩ : Rw) (⟨qv,qt,qg,qs,qw,qd,qy,qm⟩ : Rw) n = endF (⟨pv,pt,pg,ps,pw,pd,py,pm⟩ : Rw) (⟨qv,qt,qg,qs,qw,qd,qy,qm⟩ : Rw)) := fol_end E1.out E2.out HV3.out HL.out E5.out E6.out (fun j hj => HA.out j (by simp only at hj;omega))
   clear HA HTP HTQ
   cases pw <;> cases qw <;> cases pd <;> cases qd
   all_goals
    by_cases h9 : py ≤ qy
    ·have HD : Hid (decide (py ≤ qy) = true) := decide_eq_true h9
     go_wp2
     go_ret
     refine ⟨ret_bool ?_,belowN HW.out⟩
     rw [HE.out,endF]
     simp [HD.out]
    ·have HD : Hid (decide (py ≤ qy) = false) := decide_eq_false h9
     go_wp2
     go_ret
     refine ⟨ret_bool ?_,belowN HW.out⟩
     rw [HE.out,endF]
     simp [HD.out]
end Go.Proofs.Ytlnmdfgcpfbleaa
namespace Go.Proofs.Ytlnmdfgcpfbleaa
set_option linter.unusedVariables false
set_option linter.unusedSimpArgs false
open Go.RowKit Go.Sort
end Go.Proofs.Ytlnmdfgcpfbleaa
namespace Go.Proofs.Ytlnmdfgcpfbleaa
set_option linter.unusedVariables false
set_option linter.unusedSimpArgs false
open Go.RowKit Go.Sort
def Rw64 (r : Rw) : Prop := I64v r.ver ∧ I64v r.by_
structure RwP (w : World) (A : Ra) (r : Rw) : Prop where
 txt : TxP w A.ta A.tc r.txt
 got : VcP w A.ga A.gc r.got
 sus : VcP w A.sa A.sc r.sus
 trm : VcP w A.ma A.mc r.trm
 i64 : Rw64 r
 sz : szRw r ≤ 1048576
theorem RwP.below {w w' : World} {A : Ra} {r : Rw} (h : RwP w A r) (hb : Below w.heap.size w w') : RwP w' A r := ⟨h.txt.below hb,h.got.below hb,h.sus.below hb,h.trm.below hb,h.i64,h.sz⟩
theorem RwP.rws {w : World} {A : Ra} {r : Rw} (h : RwP w A r) : RwS w A r := by
 have hs := h.sz
 unfold szRw at hs
 exact ⟨h.txt.txs,h.got.vec,h.sus.vec,h.trm.vec,by unfold maxLen;omega,by unfold maxLen;omega,by unfold maxLen;omega,by unfold maxLen;omega⟩
def FitR (r : Rw) : Prop := Fits r.got ∧ Fits r.sus ∧ Fits r.trm
theorem it_parts {w : World} {A : Ra} {r : Rw} {lo hi : Nat} (h : It w (rwCels r) (rwVals A r) lo hi) : ∃ f1 f2 f3 f4,Cel.ow w (scl r.txt) (.slice A.ta r.txt.length A.tc) f1 ∧ Cel.ow w (icl r.got) (.slice A.ga r.got.length A.gc) f2 ∧ Cel.ow w (icl r.sus) (.slice A.sa r.sus.length A.sc) f3 ∧ Cel.ow w (icl r.trm) (.slice A.ma r.trm.length A.mc) f4 := by
 obtain ⟨f,h1,_⟩ := h
 obtain ⟨u1,us1,f1,g1,e1,o1,h2,_⟩ := h1
 cases e1
 obtain ⟨u2,us2,f2,g2,e2,o2,h3,_⟩ := h2
 cases e2
 obtain ⟨u3,us3,f3,g3,e3,o3,h4,_⟩ := h3
 cases e3
 obtain ⟨u4,us4,f4,g4,e4,o4,h5,_⟩ := h4
 cases e4
 exact ⟨f1,f2,f3,f4,o1,o2,o3,o4⟩
theorem it_rwp {w : World} {A : Ra} {r : Rw} {lo hi : Nat} (h : It w (rwCels r) (rwVals A r) lo hi) (hf : FitR r) (h6 : Rw64 r) (hs : szRw r ≤ 1048576) : RwP w A r := by
 obtain ⟨f1,f2,f3,f4,o1,o2,o3,o4⟩ := it_parts h
 exact ⟨ow_txp o1,ow_vcp o2 hf.1,ow_vcp o3 hf.2.1,ow_vcp o4 hf.2.2,h6,hs⟩
theorem it_rws {w : World} {A : Ra} {r : Rw} {lo hi : Nat} (h : It w (rwCels r) (rwVals A r) lo hi) (hf : FitR r) (hs : szRw r ≤ 1048576) : RwS w A r := by
 obtain ⟨f1,f2,f3,f4,o1,o2,o3,o4⟩ := it_parts h
 unfold szRw at hs
 exact ⟨(ow_txp o1).txs,(ow_vcp o2 hf.1).vec,(ow_vcp o3 hf.2.1).vec,(ow_vcp o4 hf.2.2).vec,by unfold maxLen;omega,by unfold maxLen;omega,by unfold maxLen;omega,by unfold maxLen;omega⟩
def ImplRowOk : Prop := ∀ (A : Ra) (r : Rw) (n : Int) (w : World),RwP w A r → I64v n → Calls Try.prog 35 #[rwV A r,.int .i64 n] w fun e w' => e = .returned (.bool (okRw r n)) ∧ Below w.heap.size w w'
def ImplFollows : Prop := ∀ (A B : Ra) (r s : Rw) (n : Int) (w : World),RwP w A r → RwP w B s → I64v n → Calls Try.prog 28 #[rwV A r,rwV B s,.int .i64 n] w fun e w' => e = .returned (.bool (folB r s n)) ∧ Below w.heap.size w w'
def ImplLater : Prop := ∀ (A B : Ra) (r s : Rw) (w : World),RwP w A r → RwP w B s → Calls Try.prog 33 #[rwV A r,rwV B s] w fun e w' => e = .returned (.bool (decide (s.ver < r.ver))) ∧ Below w.heap.size w w'
def ImplNewRow : Prop := ∀ (n : Int) (w : World),I64v n → Calls Try.prog 38 #[.int .i64 n] w fun e w' => AnsRw w w' e (newRw n)
theorem newRw_small (n : Int) : FitR (newRw n) ∧ Rw64 (newRw n) ∧ szRw (newRw n) ≤ 5 ∧ cntRw (newRw n) ≤ 5 := by
 unfold newRw
 split
 ·rename_i h
  have := inB7.1 h
  refine ⟨⟨fun x hx => ?_,fun x hx => absurd hx List.not_mem_nil,fun x hx => absurd hx List.not_mem_nil⟩,⟨⟨by simp,by simp⟩,by simp,by simp⟩,by simp [szRw,totS];omega,by simp [cntRw];omega⟩
  have := List.eq_of_mem_replicate hx
  omega
 ·exact ⟨⟨fun x hx => absurd hx List.not_mem_nil,fun x hx => absurd hx List.not_mem_nil,fun x hx => absurd hx List.not_mem_nil⟩,⟨⟨by simp [zeroRw],by simp [zeroRw]⟩,by simp [zeroRw],by simp [zeroRw]⟩,by simp [szRw,totS,zeroRw],by simp [cntRw,zeroRw]⟩
theorem AnsRw.it {w w' : World} {e : Ending} {r : Rw} (h : AnsRw w w' e r) : ∃ A,e = .returned (rwV A r) ∧ It w' (rwCels r) (rwVals A r) w.heap.size w'.heap.size ∧ Below w.heap.size w w' := by
 obtain ⟨A,h1,h2⟩ := h
 exact ⟨A,h1,It.of_new h2,by obtain ⟨_,_,_,h3⟩ := h2;exact h3⟩
end Go.Proofs.Ytlnmdfgcpfbleaa