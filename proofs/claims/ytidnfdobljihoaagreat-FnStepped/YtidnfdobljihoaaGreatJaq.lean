/-
  Texts in one: Nmq Noa Nob Noc Nod Noe.
-/
import Derived.Test.YtidnfdobljihoaaGreatJao
import Derived.Test.YtidnfdobljihoaaGreatJap
import Derived.Test.YtidnfdobljihoaaGreatJan
import Derived.Test.YtidnfdobljihoaaGreatJak
import Derived.Test.YtidnfdobljihoaaGreatJae
import Derived.Test.YtidnfdobljihoaaGreatJag
import Derived.Test.YtidnfdobljihoaaGreatJaj
namespace Go.Proofs.YtidnfdobljihoaaGreat
set_option linter.unusedVariables false
set_option linter.unusedSimpArgs false
open Go.RowKit Go.Sort
theorem snd_nat {n q : Nat} (hn : 1 ≤ n ∧ n ≤ 5) (hq : q ≤ 60) : sndL (n : Int) (q : Int) = ((q % n : Nat) : Int) ∧ idxL (n : Int) (q : Int) = ((q / n : Nat) : Int) := by
 have ht : tellB (n : Int) (q : Int) = true := tellB_iff.2 (by omega)
 unfold sndL idxL
 rw [ht]
 exact ⟨by simp,by simp⟩
attribute [local irreducible] sv
set_option maxRecDepth 100000 in
set_option maxHeartbeats 1600000 in
theorem txo_any (A : Ma) (m : Mb) (i n q : Nat) (w : World) (hv : MbP w A m) (ok : OkM m i n) (hq : q ≤ 60) :
  Calls Tryz.prog 46 #[mbV A m,.int .i64 (q : Int)] w fun e w' => ((hadB m.rows n (q : Int) = true ∧ e = .returned (.string (sv (txtOf m.rows n (q : Int))))) ∨ (hadB m.rows n (q : Int) = false ∧ Gu e)) ∧ Below w.heap.size w w' := by
 have hmix := mixed17
 have hba := oneA16 w (.cells #[.int .i64 m.id,.int .i64 m.n,.slice A.ra m.rows.length A.rc,.slice A.sa m.sung.length A.sc,.bool m.done] 27)
 have hx := Bx.new w 27 #[.int .i64 m.id,.int .i64 m.n,.slice A.ra m.rows.length A.rc,.slice A.sa m.sung.length A.sc,.bool m.done]
 have hv1 := hv.below hba
 unfold mbV mbC
 generalize hWW : w.alloc (.cells #[.int .i64 m.id,.int .i64 m.n,.slice A.ra m.rows.length A.rc,.slice A.sa m.sung.length A.sc,.bool m.done] 27) = W1 at *
 have hw0 : w.alloc (.cells #[.int .i64 m.id,.int .i64 m.n,.slice A.ra m.rows.length A.rc,.slice A.sa m.sung.length A.sc,.bool m.done] 27) = W1 := hWW
 have HB : Hid (Below w.heap.size w W1) := hba
 have hn5 := ok.n5
 obtain ⟨k,hk⟩ : ∃ k,k = q % n := ⟨_,rfl⟩
 have hkn : k < n := by rw [hk];exact Nat.mod_lt _ (by omega)
 have hkl : k < m.rows.length := by rw [ok.len];exact hkn
 obtain ⟨d,hd⟩ : ∃ d,d = q / n := ⟨_,rfl⟩
 have hdq : d ≤ 60 := by rw [hd];exact Nat.le_trans (Nat.div_le_self _ _) hq
 obtain ⟨e1,e2⟩ := snd_nat hn5 hq
 have hS : ∀ qq : Bk W1,Calls Tryz.prog 104 #[.int .i64 (n : Int),.int .i64 (q : Int)] qq.w fun e w' => e = .returned (.int .i64 (k : Int)) ∧ Below qq.w.heap.size qq.w w' := fun qq => (sndI_any (n : Int) (q : Int) qq.w).mono (fun e w' h => ⟨by rw [h.1,e1,hk],by rw [h.2];exact Below.refl _ _⟩)
 have hI : ∀ qq : Bk W1,Calls Tryz.prog 105 #[.int .i64 (n : Int),.int .i64 (q : Int)] qq.w fun e w' => e = .returned (.int .i64 (d : Int)) ∧ Below qq.w.heap.size qq.w w' := fun qq => (idxI_any (n : Int) (q : Int) qq.w).mono (fun e w' h => ⟨by rw [h.1,e2,hd],by rw [h.2];exact Below.refl _ _⟩)
 have HH : Hid (hadB m.rows n (q : Int) = decide (d < (rowN m.rows k).txt.length)) := by rw [Hid,hadB,hk,hd];rfl
 have HX : Hid (txtOf m.rows n (q : Int) = (rowN m.rows k).txt.getD d []) := by rw [Hid,txtOf,hk,hd];rfl
 obtain ⟨g,off,Ak,hra,⟨⟨d0,d1,d2,d3⟩,d4,d5,d6,d7⟩,hrp⟩ := hv1.row hkl
 have hr := ok.ok k hkn
 have HTx : Hid (∀ X,Below W1.heap.size W1 X → TxS X Ak.ta (rowN m.rows k).txt) := fun X hX => (hrp.below hX).txt.txs
 have HTl : Hid (∀ j,j < (rowN m.rows k).txt.length → ((rowN m.rows k).txt.getD j []).length ≤ 1048576) := fun j hj => Nat.le_trans (hr.ts _ (by rw [List.getD_eq_getElem?_getD,List.getElem?_eq_getElem hj];exact List.getElem_mem hj)) (by decide)
 have htl := hr.tl
 obtain ⟨c0,c1,c2,c3,c4⟩ := Bx.r5 hx
 rw [hra] at c2
 rw [ok.hn] at c1
 have T : ∀ {x v},W1.cell? x = some v → ∀ q : Bk W1,q.w.cell? x = some v := fun h q => (q.h.cell (World.block_lt_of_cell? _ _ h)).trans h
 have y1 := T c1
 have y2 := T c2
 have z1 := T d1
 have k0 : (0 : Int) ≤ (k : Int) := by omega
 have k1 : (k : Int) < (m.rows.length : Int) := by omega
 clear hra hv hba hx hv1 hWW e1 e2 c0 c1 c2 c3 c4 d0 d1 d2 d3 d4 d5 d6 d7 hrp T hk hd hr
 generalize rowN m.rows k = r at *
 have HRR : Hid (True) := trivial
 go_enter Tryz.func46,Tryz.ntmps46
 go_wp2_with fail
 clear hw0
 refine wp_region_bk (by kernel_rfl) (by kernel_rfl) ?_
 repeat (go_big_quiet_step ((first | (go_at_call 104;exact bk_call _ (hS _)) | (go_at_call 105;exact bk_call _ (hI _)) | rfl)))
 refine wpQuiet_nil ?_
 intro wE hw'
 obtain ⟨⟨w11,hb11⟩,hw''⟩ := hw'
 have hwe : wE = w11 := hw''
 clear hw''
 subst hwe
 have HB1 : Hid (Below w.heap.size w wE) := HB.out.trans (hb11.mono HB.out.size)
 have hTx := HTx.out wE hb11
 clear hS hI y1 y2 z1 hb11 HTx
 by_cases hlt : d < r.txt.length
 ·have HZ : Hid (hadB m.rows n (q : Int) = true) := by rw [Hid,HH.out,decide_eq_true hlt]
  rcases hTx with h0 | ⟨tb,tq,hta,htc⟩
  ·omega
  have hck := htc d hlt
  have l1 : (d : Int) < (r.txt.length : Int) := by omega
  have l0 : (0 : Int) ≤ (d : Int) := by omega
  have hC := clone_any (r.txt.getD d []) wE (HTl.out d hlt)
  clear htc
  rw [hta]
  have HX2 : Hid (txtOf m.rows n (q : Int) = r.txt.getD d []) := HX.out
  generalize r.txt.getD d [] = t at *
  go_wp2_with (first | (go_at_call 80;refine (wantT _).mono ?_;rintro e w' ⟨rfl,hw'⟩;rw [hw'];clear hw') | (go_at_call 106;refine hC.mono ?_;rintro e w2 ⟨rfl,hb2⟩;have HB2 : Hid (Below w.heap.size w w2) := HB1.out.trans (hb2.mono HB1.out.size);clear hb2))
  go_ret
  exact ⟨.inl ⟨HZ.out,by rw [HX2.out];rfl⟩,HB2.out⟩
 ·have HZ : Hid (hadB m.rows n (q : Int) = false) := by rw [Hid,HH.out,decide_eq_false hlt]
  have l1 : ¬ ((d : Int) < (r.txt.length : Int)) := by omega
  go_wp2_with (go_at_call 80;refine (wantF _).mono ?_;rintro e w' ⟨⟨T,v,rfl⟩,hw'⟩;rw [hw'];clear hw')
  exact ⟨rfl,.inr ⟨HZ.out,_,_,rfl⟩,HB1.out⟩
def VoR (m : Mb) (w0 : World) (b1 b2 : Nat) (e : Ending) (w' : World) : Prop := (okMb m = true ∧ m.sung.all (hadB m.rows m.k) = true ∧ e = .returned (.tuple #[]) ∧ ∃ a c f,w'.cell? ⟨b1,0,none⟩ = some (.slice a (m.sung.map (txtOf m.rows m.k)).length c) ∧ Cel.ow w' (scl (m.sung.map (txtOf m.rows m.k))) (.slice a (m.sung.map (txtOf m.rows m.k)).length c) f ∧ ∀ b,f b → w0.heap.size ≤ b ∧ b ≠ b1 ∧ b ≠ b2) ∨ (¬ (okMb m = true ∧ m.sung.all (hadB m.rows m.k) = true) ∧ Gu e)
set_option maxRecDepth 100000 in
set_option maxHeartbeats 1600000 in
theorem voi1_any (A : Ma) (m : Mb) (b0 b1 b2 : Nat) (a0 : Option Addr) (c0 : Nat) (f0 : Fp) (w0 X : World) (hv : MbP w0 A m) (hX : Below w0.heap.size w0 X) (h0 : Bx X b0 27 #[.int .i64 m.id,.int .i64 m.n,.slice A.ra m.rows.length A.rc,.slice A.sa m.sung.length A.sc,.bool m.done]) (h1 : Bx X b1 32 #[.slice a0 0 c0]) (hO : Cel.ow X (scl []) (.slice a0 0 c0) f0) (hf : ∀ b,f0 b → w0.heap.size ≤ b ∧ b ≠ b1 ∧ b ≠ b2) (hb : w0.heap.size ≤ b1) (hne : b0 ≠ b1) (hf0 : ¬ f0 b0) (h2 : b2 < X.heap.size) :
  Calls Tryz.prog 44 #[.pointer (some ⟨b0,0,none⟩),.pointer (some ⟨b1,0,none⟩)] X fun e w' => VoR m w0 b1 b2 e w' ∧ Wrt (fun x => x = b1 ∨ f0 x) X w' := by
 have hmix := mixed17
 have hCk := chk_any A m X (hv.below hX)
 have HX0 : Hid (Below w0.heap.size w0 X) := hX
 have HV : Hid (MbP w0 A m) := hv
 have H0 : Hid (Bx X b0 27 #[.int .i64 m.id,.int .i64 m.n,.slice A.ra m.rows.length A.rc,.slice A.sa m.sung.length A.sc,.bool m.done]) := h0
 have H1 : Hid (Bx X b1 32 #[.slice a0 0 c0]) := h1
 have HO : Hid (Cel.ow X (scl []) (.slice a0 0 c0) f0) := hO
 obtain ⟨d0,d1,d2,d3,d4⟩ := Bx.r5 h0
 have hb1X := h1.lt
 have hb0X := h0.lt
 unfold mbV mbC at hCk
 clear hv hX h0 h1 hO
 by_cases hok : okMb m = true
 case neg =>
  have HN : Hid (¬ (okMb m = true ∧ m.sung.all (hadB m.rows m.k) = true)) := fun h => hok h.1
  rw [Bool.eq_false_iff.2 hok] at hCk
  clear hok
  go_enter Tryz.func44,Tryz.ntmps44
  go_wp2_with fail
  refine hCk.mono ?_
  rintro e w1 ⟨(⟨h,_⟩ | ⟨_,T,v,rfl⟩),hb1⟩
  ·cases h
  ·exact ⟨rfl,.inr ⟨HN.out,_,_,rfl⟩,Wrt.of_below hb1⟩
 obtain ⟨i,n,ok⟩ := okMb_iff.1 hok
 have HOk : Hid (okMb m = true) := hok
 have HKn : Hid (m.k = n) := ok.k
 rw [hok] at hCk
 have hsl := ok.sl
 clear hok
 go_enter Tryz.func44,Tryz.ntmps44
 go_wp2_with fail
 refine hCk.mono ?_
 rintro e w1 ⟨(⟨_,rfl⟩ | ⟨h,_⟩),hbw⟩
 case inr => cases h
 have HW1 : Hid (Wrt (fun x => x = b1 ∨ f0 x) X w1) := Wrt.of_below hbw
 have HB1 : Hid (Below w0.heap.size w0 w1) := HX0.out.trans (hbw.mono HX0.out.size)
 have HE0 : Hid (Bx w1 b0 27 #[.int .i64 m.id,.int .i64 m.n,.slice A.ra m.rows.length A.rc,.slice A.sa m.sung.length A.sc,.bool m.done]) := H0.out.below hbw
 have HE1 : Hid (Bx w1 b1 32 #[.slice a0 0 c0]) := H1.out.below hbw
 have HEO : Hid (Cel.ow w1 (scl []) (.slice a0 0 c0) f0) := Cel.ow_below HO.out hbw
 have hbs := hbw.size
 clear d0 d1 d2 d3 d4 hCk hbw H0 H1 HO
 obtain ⟨d0,d1,d2,d3,d4⟩ := Bx.r5 HE0.out
 go_wp2_with fail
 clear d0 d1 d2 d3 d4
 go_loopw [9] (fun v wr => ∃ (k : Nat) (a : Option Addr) (c : Nat) (Z : List (List UInt8)) (f : Fp),k ≤ m.sung.length ∧ v = .int .i64 (k : Int) ∧ Hid (Z = (m.sung.take k).map (txtOf m.rows n)) ∧ Hid (∀ j,j < k → hadB m.rows n (el m.sung j) = true) ∧ Bx wr b0 27 #[.int .i64 m.id,.int .i64 m.n,.slice A.ra m.rows.length A.rc,.slice A.sa m.sung.length A.sc,.bool m.done] ∧ Bx wr b1 32 #[.slice a Z.length c] ∧ Cel.ow wr (scl Z) (.slice a Z.length c) f ∧ (∀ b,f b → (w0.heap.size ≤ b ∧ b ≠ b1 ∧ b ≠ b2 ∧ b ≠ b0) ∧ (f0 b ∨ X.heap.size ≤ b)) ∧ Wrt (fun x => x = b1 ∨ f0 x) X wr ∧ Below w0.heap.size w0 wr) (fun v _ => m.sung.length - (intOf v).toNat)
 case atStart => exact ⟨0,a0,c0,[],f0,Nat.zero_le _,rfl,rfl,(fun j hj => absurd hj (Nat.not_lt_zero _)),HE0.out,HE1.out,HEO.out,fun b hb => ⟨⟨(hf b hb).1,(hf b hb).2.1,(hf b hb).2.2,fun e => hf0 (e ▸ hb)⟩,.inl hb⟩,HW1.out,HB1.out⟩
 case round =>
  obtain ⟨k,a,c,Z,f,hk,rfl,hZ,hAll,hx0,hx1,hO,hff,hW,hB⟩ := hrel
  have HY0 : Hid (Bx wr b0 27 #[.int .i64 m.id,.int .i64 m.n,.slice A.ra m.rows.length A.rc,.slice A.sa m.sung.length A.sc,.bool m.done]) := hx0
  have HY1 : Hid (Bx wr b1 32 #[.slice a Z.length c]) := hx1
  have HO : Hid (Cel.ow wr (scl Z) (.slice a Z.length c) f) := hO
  have HW : Hid (Wrt (fun x => x = b1 ∨ f0 x) X wr) := hW
  have HB : Hid (Below w0.heap.size w0 wr) := hB
  clear HW1 HB1 HE0 HE1 HEO
  by_cases hlt : k < m.sung.length
  ·have hvec := (HV.out.below hB).mbs.sung
   rcases hvec.2.2 with h0 | ⟨sb,so,hsa,hsc⟩
   ·omega
   have hck := hsc k hlt
   have hel := ok.elem (el_mem hlt)
   obtain ⟨q,hq⟩ : ∃ q : Nat,el m.sung k = (q : Int) := ⟨(el m.sung k).toNat,by omega⟩
   rw [hq] at hck
   have hT := txo_any A m i n q wr.drew ((HV.out.below hB).below (Same.drewN wr 1).below) ok (by omega)
   have HZ1 : Hid ((m.sung.take (k + 1)).map (txtOf m.rows n) = Z ++ [txtOf m.rows n (q : Int)]) := by
    rw [Hid,hZ.out,← hq]
    exact map_next (by rw [List.getElem?_eq_getElem hlt];simp [el,hlt])
   have HA1 : Hid (hadB m.rows n (q : Int) = true → ∀ j,j < k + 1 → hadB m.rows n (el m.sung j) = true) := fun h j hj => by
    by_cases e : j = k
    ·rw [e,hq];exact h
    ·exact hAll.out j (by omega)
   have HNo : Hid (hadB m.rows n (q : Int) = false → ¬ (okMb m = true ∧ m.sung.all (hadB m.rows m.k) = true)) := fun h hh => by
    have := List.all_eq_true.1 hh.2 _ (el_mem hlt)
    rw [HKn.out,hq,h] at this
    cases this
   have HZl : Hid (Z.length ≤ 1000000) := Nat.le_trans (by rw [hZ.out,List.length_map,List.length_take];omega : Z.length ≤ 100) (by decide)
   have k0 : (0 : Int) ≤ (k : Int) := by omega
   have k1 : (k : Int) < (m.sung.length : Int) := by omega
   have hbd : Below wr.heap.size wr wr.drew := (Same.drewN wr 1).below
   have KS : ∀ X,Below wr.heap.size wr X → X.cell? ⟨b1,0,none⟩ = some (.slice a Z.length c) ∧ X.cell? ⟨b0,0,none⟩ = some (.int .i64 m.id) ∧ X.cell? ⟨b0,1,none⟩ = some (.int .i64 m.n) ∧ X.cell? ⟨b0,2,none⟩ = some (.slice A.ra m.rows.length A.rc) ∧ X.cell? ⟨b0,3,none⟩ = some (.slice (some ⟨sb,so,none⟩) m.sung.length A.sc) ∧ X.cell? ⟨b0,4,none⟩ = some (.bool m.done) := fun X hX => by
    obtain ⟨e0,e1,e2,e3,e4⟩ := Bx.r5 (HY0.out.below hX)
    rw [hsa] at e3
    exact ⟨(HY1.out.below hX).at 0 rfl,e0,e1,e2,e3,e4⟩
   have hl1 := hx1.lt
   have hl0 := hx0.lt
   have hfw := Cel.ow_lt hO
   have hws := hW.size
   unfold mbV mbC at hT
   rw [hsa] at hT ⊢
   have HSA : Hid (A.sa = some ⟨sb,so,none⟩) := hsa
   clear hsa
   clear hvec hsc hx0 hx1 hO hW hB hel hq
   cases hh : hadB m.rows n (q : Int) with
   | false =>
    have HN := HNo.out hh
    have HN2 : Hid (¬ (okMb m = true ∧ m.sung.all (hadB m.rows m.k) = true)) := HN
    rw [hh] at hT
    clear HN hh
    go_wp2_with fail
    refine gt_begin (S := fun X : World => X.cell? ⟨b1,0,none⟩ = some (.slice a Z.length c) ∧ X.cell? ⟨b0,0,none⟩ = some (.int .i64 m.id) ∧ X.cell? ⟨b0,1,none⟩ = some (.int .i64 m.n) ∧ X.cell? ⟨b0,2,none⟩ = some (.slice A.ra m.rows.length A.rc) ∧ X.cell? ⟨b0,3,none⟩ = some (.slice (some ⟨sb,so,none⟩) m.sung.length A.sc) ∧ X.cell? ⟨b0,4,none⟩ = some (.bool m.done)) 6 hmix (by kernel_rfl) ?_
    have hHeld : (fun X : World => X.cell? ⟨b1,0,none⟩ = some (.slice a Z.length c) ∧ X.cell? ⟨b0,0,none⟩ = some (.int .i64 m.id) ∧ X.cell? ⟨b0,1,none⟩ = some (.int .i64 m.n) ∧ X.cell? ⟨b0,2,none⟩ = some (.slice A.ra m.rows.length A.rc) ∧ X.cell? ⟨b0,3,none⟩ = some (.slice (some ⟨sb,so,none⟩) m.sung.length A.sc) ∧ X.cell? ⟨b0,4,none⟩ = some (.bool m.done)) wr.drew := (KS _ hbd)
    refine gt_take (i := 0) (v := ?_) rfl (by kernel_rfl) (by kernel_rfl) (by kernel_rfl) (by kernel_rfl) (fun _ _ _ h => h) (Or.inl ⟨by rfl, ?_⟩) hHeld ?_
    rotate_left
    ·(intro X hSX;(try dsimp only at hSX);obtain ⟨g0,g1,g2,g3,g4,g5⟩ := hSX;go_simp;try with_reducible rfl)
    try simp only [Act.put,List.setIfInBounds_toArray,List.set_cons_zero,List.set_cons_succ]
    refine gt_take (i := 1) (v := ?_) rfl (by kernel_rfl) (by kernel_rfl) (by kernel_rfl) (by kernel_rfl) (fun _ _ _ h => h) (Or.inl ⟨by rfl, ?_⟩) hHeld ?_
    rotate_left
    ·(intro X hSX;(try dsimp only at hSX);obtain ⟨g0,g1,g2,g3,g4,g5⟩ := hSX;go_simp;try with_reducible rfl)
    try simp only [Act.put,List.setIfInBounds_toArray,List.set_cons_zero,List.set_cons_succ]
    refine gt_take (i := 2) (v := ?_) rfl (by kernel_rfl) (by kernel_rfl) (by kernel_rfl) (by kernel_rfl) (fun _ _ _ h => h) (Or.inl ⟨by rfl, ?_⟩) hHeld ?_
    rotate_left
    ·(intro X hSX;(try dsimp only at hSX);obtain ⟨g0,g1,g2,g3,g4,g5⟩ := hSX;go_simp;try with_reducible rfl)
    try simp only [Act.put,List.setIfInBounds_toArray,List.set_cons_zero,List.set_cons_succ]
    refine gt_one (i := 3) rfl (by kernel_rfl) (by kernel_rfl) (fun K hK => ?_)
    go_simp
    go_at_call 46
    refine hT.mono ?_
    rintro e V1 ⟨(⟨h,_⟩ | ⟨_,T,v,rfl⟩),hb2⟩
    ·cases h
    ·exact ⟨rfl,.inr ⟨HN2.out,_,_,rfl⟩,HW.out.trans (Wrt.of_below (hbd.trans (hb2.mono hbd.size))) (fun _ _ h => h)⟩
   | true =>
    have HA2 : Hid (∀ j,j < k + 1 → hadB m.rows n (el m.sung j) = true) := HA1.out hh
    rw [hh] at hT
    clear hh
    generalize txtOf m.rows n (q : Int) = t at *
    go_wp2_with fail
    refine gt_begin (S := fun X : World => X.cell? ⟨b1,0,none⟩ = some (.slice a Z.length c) ∧ X.cell? ⟨b0,0,none⟩ = some (.int .i64 m.id) ∧ X.cell? ⟨b0,1,none⟩ = some (.int .i64 m.n) ∧ X.cell? ⟨b0,2,none⟩ = some (.slice A.ra m.rows.length A.rc) ∧ X.cell? ⟨b0,3,none⟩ = some (.slice (some ⟨sb,so,none⟩) m.sung.length A.sc) ∧ X.cell? ⟨b0,4,none⟩ = some (.bool m.done)) 6 hmix (by kernel_rfl) ?_
    have hHeld : (fun X : World => X.cell? ⟨b1,0,none⟩ = some (.slice a Z.length c) ∧ X.cell? ⟨b0,0,none⟩ = some (.int .i64 m.id) ∧ X.cell? ⟨b0,1,none⟩ = some (.int .i64 m.n) ∧ X.cell? ⟨b0,2,none⟩ = some (.slice A.ra m.rows.length A.rc) ∧ X.cell? ⟨b0,3,none⟩ = some (.slice (some ⟨sb,so,none⟩) m.sung.length A.sc) ∧ X.cell? ⟨b0,4,none⟩ = some (.bool m.done)) wr.drew := (KS _ hbd)
    refine gt_take (i := 0) (v := ?_) rfl (by kernel_rfl) (by kernel_rfl) (by kernel_rfl) (by kernel_rfl) (fun _ _ _ h => h) (Or.inl ⟨by rfl, ?_⟩) hHeld ?_
    rotate_left
    ·(intro X hSX;(try dsimp only at hSX);obtain ⟨g0,g1,g2,g3,g4,g5⟩ := hSX;go_simp;try with_reducible rfl)
    try simp only [Act.put,List.setIfInBounds_toArray,List.set_cons_zero,List.set_cons_succ]
    refine gt_take (i := 1) (v := ?_) rfl (by kernel_rfl) (by kernel_rfl) (by kernel_rfl) (by kernel_rfl) (fun _ _ _ h => h) (Or.inl ⟨by rfl, ?_⟩) hHeld ?_
    rotate_left
    ·(intro X hSX;(try dsimp only at hSX);obtain ⟨g0,g1,g2,g3,g4,g5⟩ := hSX;go_simp;try with_reducible rfl)
    try simp only [Act.put,List.setIfInBounds_toArray,List.set_cons_zero,List.set_cons_succ]
    refine gt_take (i := 2) (v := ?_) rfl (by kernel_rfl) (by kernel_rfl) (by kernel_rfl) (by kernel_rfl) (fun _ _ _ h => h) (Or.inl ⟨by rfl, ?_⟩) hHeld ?_
    rotate_left
    ·(intro X hSX;(try dsimp only at hSX);obtain ⟨g0,g1,g2,g3,g4,g5⟩ := hSX;go_simp;try with_reducible rfl)
    try simp only [Act.put,List.setIfInBounds_toArray,List.set_cons_zero,List.set_cons_succ]
    refine gt_one (i := 3) rfl (by kernel_rfl) (by kernel_rfl) (fun K hK => ?_)
    go_simp
    go_at_call 46
    refine hT.mono ?_
    rintro e V1 ⟨(⟨_,rfl⟩ | ⟨h,_⟩),hb2⟩
    case inr => cases h
    have hbV1 : Below wr.heap.size wr V1 := hbd.trans (hb2.mono hbd.size)
    obtain ⟨ta',tc',et,hA⟩ := ow_txt_app t (Cel.ow_below HO.out hbV1) HZl.out
    cases et
    have hba := oneA16 V1 (.cells #[.string (sv t)] 9)
    refine hK.out _ _ (KS _ hbV1) (fun hHeldN => ?_)
    clear hK hHeld
    have hHeld := hHeldN
    try simp only [Act.put,List.setIfInBounds_toArray,List.set_cons_zero,List.set_cons_succ]
    refine gt_one (i := 4) rfl (by kernel_rfl) (by kernel_rfl) (fun K hK => ?_)
    go_simp
    refine hK.out _ _ (KS _ (hbV1.trans (hba.mono hbV1.size))) (fun hHeldN => ?_)
    clear hK hHeld
    have hHeld := hHeldN
    try simp only [Act.put,List.setIfInBounds_toArray,List.set_cons_zero,List.set_cons_succ]
    refine gt_one (i := 5) rfl (by kernel_rfl) (by kernel_rfl) (fun K hK => ?_)
    refine step_append_of (by rfl) _ _ _ _ (by rfl) (.slice a Z.length c) _ (by rfl) (by rfl) hA ⟨rfl,rfl,rfl,rfl⟩ ?_
    rintro v9 w4 ⟨a9,c9,f9,rfl,o9,p9,q9⟩
    have hs1 := hbV1.size
    have hB0 : Bx w4 b0 27 #[.int .i64 m.id,.int .i64 m.n,.slice A.ra m.rows.length A.rc,.slice A.sa m.sung.length A.sc,.bool m.done] := (HY0.out.below hbV1).wrt q9 (fun kk => (hff _ kk).1.2.2.2 rfl)
    have hB1 : Bx w4 b1 32 #[.slice a Z.length c] := (HY1.out.below hbV1).wrt q9 (fun kk => (hff _ kk).1.2.1 rfl)
    have hk9 : w4.cell? ⟨b1,0,none⟩ = some (.slice a Z.length c) ∧ w4.cell? ⟨b0,0,none⟩ = some (.int .i64 m.id) ∧ w4.cell? ⟨b0,1,none⟩ = some (.int .i64 m.n) ∧ w4.cell? ⟨b0,2,none⟩ = some (.slice A.ra m.rows.length A.rc) ∧ w4.cell? ⟨b0,3,none⟩ = some (.slice (some ⟨sb,so,none⟩) m.sung.length A.sc) ∧ w4.cell? ⟨b0,4,none⟩ = some (.bool m.done) := by
     obtain ⟨e0,e1,e2,e3,e4⟩ := Bx.r5 hB0
     rw [HSA.out] at e3
     exact ⟨hB1.at 0 rfl,e0,e1,e2,e3,e4⟩
    have z1 := hB1.f 0
    refine hK.out _ _ hk9 (fun hHeldN => ?_)
    clear hK hHeld
    have hHeld := hHeldN
    try simp only [Act.put,List.setIfInBounds_toArray,List.set_cons_zero,List.set_cons_succ]
    refine gt_last rfl (by kernel_rfl) (by kernel_rfl) (fun K hK => ?_)
    go_simp
    refine hK.out _ _ ?_
    have hWs := Wrt.set w4 b1 0 (.slice a9 (Z.length + 1) c9)
    have HL : Hid ((Z ++ [t]).length = Z.length + 1) := by rw [Hid,List.length_append];rfl
    have HP0 : Hid (Bx (w4.setCell ⟨b1,0,none⟩ (.slice a9 (Z.length + 1) c9)) b0 27 #[.int .i64 m.id,.int .i64 m.n,.slice A.ra m.rows.length A.rc,.slice A.sa m.sung.length A.sc,.bool m.done]) := hB0.wrt hWs (fun e => hne e)
    have HP1 : Hid (Bx (w4.setCell ⟨b1,0,none⟩ (.slice a9 (Z.length + 1) c9)) b1 32 #[.slice a9 (Z ++ [t]).length c9]) := by
     rw [Hid,HL.out]
     simpa using hB1.setC 0 (.slice a9 (Z.length + 1) c9)
    have hf9 : ∀ b,f9 b → (w0.heap.size ≤ b ∧ b ≠ b1 ∧ b ≠ b2 ∧ b ≠ b0) ∧ (f0 b ∨ X.heap.size ≤ b) := fun b hb => by
     rcases p9 b hb with kk | kk
     ·exact hff b kk
     ·have := HB.out.size
      exact ⟨⟨by omega,by omega,by omega,by omega⟩,.inr (by omega)⟩
    have HP2 : Hid (Cel.ow (w4.setCell ⟨b1,0,none⟩ (.slice a9 (Z.length + 1) c9)) (scl (Z ++ [t])) (.slice a9 (Z ++ [t]).length c9) f9) := by
     rw [Hid,HL.out]
     exact Cel.ow_wrt o9 hWs (fun b hb e => (hf9 b hb).1.2.1 e)
    have HP3 : Hid (∀ b,f9 b → (w0.heap.size ≤ b ∧ b ≠ b1 ∧ b ≠ b2 ∧ b ≠ b0) ∧ (f0 b ∨ X.heap.size ≤ b)) := hf9
    have hW4 : Wrt (fun x => x = b1 ∨ f0 x) X w4 := (HW.out.trans (Wrt.of_below hbV1) (fun _ _ h => h)).trans q9 (fun b hbl hb => ((hff b hb).2).elim (fun h => .inr h) (fun h => absurd hbl (by omega)))
    have HP4 : Hid (Wrt (fun x => x = b1 ∨ f0 x) X (w4.setCell ⟨b1,0,none⟩ (.slice a9 (Z.length + 1) c9))) := hW4.trans hWs (fun _ _ h => .inl h)
    have HP5 : Hid (Below w0.heap.size w0 (w4.setCell ⟨b1,0,none⟩ (.slice a9 (Z.length + 1) c9))) := hWs.below (q9.below (HB.out.trans (hbV1.mono HB.out.size)) (HB.out.trans (hbV1.mono HB.out.size)).size (fun b hb => (hff b hb).1.1)) (q9.below (HB.out.trans (hbV1.mono HB.out.size)) (HB.out.trans (hbV1.mono HB.out.size)).size (fun b hb => (hff b hb).1.1)).size (fun b e => by omega)
    clear hHeld hK hk9 z1 hB0 hB1 o9 p9 q9 hA hW4 hWs hf9 KS hbd hbV1 hba hT
    generalize w4.setCell ⟨b1,0,none⟩ (.slice a9 (Z.length + 1) c9) = W9 at *
    go_wp2
    go_roundw
    case rel => exact ⟨k + 1,a9,c9,Z ++ [t],f9,by omega,by go_num,HZ1.out.symm,HA2,by rw [← HSA.out];exact HP0.out,HP1.out,HP2.out,HP3.out,HP4.out,HP5.out⟩
    case measure => simp [intOf];omega
  ·have k1 : ¬ ((k : Int) < (m.sung.length : Int)) := by omega
   have eZ : Z = m.sung.map (txtOf m.rows n) := by rw [hZ.out,show k = m.sung.length by omega,List.take_length]
   subst eZ
   have HAll : Hid (m.sung.all (hadB m.rows m.k) = true) := by
    rw [Hid,List.all_eq_true,HKn.out]
    intro x hx
    obtain ⟨j,hj,rfl⟩ := List.mem_iff_getElem.1 hx
    have := hAll.out j (by omega)
    simpa [el,hj] using this
   clear hx0 hO hW hB hZ hAll
   have c1 := hx1.at 0 (v := .slice a (m.sung.map (txtOf m.rows n)).length c) rfl
   have HC1 : Hid (wr.cell? ⟨b1,0,none⟩ = some (.slice a (m.sung.map (txtOf m.rows n)).length c)) := c1
   clear c1 hx1
   go_wp2
   first | go_end0 | go_ret
   refine ⟨.inl ⟨HOk.out,HAll.out,rfl,a,c,f, ?_⟩,HW.out⟩
   rw [HKn.out]
   exact ⟨HC1.out,HO.out,fun b hb => ⟨(hff b hb).1.1,(hff b hb).1.2.1,(hff b hb).1.2.2.1⟩⟩
end Go.Proofs.YtidnfdobljihoaaGreat
namespace Go.Proofs.YtidnfdobljihoaaGreat
set_option linter.unusedVariables false
set_option linter.unusedSimpArgs false
open Go.RowKit Go.Sort
structure OkW (m : Mb) (i n : Nat) : Prop where
 hid : m.id = (i : Int)
 n5 : 1 ≤ n ∧ n ≤ 5
 lt : i < n
 len : m.rows.length = n
 ok : ∀ k,k < n → OkR (rowN m.rows k) n
 fit : FitM m
theorem OkM.okw {m : Mb} {i n : Nat} (h : OkM m i n) : OkW m i n := ⟨h.hid,h.n5,h.lt,h.len,h.ok,h.fit⟩
set_option maxRecDepth 100000 in
set_option maxHeartbeats 1600000 in
theorem agt_any (w0 : World) (B : Nat) (m : Mb) (i n q : Nat) (fp : Fp) (g off c : Nat) (X : World) (M : Iw w0 X B m fp g off c) (ok : OkW m i n) (hq : q ≤ 60) :
  Calls Tryz.prog 148 #[.pointer (some ⟨B,0,none⟩),.int .i64 (q : Int)] X fun e w' => e = .returned (.bool (sings m.rows n q)) ∧ Below X.heap.size X w' := by
 have hn5 := ok.n5
 have c1 := M.rws
 rw [ok.len] at c1
 have hC := cnt_any B (some ⟨g,off,none⟩) n c X c1
 obtain ⟨e1,e2⟩ := snd_nat hn5 hq
 have hS := sndI_any (n : Int) (q : Int) X
 have hI := idxI_any (n : Int) (q : Int) X
 rw [e1] at hS
 rw [e2] at hI
 obtain ⟨z,hz⟩ : ∃ z : Nat,Hid (q % n = z) := ⟨_,rfl⟩
 obtain ⟨y,hy⟩ : ∃ y : Nat,Hid (q / n = y) := ⟨_,rfl⟩
 have hzn : z < n := by rw [← hz.out];exact Nat.mod_lt _ (by omega)
 rw [hz.out] at hS
 rw [hy.out] at hI
 have HM : Hid (Iw w0 X B m fp g off c) := M
 have HLn : Hid (m.rows.length = n) := ok.len
 have HOk : Hid (∀ k,k < n → OkR (rowN m.rows k) n) := ok.ok
 have HFm : Hid (FitM m) := ok.fit
 clear e1 e2 M
 go_enter Tryz.func148,Tryz.ntmps148
 go_wp2_with (first | (go_at_call 140;refine hC.mono ?_;rintro e w' ⟨rfl,hw'⟩;rw [hw'];clear hw') | (go_at_call 104;refine hS.mono ?_;rintro e w' ⟨rfl,hw'⟩;rw [hw'];clear hw') | (go_at_call 105;refine hI.mono ?_;rintro e w' ⟨rfl,hw'⟩;rw [hw'];clear hw'))
 clear hC hS hI c1
 go_loopw [22] (fun v wr => ∃ k : Nat,k ≤ n ∧ v = .int .i64 (k : Int) ∧ (∀ j,j < k → (y : Int) < el (rowN m.rows j).got z) ∧ Below X.heap.size X wr) (fun v _ => n - (intOf v).toNat)
 case atStart => exact ⟨0,Nat.zero_le _,rfl,fun j hj => by omega,Below.refl _ _⟩
 case round =>
  obtain ⟨k,hk,rfl,hall,hb⟩ := hrel
  have HA : Hid (∀ j,j < k → (y : Int) < el (rowN m.rows j).got z) := hall
  have HB : Hid (Below X.heap.size X wr) := hb
  clear hall
  by_cases hlt : k < n
  ·have hkl : k < m.rows.length := by rw [HLn.out];exact hlt
   obtain ⟨Ak,⟨⟨d0,d1,d2,d3⟩,d4,d5,d6,d7⟩,hrs⟩ := (HM.out.step hb).row HFm.out hkl
   have hgl := (HOk.out k hlt).gl
   have k0 : (0 : Int) ≤ (k : Int) := by omega
   have k1 : (k : Int) < (n : Int) := by omega
   have HNo : Hid (¬ ((y : Int) < el (rowN m.rows k).got z) → sings m.rows n q = false) := fun h => sings_no hkl (by rw [hy.out,hz.out];exact h)
   have HY : Hid ((y : Int) < el (rowN m.rows k).got z → ∀ j,j < k + 1 → (y : Int) < el (rowN m.rows j).got z) := fun h1 j hj => by
    rcases Nat.lt_succ_iff_lt_or_eq.1 hj with h | h
    ·exact HA.out j h
    ·rw [h];exact h1
   generalize rowN m.rows k = r at *
   have hba := oneA16 wr (.cells #[.int .i64 r.ver,.slice Ak.ta r.txt.length Ak.tc,.slice Ak.ga r.got.length Ak.gc,.slice Ak.sa r.sus.length Ak.sc,.bool r.wed,.bool r.rdy,.int .i64 r.by_,.slice Ak.ma r.trm.length Ak.mc] 37)
   have hxr := Bx.new wr 37 #[.int .i64 r.ver,.slice Ak.ta r.txt.length Ak.tc,.slice Ak.ga r.got.length Ak.gc,.slice Ak.sa r.sus.length Ak.sc,.bool r.wed,.bool r.rdy,.int .i64 r.by_,.slice Ak.ma r.trm.length Ak.mc]
   have HBa : Hid (Below X.heap.size X (wr.alloc (.cells #[.int .i64 r.ver,.slice Ak.ta r.txt.length Ak.tc,.slice Ak.ga r.got.length Ak.gc,.slice Ak.sa r.sus.length Ak.sc,.bool r.wed,.bool r.rdy,.int .i64 r.by_,.slice Ak.ma r.trm.length Ak.mc] 37))) := HB.out.trans (hba.mono HB.out.size)
   rcases (hrs.got.below hba (Nat.le_refl _)).2.2 with h0 | ⟨gb,go,hga,hgc⟩
   ·omega
   have hge := hgc z (by omega)
   have z0 : (0 : Int) ≤ (z : Int) := by omega
   have z1 : (z : Int) < (r.got.length : Int) := by omega
   have HXr : Hid (Bx (wr.alloc (.cells #[.int .i64 r.ver,.slice Ak.ta r.txt.length Ak.tc,.slice Ak.ga r.got.length Ak.gc,.slice Ak.sa r.sus.length Ak.sc,.bool r.wed,.bool r.rdy,.int .i64 r.by_,.slice Ak.ma r.trm.length Ak.mc] 37)) wr.heap.size 37 #[.int .i64 r.ver,.slice Ak.ta r.txt.length Ak.tc,.slice Ak.ga r.got.length Ak.gc,.slice Ak.sa r.sus.length Ak.sc,.bool r.wed,.bool r.rdy,.int .i64 r.by_,.slice Ak.ma r.trm.length Ak.mc]) := hxr
   have HGA : Hid (Ak.ga = some ⟨gb,go,none⟩) := hga
   clear hrs hb hgc hba hxr hga hgl
   generalize hxe : el r.got z = x at *
   go_upto_region 5 with fail
   generalize wr.alloc (.cells #[.int .i64 r.ver,.slice Ak.ta r.txt.length Ak.tc,.slice Ak.ga r.got.length Ak.gc,.slice Ak.sa r.sus.length Ak.sc,.bool r.wed,.bool r.rdy,.int .i64 r.by_,.slice Ak.ma r.trm.length Ak.mc] 37) = W5 at *
   clear d0 d1 d2 d3 d4 d5 d6 d7
   have x2 := HXr.out.at 2 (v := .slice Ak.ga r.got.length Ak.gc) rfl
   rw [HGA.out] at x2
   by_cases hxy : (y : Int) < x
   ·have e2 : ¬ (x ≤ (y : Int)) := by omega
    have e3 : decide (x ≤ (y : Int)) = false := decide_eq_false e2
    have HN : Hid (∀ j,j < k + 1 → (y : Int) < el (rowN m.rows j).got z) := HY.out hxy
    clear HY HNo hxy
    go_wp2
    go_roundw
    case rel => exact ⟨k + 1,by omega,by go_num,HN.out,HBa.out⟩
    case measure => simp [intOf];omega
   ·have e2 : x ≤ (y : Int) := by omega
    have e3 : decide (x ≤ (y : Int)) = true := decide_eq_true e2
    have HN : Hid (sings m.rows n q = false) := HNo.out hxy
    clear HY HNo hxy
    go_wp2
    go_ret
    exact ⟨ret_bool (by rw [HN.out]),HBa.out⟩
  ·have k1 : ¬ ((k : Int) < (n : Int)) := by omega
   obtain rfl : k = n := by omega
   have HN : Hid (sings m.rows k q = true) := sings_yes (fun j hj => by rw [hy.out,hz.out];exact HA.out j (by rw [← HLn.out];exact hj))
   clear hb
   go_wp2
   go_ret
   exact ⟨ret_bool (by rw [HN.out]),HB.out⟩
theorem sings_lt {m : Mb} {i n q : Nat} (ok : OkW m i n) (h : sings m.rows n q = true) : q < 60 := by
 have h5 := ok.n5
 have h0 := ok.ok 0 (by omega)
 have hl := ok.len
 rw [sings,List.all_eq_true] at h
 have := h _ (List.mem_of_getElem? (rowN_at (R := m.rows) (k := 0) (by omega)))
 simp only [decide_eq_true_eq] at this
 have hm : q % n < n := Nat.mod_lt _ (by omega)
 have hg := (small_iff h0.n5 h0.gl).1 ⟨h0.got,h0.g12⟩ (q % n) hm
 have hq : q / n < 12 := by omega
 have hd := Nat.div_add_mod q n
 have h1 : n * (q / n) ≤ n * 11 := Nat.mul_le_mul_left n (by omega)
 omega
set_option maxRecDepth 100000 in
set_option maxHeartbeats 1600000 in
theorem sng_any (w0 : World) (B : Nat) (m : Mb) (i n : Nat) (fp : Fp) (g off c : Nat) (X : World) (M : Iw w0 X B m fp g off c) (ok : OkW m i n) (hsl : m.sung.length ≤ 60) :
  Calls Tryz.prog 88 #[.pointer (some ⟨B,0,none⟩)] X fun e w' => e = .returned (.tuple #[]) ∧ Iw w0 w' B { m with sung := sing m.rows n (60 - m.sung.length) m.sung } fp g off c := by
 have hmix := mixed17
 have HM0 : Hid (Iw w0 X B m fp g off c) := M
 have HOk : Hid (OkW m i n) := ok
 clear M
 go_enter Tryz.func88,Tryz.ntmps88
 go_wp2_with fail
 go_loopg [] 61 (fun gk wr => ∃ s : List Int,s.length ≤ 60 ∧ 60 - s.length < gk ∧ Fits s ∧ Hid (sing m.rows n (60 - m.sung.length) m.sung = sing m.rows n (60 - s.length) s) ∧ Iw w0 wr B { m with sung := s } fp g off c)
 case atStart => exact ⟨m.sung,hsl,by omega,HOk.out.fit.2,rfl,HM0.out⟩
 case round =>
  obtain ⟨s,hs60,hgk,hfs,hS,M⟩ := hrel
  have hokw : OkW { m with sung := s } i n := ⟨HOk.out.hid,HOk.out.n5,HOk.out.lt,HOk.out.len,HOk.out.ok,HOk.out.fit.1,hfs⟩
  obtain ⟨sa,sc,⟨c0,c1,c2,c3⟩,hms⟩ := M.box hokw.fit
  simp only at c0 c1 c2 c3
  have HM : Hid (Iw w0 wr B { m with sung := s } fp g off c) := M
  have hAg : ∀ q : Bk wr,Calls Tryz.prog 148 #[.pointer (some ⟨B,0,none⟩),.int .i64 (s.length : Int)] q.w fun e w' => e = .returned (.bool (sings m.rows n s.length)) ∧ Below q.w.heap.size q.w w' := fun q => agt_any w0 B { m with sung := s } i n s.length fp g off c q.w (HM.out.step q.h) hokw hs60
  have y2 : ∀ q : Bk wr,q.w.cell? ⟨B,2,none⟩ = some (.slice sa s.length sc) := fun q => (q.h.cell (World.block_lt_of_cell? _ _ c2)).trans c2
  have HLt : Hid (sings m.rows n s.length = true → s.length < 60) := fun h => sings_lt HOk.out h
  clear M hms c0 c1 c2 c3
  cases hsg : sings m.rows n s.length with
  | false =>
   have HE : Hid (sing m.rows n (60 - m.sung.length) m.sung = s) := by
    rw [Hid,hS.out]
    cases 60 - s.length with
    | zero => rfl
    | succ f => rw [sing,if_neg (by rw [hsg];decide)]
   rw [hsg] at hAg
   clear hsg
   go_wp2_with fail
   refine wp_region_bk (by kernel_rfl) (by kernel_rfl) ?_
   repeat (go_big_quiet_step ((first | (go_at_call 148;exact bk_call _ (hAg _)) | rfl)))
   refine wpQuiet_nil ?_
   intro wE hw'
   obtain ⟨⟨w11,hb11⟩,hw''⟩ := hw'
   have hwe : wE = w11 := hw''
   clear hw''
   subst hwe
   have HME : Hid (Iw w0 wE B { m with sung := s } fp g off c) := HM.out.step hb11
   clear hAg y2 hb11
   go_wp2
   first | go_end0 | go_ret
   exact ⟨rfl,by rw [HE.out];exact HME.out⟩
  | true =>
   have hl60 := HLt.out hsg
   have HE : Hid (sing m.rows n (60 - m.sung.length) m.sung = sing m.rows n (60 - (s ++ [(s.length : Int)]).length) (s ++ [(s.length : Int)])) := by
    rw [Hid,hS.out,List.length_append,show 60 - s.length = (60 - (s.length + 1)) + 1 by omega,sing,if_pos hsg]
    rfl
   rw [hsg] at hAg
   clear hsg HLt
   go_upto_region 0 with fail
   refine wp_region_bk (by kernel_rfl) (by kernel_rfl) ?_
   repeat (go_big_quiet_step ((first | (go_at_call 148;exact bk_call _ (hAg _)) | rfl)))
   refine wpQuiet_nil ?_
   intro wE hw'
   obtain ⟨⟨w11,hb11⟩,hw''⟩ := hw'
   have hwe : wE = w11 := hw''
   clear hw''
   subst hwe
   have M1 := HM.out.step hb11
   obtain ⟨u,f,hu,hz,how,hlt,hset⟩ := M1.mat (j := 2) rfl (by decide)
   have hu2 := y2 ⟨wE,hb11⟩
   simp only at hu2
   obtain rfl := Option.some.inj (hu.symm.trans hu2)
   obtain ⟨sa',sc',es,hA⟩ := ow_int_app (s.length : Int) how (Nat.le_trans hs60 (by decide))
   cases es
   have hbd : Below wE.heap.size wE wE.drew := (Same.drewN wE 1).below
   have KS : ∀ Z,Below wE.heap.size wE Z → Z.cell? ⟨B,2,none⟩ = some (.slice sa s.length sc) := fun Z hZ => (hZ.cell (World.block_lt_of_cell? _ _ hu2)).trans hu2
   have hba := oneA16 wE (.cells #[.int .i64 (s.length : Int)] 2)
   have HSet : Hid (∀ (X1 : World) (c' : Cel) (u' : Value) (f' : Fp) (m' : Mb),(mb4 { m with sung := s }).set 2 c' = mb4 m' → m'.rows.length = m.rows.length → Wrt f wE X1 → Cel.ow X1 c' u' f' → (∀ b,f' b → f b ∨ wE.heap.size ≤ b) → X1.cell? ⟨B,2,none⟩ = some (.slice sa s.length sc) ∧ X1.frozen? ⟨B,2,none⟩ = false ∧ Iw w0 (X1.setCell ⟨B,2,none⟩ u') B m' fp g off c) := hset
   clear hAg y2 hset hu hz hlt M1 how hb11
   go_upto_region 1 with fail
   refine gt_begin (S := fun Z : World => Z.cell? ⟨B,2,none⟩ = some (.slice sa s.length sc)) 14 hmix (by kernel_rfl) ?_
   have hHeld : (fun Z : World => Z.cell? ⟨B,2,none⟩ = some (.slice sa s.length sc)) wE.drew := (KS _ hbd)
   refine gt_take (i := 0) (v := ?_) rfl (by kernel_rfl) (by kernel_rfl) (by kernel_rfl) (by kernel_rfl) (fun _ _ _ h => h) (Or.inl ⟨by rfl, ?_⟩) hHeld ?_
   rotate_left
   ·(intro X hSX;(try dsimp only at hSX);have g0 := hSX;go_simp;try with_reducible rfl)
   try simp only [Act.put,List.setIfInBounds_toArray,List.set_cons_zero,List.set_cons_succ]
   refine gt_take (i := 1) (v := ?_) rfl (by kernel_rfl) (by kernel_rfl) (by kernel_rfl) (by kernel_rfl) (fun _ _ _ h => h) (Or.inl ⟨by rfl, ?_⟩) hHeld ?_
   rotate_left
   ·(intro X hSX;(try dsimp only at hSX);have g0 := hSX;go_simp;try with_reducible rfl)
   try simp only [Act.put,List.setIfInBounds_toArray,List.set_cons_zero,List.set_cons_succ]
   refine gt_take (i := 2) (v := ?_) rfl (by kernel_rfl) (by kernel_rfl) (by kernel_rfl) (by kernel_rfl) (fun _ _ _ h => h) (Or.inl ⟨by rfl, ?_⟩) hHeld ?_
   rotate_left
   ·(intro X hSX;(try dsimp only at hSX);have g0 := hSX;go_simp;try with_reducible rfl)
   try simp only [Act.put,List.setIfInBounds_toArray,List.set_cons_zero,List.set_cons_succ]
   refine gt_take (i := 3) (v := ?_) rfl (by kernel_rfl) (by kernel_rfl) (by kernel_rfl) (by kernel_rfl) (fun _ _ _ h => h) (Or.inl ⟨by rfl, ?_⟩) hHeld ?_
   rotate_left
   ·(intro X hSX;(try dsimp only at hSX);have g0 := hSX;go_simp;try with_reducible rfl)
   try simp only [Act.put,List.setIfInBounds_toArray,List.set_cons_zero,List.set_cons_succ]
   refine gt_take (i := 4) (v := ?_) rfl (by kernel_rfl) (by kernel_rfl) (by kernel_rfl) (by kernel_rfl) (fun _ _ _ h => h) (Or.inl ⟨by rfl, ?_⟩) hHeld ?_
   rotate_left
   ·(intro X hSX;(try dsimp only at hSX);have g0 := hSX;go_simp;try with_reducible rfl)
   try simp only [Act.put,List.setIfInBounds_toArray,List.set_cons_zero,List.set_cons_succ]
   refine gt_take (i := 5) (v := ?_) rfl (by kernel_rfl) (by kernel_rfl) (by kernel_rfl) (by kernel_rfl) (fun _ _ _ h => h) (Or.inl ⟨by rfl, ?_⟩) hHeld ?_
   rotate_left
   ·(intro X hSX;(try dsimp only at hSX);have g0 := hSX;go_simp;try with_reducible rfl)
   try simp only [Act.put,List.setIfInBounds_toArray,List.set_cons_zero,List.set_cons_succ]
   refine gt_take (i := 6) (v := ?_) rfl (by kernel_rfl) (by kernel_rfl) (by kernel_rfl) (by kernel_rfl) (fun _ _ _ h => h) (Or.inl ⟨by rfl, ?_⟩) hHeld ?_
   rotate_left
   ·(intro X hSX;(try dsimp only at hSX);have g0 := hSX;go_simp;try with_reducible rfl)
   try simp only [Act.put,List.setIfInBounds_toArray,List.set_cons_zero,List.set_cons_succ]
   refine gt_take (i := 7) (v := ?_) rfl (by kernel_rfl) (by kernel_rfl) (by kernel_rfl) (by kernel_rfl) (fun _ _ _ h => h) (Or.inl ⟨by rfl, ?_⟩) hHeld ?_
   rotate_left
   ·(intro X hSX;(try dsimp only at hSX);have g0 := hSX;go_simp;try with_reducible rfl)
   try simp only [Act.put,List.setIfInBounds_toArray,List.set_cons_zero,List.set_cons_succ]
   refine gt_take (i := 8) (v := ?_) rfl (by kernel_rfl) (by kernel_rfl) (by kernel_rfl) (by kernel_rfl) (fun _ _ _ h => h) (Or.inl ⟨by rfl, ?_⟩) hHeld ?_
   rotate_left
   ·(intro X hSX;(try dsimp only at hSX);have g0 := hSX;go_simp;try with_reducible rfl)
   try simp only [Act.put,List.setIfInBounds_toArray,List.set_cons_zero,List.set_cons_succ]
   refine gt_take (i := 9) (v := ?_) rfl (by kernel_rfl) (by kernel_rfl) (by kernel_rfl) (by kernel_rfl) (fun _ _ _ h => h) (Or.inl ⟨by rfl, ?_⟩) hHeld ?_
   rotate_left
   ·(intro X hSX;(try dsimp only at hSX);have g0 := hSX;go_simp;try with_reducible rfl)
   try simp only [Act.put,List.setIfInBounds_toArray,List.set_cons_zero,List.set_cons_succ]
   refine gt_one (i := 10) rfl (by kernel_rfl) (by kernel_rfl) (fun K hK => ?_)
   go_simp
   refine hK.out _ _ (KS _ (hbd.trans ((oneA16 wE.drew (.cells #[.int .i64 (s.length : Int)] 2)).mono hbd.size))) (fun hHeldN => ?_)
   clear hK hHeld
   have hHeld := hHeldN
   try simp only [Act.put,List.setIfInBounds_toArray,List.set_cons_zero,List.set_cons_succ]
   refine gt_one (i := 11) rfl (by kernel_rfl) (by kernel_rfl) (fun K hK => ?_)
   refine step_append_of (by rfl) _ _ _ _ (by rfl) (.slice sa s.length sc) _ (by rfl) (by rfl) hA ⟨rfl,rfl,rfl,rfl⟩ ?_
   rintro v9 w1 ⟨a1,e1,f1,rfl,k1,k2,k3⟩
   obtain ⟨q1,q2,M2⟩ := HSet.out w1 (icl (s ++ [(s.length : Int)])) (.slice a1 (s.length + 1) e1) f1 { m with sung := s ++ [(s.length : Int)] } rfl rfl k3 k1 k2
   have HM2 : Hid (Iw w0 (w1.setCell ⟨B,2,none⟩ (.slice a1 (s.length + 1) e1)) B { m with sung := s ++ [(s.length : Int)] } fp g off c) := M2
   refine hK.out _ _ q1 (fun hHeldN => ?_)
   clear hK hHeld
   have hHeld := hHeldN
   try simp only [Act.put,List.setIfInBounds_toArray,List.set_cons_zero,List.set_cons_succ]
   refine gt_one (i := 12) rfl (by kernel_rfl) (by kernel_rfl) (fun K hK => ?_)
   go_simp
   refine hK.out _ _ q1 (fun hHeldN => ?_)
   clear hK hHeld
   have hHeld := hHeldN
   try simp only [Act.put,List.setIfInBounds_toArray,List.set_cons_zero,List.set_cons_succ]
   refine gt_one (i := 13) rfl (by kernel_rfl) (by kernel_rfl) (fun K hK => ?_)
   go_simp
   refine hK.out _ _ q1 (fun hHeldN => ?_)
   clear hK hHeld
   have hHeld := hHeldN
   try simp only [Act.put,List.setIfInBounds_toArray,List.set_cons_zero,List.set_cons_succ]
   refine gt_last rfl (by kernel_rfl) (by kernel_rfl) (fun K hK => ?_)
   go_simp
   refine hK.out _ _ ?_
   clear hHeld hK M2 k1 k2 k3 hA HSet q1 q2 KS hbd hba hu2
   generalize w1.setCell ⟨B,2,none⟩ (.slice a1 (s.length + 1) e1) = W9 at *
   go_wp2
   go_roundg (60 - s.length)
   case measure => omega
   case rel => exact ⟨s ++ [(s.length : Int)],by simp;omega,by simp;omega,fun x hx => by
    rcases List.mem_append.1 hx with h | h
    ·exact hfs x h
    ·rw [List.mem_singleton.1 h];omega,HE.out,HM2.out⟩
end Go.Proofs.YtidnfdobljihoaaGreat
namespace Go.Proofs.YtidnfdobljihoaaGreat
set_option linter.unusedVariables false
set_option linter.unusedSimpArgs false
open Go.RowKit Go.Sort
theorem Iw.ownO {w X : World} {B : Nat} {m : Mb} {fp : Fp} {g off c : Nat} (h : Iw w X B m fp g off c) {i J : Nat} (hi : i < m.rows.length) (hJ : J < m.rows.length) (hne : J ≠ i) (hfit : FitR (rowN m.rows J)) : ∃ (f : Fp) (A : Ra),Plc X g (off + i * 8) (rw8 (rowN m.rows i)) f ∧ B ≠ g ∧ ¬ f B ∧ RV X g (off + J * 8) A (rowN m.rows J) ∧ (∀ b o,A.sa = some ⟨b,o,none⟩ → (rowN m.rows J).sus ≠ [] → ¬ f b ∧ b ≠ g) ∧ ∀ (X1 Y : World) (r : Rw),Below X.heap.size X X1 → Bcm X1 Y g (off + i * 8) (rw8 r) f → Iw w Y B { m with rows := m.rows.set i r } fp g off c := by
 obtain ⟨fp1,hp,hf1,hgo⟩ := h.bcm.next
 obtain ⟨g',off',c',f,f2,vs2,h1,hgB,hfs,hpl,hpv,hdis,hvl,hput⟩ := hp.elO (F := rw8) rw8_len (by omega) (j := 1) (L := m.rows) rfl (rowN_at hi) (rowN_at hJ) hne
 have e := Option.some.inj (h1.symm.trans h.rws)
 cases e
 have hfB : ¬ f B := fun hb => hp.nB (hfs B hb)
 obtain ⟨A,rfl,hl⟩ := rw8_ow hpv.own
 refine ⟨f,A,hpl,fun e => hgB e.symm,hfB,hpv.rv rfl hfit,fun b o e hn => ?_,fun X1 Y r hb hB => ?_⟩
 ·obtain ⟨u1,us1,q1,g1,e1,o1,l2,d1,i1⟩ := hl
  cases e1
  obtain ⟨u2,us2,q2,g2,e2,o2,l3,d2,i2⟩ := l2
  cases e2
  obtain ⟨u3,us3,q3,g3,e3,o3,l4,d3,i3⟩ := l3
  cases e3
  have hf2 : ∀ b,q3 b → f2 b := fun b hb => (i1 b).2 (.inr ((i2 b).2 (.inr ((i3 b).2 (.inl hb)))))
  have hlen : 0 < (rowN m.rows J).sus.length := by
   rcases Nat.eq_zero_or_pos (rowN m.rows J).sus.length with h | h
   ·exact absurd (List.eq_nil_of_length_eq_zero h) hn
   ·exact h
  obtain ⟨g1',o1',c1',ee,hq,_⟩ := ow_int_set o3 hlen
  rw [e] at ee
  cases ee
  exact ⟨hdis _ (hf2 _ hq),fun e => hpv.nB (e ▸ hf2 _ hq)⟩
 ·have hB1 := hB.first hb hpl.lt hpl.flt
  refine ⟨hgo Y _ rfl (hput Y r hB1), ?_⟩
  rw [World.cell?_of_block (hB1.wrt.block B hp.lt (fun kk => by rcases kk with kk | kk;exact hfB kk;exact hgB kk.symm)),h.rws]
  simp
set_option maxRecDepth 100000 in
set_option maxHeartbeats 1600000 in
theorem tkd_any (w0 : World) (B : Nat) (m : Mb) (i n : Nat) (fp : Fp) (g off c : Nat) (X : World) (M : Iw w0 X B m fp g off c) (ok : OkM m i n) :
  Calls Tryz.prog 84 #[.pointer (some ⟨B,0,none⟩)] X fun e w' => e = .returned (.tuple #[]) ∧ Iw w0 w' B { m with rows := m.rows.set i (learn m.rows i (rowN m.rows i) (leftN n (rowN m.rows i).sus)) } fp g off c := by
 have hil : i < m.rows.length := by rw [ok.len];exact ok.lt
 have hr := ok.ok i ok.lt
 have hn5 := ok.n5
 have hL := lft_any w0 B m i n fp g off c X M ok
 have HM : Hid (Iw w0 X B m fp g off c) := M
 have HLn : Hid (∀ k ∈ leftN n (rowN m.rows i).sus,k < n) := fun k hk => (mem_leftN.1 hk).1
 have hLL := leftN_len n (rowN m.rows i).sus
 generalize hLe : leftN n (rowN m.rows i).sus = L at *
 clear hLe M
 go_enter Tryz.func84,Tryz.ntmps84
 go_wp2_with fail
 refine hL.mono ?_
 rintro e wl ⟨la,lc,rfl,fl,hl1,hl2,hl3⟩
 obtain ⟨fp5,f1,f2,_,M5,f4⟩ := HM.out.sub hl3
 have HF4 : Hid (∀ (Y : World) (m' : Mb),Iw wl Y B m' fp5 g off c → Iw w0 Y B m' fp g off c) := f4
 have HM5 : Hid (Iw wl wl B m fp5 g off c) := M5
 have HL1 : Hid (Cel.ow wl (icl (lN L)) (.slice la (lN L).length lc) fl) := hl1
 have HFL : Hid (∀ b,fl b → ¬ fp5 b ∧ b ≠ B) := fun b hb => ⟨fun k => by have := f1 b k;have := hl2 b hb;omega,fun k => by have := hl2 b hb;omega⟩
 rw [lN_len] at HL1 ⊢
 clear hl1 hl2 hl3 f1 f2 f4 M5 hL HM
 go_wp2_with fail
 go_loopw [8] (fun v wr => ∃ (k : Nat) (ow : Rw),k ≤ L.length ∧ v = .int .i64 (k : Int) ∧ Hid (ow = learn m.rows i (rowN m.rows i) (L.take k)) ∧ Iw wl wr B { m with rows := m.rows.set i ow } fp5 g off c) (fun v _ => L.length - (intOf v).toNat)
 case atStart =>
  refine ⟨0,rowN m.rows i,Nat.zero_le _,rfl,rfl, ?_⟩
  have e : ({ m with rows := m.rows.set i (rowN m.rows i) } : Mb) = m := by
   have := set_sameA (rowN_at hil)
   rw [this]
  rw [e]
  exact HM5.out
 case round =>
  obtain ⟨k,ow,hk,rfl,hOw,M⟩ := hrel
  have HM : Hid (Iw wl wr B { m with rows := m.rows.set i ow } fp5 g off c) := M
  clear HM5
  by_cases hlt : k < L.length
  ·have hokw : OkR ow n := by rw [hOw.out];exact okR_learn ok.ok hr (fun x hx => HLn.out x (List.mem_of_mem_take hx))
   have hfm : FitM { m with rows := m.rows.set i ow } := fitM_set ok hokw
   have hJn : L.getD k 0 < n := HLn.out _ (getD_memN hlt)
   have hJl : L.getD k 0 < ({ m with rows := m.rows.set i ow } : Mb).rows.length := by rw [set_own,ok.len];exact hJn
   have hil2 : i < ({ m with rows := m.rows.set i ow } : Mb).rows.length := by rw [set_own];exact hil
   have hLc := M.cel HL1.out HFL.out
   have hLv := vec_of_ow (by rw [lN_len];exact hLc) (lN_fits HLn.out (by omega))
   rcases hLv.2.2 with hz | ⟨lb,lo,hla,hlc⟩
   ·rw [lN_len] at hz;omega
   have hlk := hlc k (by rw [lN_len];exact hlt)
   rw [el_lN hlt] at hlk
   have HTk : Hid (learn m.rows i (rowN m.rows i) (L.take (k + 1)) = learn1 i ow (L.getD k 0) (rowN m.rows (L.getD k 0))) := by rw [Hid,learn_take hlt,← hOw.out]
   have HRk : Hid (L.getD k 0 ≠ i → rowN (m.rows.set i ow) (L.getD k 0) = rowN m.rows (L.getD k 0)) := fun hne => by rw [rowN_set hil,if_neg hne]
   generalize L.getD k 0 = J at *
   have k1 : (k : Int) < (L.length : Int) := by omega
   have k0 : (0 : Int) ≤ (k : Int) := by omega
   have J0 : (0 : Int) ≤ (J : Int) := by omega
   have J1 : (J : Int) < (m.rows.length : Int) := by rw [ok.len];omega
   have hml : m.rows.length ≤ 5 := by rw [ok.len];exact hn5.2
   have crw := M.rws
   rw [set_own] at crw
   obtain ⟨c0,_⟩ := M.id'
   simp only at c0
   rw [ok.hid] at c0
   have hokr : OkR (rowN (m.rows.set i ow) J) n := by
    rw [rowN_set hil]
    split
    ·exact hokw
    ·exact ok.ok J hJn
   have hs2 : rowN (m.rows.set i ow) i = ow := rowN_self hil
   by_cases hJi : J = i
   ·-- itself: nothing
    subst hJi
    obtain ⟨AJ,⟨⟨d0,d1,d2,d3⟩,d4,d5,d6,d7⟩,_⟩ := M.row hfm hJl
    simp only at d0 d1 d2 d3 d4 d5 d6 d7
    have HT : Hid (ow = learn m.rows J (rowN m.rows J) (L.take (k + 1))) := by rw [Hid,HTk.out,learn1,if_pos (.inl rfl)]
    have e1 : ((J : Int) != (J : Int)) = false := by simp
    generalize rowN (m.rows.set J ow) J = r at *
    have hba := oneA16 wr (.cells #[.int .i64 r.ver,.slice AJ.ta r.txt.length AJ.tc,.slice AJ.ga r.got.length AJ.gc,.slice AJ.sa r.sus.length AJ.sc,.bool r.wed,.bool r.rdy,.int .i64 r.by_,.slice AJ.ma r.trm.length AJ.mc] 37)
    have HME : Hid (Iw wl (wr.alloc (.cells #[.int .i64 r.ver,.slice AJ.ta r.txt.length AJ.tc,.slice AJ.ga r.got.length AJ.gc,.slice AJ.sa r.sus.length AJ.sc,.bool r.wed,.bool r.rdy,.int .i64 r.by_,.slice AJ.ma r.trm.length AJ.mc] 37)) B { m with rows := m.rows.set J ow } fp5 g off c) := HM.out.step hba
    have b0 := (hba.cell (World.block_lt_of_cell? _ _ c0)).trans c0
    rw [hla]
    have HLA : Hid (la = some ⟨lb,lo,none⟩) := hla
    clear M hLc hLv hlc hba hla hs2 hokr
    go_upto_region 4 with fail
    generalize wr.alloc (.cells #[.int .i64 r.ver,.slice AJ.ta r.txt.length AJ.tc,.slice AJ.ga r.got.length AJ.gc,.slice AJ.sa r.sus.length AJ.sc,.bool r.wed,.bool r.rdy,.int .i64 r.by_,.slice AJ.ma r.trm.length AJ.mc] 37) = W5 at *
    clear d0 d1 d2 d3 d4 d5 d6 d7 crw c0 hlk
    go_wp2
    go_roundw
    case rel => exact ⟨k + 1,ow,by omega,by go_num,HT,HME.out⟩
    case measure => simp [intOf];omega
   obtain ⟨f,AJ,hpl,hBg,hfB,hRV,hvb,hput⟩ := M.ownO hil2 hJl hJi hokr.fit
   simp only at hpl hRV hvb hput
   rw [hs2] at hpl
   obtain ⟨⟨⟨d0,d1,d2,d3⟩,d4,d5,d6,d7⟩,hrs⟩ := hRV
   have hrJ := HRk.out hJi
   have HrJ : Hid (rowN (m.rows.set i ow) J = rowN m.rows J) := hrJ
   rw [← hrJ] at HTk
   generalize rowN (m.rows.set i ow) J = r at *
   have e1 : ((J : Int) != (i : Int)) = true := by simp;omega
   have hba := oneA16 wr (.cells #[.int .i64 r.ver,.slice AJ.ta r.txt.length AJ.tc,.slice AJ.ga r.got.length AJ.gc,.slice AJ.sa r.sus.length AJ.sc,.bool r.wed,.bool r.rdy,.int .i64 r.by_,.slice AJ.ma r.trm.length AJ.mc] 37)
   have hxr := Bx.new wr 37 #[.int .i64 r.ver,.slice AJ.ta r.txt.length AJ.tc,.slice AJ.ga r.got.length AJ.gc,.slice AJ.sa r.sus.length AJ.sc,.bool r.wed,.bool r.rdy,.int .i64 r.by_,.slice AJ.ma r.trm.length AJ.mc]
   have HBa : Hid (Below wr.heap.size wr (wr.alloc (.cells #[.int .i64 r.ver,.slice AJ.ta r.txt.length AJ.tc,.slice AJ.ga r.got.length AJ.gc,.slice AJ.sa r.sus.length AJ.sc,.bool r.wed,.bool r.rdy,.int .i64 r.by_,.slice AJ.ma r.trm.length AJ.mc] 37))) := hba
   have HXr : Hid (Bx (wr.alloc (.cells #[.int .i64 r.ver,.slice AJ.ta r.txt.length AJ.tc,.slice AJ.ga r.got.length AJ.gc,.slice AJ.sa r.sus.length AJ.sc,.bool r.wed,.bool r.rdy,.int .i64 r.by_,.slice AJ.ma r.trm.length AJ.mc] 37)) wr.heap.size 37 #[.int .i64 r.ver,.slice AJ.ta r.txt.length AJ.tc,.slice AJ.ga r.got.length AJ.gc,.slice AJ.sa r.sus.length AJ.sc,.bool r.wed,.bool r.rdy,.int .i64 r.by_,.slice AJ.ma r.trm.length AJ.mc]) := hxr
   have b0 := (hba.cell (World.block_lt_of_cell? _ _ c0)).trans c0
   have b1 := (hba.cell (World.block_lt_of_cell? _ _ crw)).trans crw
   have hWd := wdg_any B i m.rows.length g off c n ow f r.sus AJ.sa AJ.sc _ (hpl.below hba) hBg hfB b0 b1 hil (hrs.sus.below hba (Nat.le_refl _)) hvb hokw hokr.sus (by have := hokr.sl;have := hokr.n5;omega)
   have hWd2 : Calls Tryz.prog 143 #[.pointer (some ⟨B,0,none⟩),.slice AJ.sa r.sus.length AJ.sc] (wr.alloc (.cells #[.int .i64 r.ver,.slice AJ.ta r.txt.length AJ.tc,.slice AJ.ga r.got.length AJ.gc,.slice AJ.sa r.sus.length AJ.sc,.bool r.wed,.bool r.rdy,.int .i64 r.by_,.slice AJ.ma r.trm.length AJ.mc] 37)) fun e w' => e = .returned (.tuple #[]) ∧ Iw wl w' B { m with rows := m.rows.set i { ow with wed := true,sus := learnS i ow.sus r.sus } } fp5 g off c := hWd.mono (fun e w' h => ⟨h.1,by
    have := hput _ w' _ hba h.2
    simp only [List.set_set,wdR,List.take_length] at this
    exact this⟩)
   have HME : Hid (Iw wl (wr.alloc (.cells #[.int .i64 r.ver,.slice AJ.ta r.txt.length AJ.tc,.slice AJ.ga r.got.length AJ.gc,.slice AJ.sa r.sus.length AJ.sc,.bool r.wed,.bool r.rdy,.int .i64 r.by_,.slice AJ.ma r.trm.length AJ.mc] 37)) B { m with rows := m.rows.set i ow } fp5 g off c) := HM.out.step hba
   rw [hla]
   have HLA : Hid (la = some ⟨lb,lo,none⟩) := hla
   have HJi : Hid (J ≠ i) := hJi
   clear M hLc hLv hlc hba hxr hla hpl hput hvb hWd hrs hBg hfB hs2 hrJ
   go_upto_region 4 with fail
   generalize wr.alloc (.cells #[.int .i64 r.ver,.slice AJ.ta r.txt.length AJ.tc,.slice AJ.ga r.got.length AJ.gc,.slice AJ.sa r.sus.length AJ.sc,.bool r.wed,.bool r.rdy,.int .i64 r.by_,.slice AJ.ma r.trm.length AJ.mc] 37) = W5 at *
   clear d0 d1 d2 d3 d4 d5 d6 d7 crw c0 hlk hJi
   obtain ⟨⟨x0,x1,x2,x3⟩,x4,x5,x6,x7⟩ := Bx.r8 HXr.out
   by_cases hws : r.wed = false ∧ r.sus = []
   ·have HT : Hid (ow = learn m.rows i (rowN m.rows i) (L.take (k + 1))) := by rw [Hid,HTk.out,learn1,if_pos (.inr hws)]
    rw [hws.1] at x4
    have e3 : ¬ ((0 : Int) < (r.sus.length : Int)) := by rw [hws.2];simp
    clear hws
    go_wp2
    go_roundw
    case rel => exact ⟨k + 1,ow,by omega,by go_num,HT,HME.out⟩
    case measure => simp [intOf];omega
   have HT : Hid ({ ow with wed := true,sus := learnS i ow.sus r.sus } = learn m.rows i (rowN m.rows i) (L.take (k + 1))) := by rw [Hid,HTk.out,learn1,if_neg (by rintro (h | h);exact HJi.out h;exact hws h)]
   cases hwd : r.wed with
   | true =>
    rw [hwd] at x4
    clear hwd hws
    go_wp2_with (go_at_call 143;refine hWd2.mono ?_;rintro e w9 ⟨rfl,hM9⟩;have HM9 : Hid (Iw wl w9 B { m with rows := m.rows.set i { ow with wed := true,sus := learnS i ow.sus r.sus } } fp5 g off c) := hM9;clear hM9)
    go_roundw
    case rel => exact ⟨k + 1,_,by omega,by go_num,HT,HM9.out⟩
    case measure => simp [intOf];omega
   | false =>
    rw [hwd] at x4
    have e3 : (0 : Int) < (r.sus.length : Int) := by
     have : r.sus ≠ [] := fun h => hws ⟨hwd,h⟩
     have : r.sus.length ≠ 0 := fun h => this (List.eq_nil_of_length_eq_zero h)
     omega
    clear hwd hws
    go_wp2_with (go_at_call 143;refine hWd2.mono ?_;rintro e w9 ⟨rfl,hM9⟩;have HM9 : Hid (Iw wl w9 B { m with rows := m.rows.set i { ow with wed := true,sus := learnS i ow.sus r.sus } } fp5 g off c) := hM9;clear hM9)
    go_roundw
    case rel => exact ⟨k + 1,_,by omega,by go_num,HT,HM9.out⟩
    case measure => simp [intOf];omega
  ·have k1 : ¬ ((k : Int) < (L.length : Int)) := by omega
   have eo : ow = learn m.rows i (rowN m.rows i) L := by rw [hOw.out,show k = L.length by omega,List.take_length]
   have HF : Hid (Iw w0 wr B { m with rows := m.rows.set i (learn m.rows i (rowN m.rows i) L) } fp g off c) := by rw [Hid,← eo];exact HF4.out _ _ M
   clear M
   go_wp2
   first | go_end0 | go_ret
   exact ⟨rfl,HF.out⟩
end Go.Proofs.YtidnfdobljihoaaGreat
namespace Go.Proofs.YtidnfdobljihoaaGreat
set_option linter.unusedVariables false
set_option linter.unusedSimpArgs false
open Go.RowKit Go.Sort
set_option maxRecDepth 100000 in
set_option maxHeartbeats 1600000 in
theorem tkc_any (w0 : World) (B : Nat) (m : Mb) (i n : Nat) (fp : Fp) (g off c : Nat) (X : World) (M : Iw w0 X B m fp g off c) (ok : OkW m i n) :
  Calls Tryz.prog 87 #[.pointer (some ⟨B,0,none⟩)] X fun e w' => e = .returned (.tuple #[]) ∧ Iw w0 w' B { m with rows := m.rows.set i { rowN m.rows i with got := gotUp m.rows (rowN m.rows i) n } } fp g off c := by
 have hmix := mixed17
 have hil : i < m.rows.length := by rw [ok.len];exact ok.lt
 have hn5 := ok.n5
 have hr := ok.ok i ok.lt
 obtain ⟨c0,_⟩ := M.id'
 have c1 := M.rws
 rw [ok.hid] at c0
 have hOw := own_any B i m.rows.length g off c X c0 c1 hil
 have HM0 : Hid (Iw w0 X B m fp g off c) := M
 have HLn : Hid (m.rows.length = n) := ok.len
 have HGl : Hid ((rowN m.rows i).got.length = n) := hr.gl
 have HOkR : Hid (∀ k,k < n → OkR (rowN m.rows k) n) := ok.ok
 have HFm : Hid (FitM m) := ok.fit
 have hml : m.rows.length ≤ 5 := by rw [ok.len];exact hn5.2
 have HFit : Hid (∀ k,FitM ({ m with rows := m.rows.set i { rowN m.rows i with got := gotP m.rows (rowN m.rows i) n k } } : Mb)) := fun k => by
  refine ⟨fun x hx => ?_,ok.fit.2⟩
  rcases List.mem_or_eq_of_mem_set hx with h | h
  ·exact ok.fit.1 x h
  ·rw [h]
   refine ⟨fun y hy => ?_,hr.fit.2⟩
   have hy' : y ∈ gotP m.rows (rowN m.rows i) n k := hy
   unfold gotP at hy'
   obtain ⟨j,hj,rfl⟩ := List.mem_map.1 hy'
   have hjn := List.mem_range.1 hj
   have hg := (small_iff hr.n5 hr.gl).1 ⟨hr.got,hr.g12⟩ j hjn
   have ht := (ok.ok j hjn).tl
   split
   ·omega
   ·omega
 clear M c0 c1
 go_enter Tryz.func87,Tryz.ntmps87
 go_wp2_with fail
 refine hOw.mono ?_
 rintro e XA ⟨rfl,hbA⟩
 have M1 := HM0.out.step hbA
 obtain ⟨u,f,hu,hz,how,_,_⟩ := M1.at hil (j := 2) rfl
 have how' : Cel.ow XA (icl (rowN m.rows i).got) u f := how
 have hgi : 0 < (rowN m.rows i).got.length := by rw [HGl.out];omega
 obtain ⟨gb,go,gc,rfl,_⟩ := ow_int_set how' hgi
 have c1 := M1.rws
 have HM1 : Hid (Iw w0 XA B ({ m with rows := m.rows.set i { rowN m.rows i with got := gotP m.rows (rowN m.rows i) n 0 } } : Mb) fp g off c) := by
  rw [Hid,gotP_zero HGl.out]
  have := set_sameA (rowN_at hil)
  have e : ({ m with rows := m.rows.set i { rowN m.rows i with got := (rowN m.rows i).got } } : Mb) = m := by
   show ({ m with rows := m.rows.set i (rowN m.rows i) } : Mb) = m
   rw [this]
  rw [e]
  exact M1
 have HC0 : Hid (XA.cell? ⟨g,off + i * 8 + 2,none⟩ = some (.slice (some ⟨gb,go,none⟩) (rowN m.rows i).got.length gc)) := hu
 clear hOw hbA M1 hz how how' HM0
 go_wp2_with fail
 clear hu c1
 have HSL : Hid (∀ k,rowN (m.rows.set i { rowN m.rows i with got := gotP m.rows (rowN m.rows i) n k }) i = { rowN m.rows i with got := gotP m.rows (rowN m.rows i) n k }) := fun k => rowN_self hil
 go_loopw [15] (fun v wr => ∃ k : Nat,k ≤ m.rows.length ∧ v = .int .i64 (k : Int) ∧ Iw w0 wr B ({ m with rows := m.rows.set i { rowN m.rows i with got := gotP m.rows (rowN m.rows i) n k } } : Mb) fp g off c ∧ wr.cell? ⟨g,off + i * 8 + 2,none⟩ = some (.slice (some ⟨gb,go,none⟩) (rowN m.rows i).got.length gc)) (fun v _ => m.rows.length - (intOf v).toNat)
 case atStart => exact ⟨0,Nat.zero_le _,rfl,HM1.out,HC0.out⟩
 case round =>
  obtain ⟨k,hk,rfl,M,hcg⟩ := hrel
  have HM : Hid (Iw w0 wr B ({ m with rows := m.rows.set i { rowN m.rows i with got := gotP m.rows (rowN m.rows i) n k } } : Mb) fp g off c) := M
  clear HM1 HC0
  by_cases hlt : k < m.rows.length
  ·have hkn : k < n := by rw [← HLn.out];exact hlt
   have hkl2 : k < (({ m with rows := m.rows.set i { rowN m.rows i with got := gotP m.rows (rowN m.rows i) n k } } : Mb)).rows.length := by rw [set_own];exact hlt
   have hil2 : i < (({ m with rows := m.rows.set i { rowN m.rows i with got := gotP m.rows (rowN m.rows i) n k } } : Mb)).rows.length := by rw [set_own];exact hil
   obtain ⟨Ak,⟨⟨d0,d1,d2,d3⟩,d4,d5,d6,d7⟩,hrs⟩ := M.row (HFit.out k) hkl2
   simp only at d0 d1 d2 d3 d4 d5 d6 d7
   have HTx : Hid ((rowN (m.rows.set i { rowN m.rows i with got := gotP m.rows (rowN m.rows i) n k }) k).txt.length = (rowN m.rows k).txt.length) := by
    rw [Hid,rowN_set hil]
    split
    ·rename_i e;rw [e]
    ·rfl
   generalize hrk : rowN (m.rows.set i { rowN m.rows i with got := gotP m.rows (rowN m.rows i) n k }) k = r at *
   have k0 : (0 : Int) ≤ (k : Int) := by omega
   have k1 : (k : Int) < (m.rows.length : Int) := by omega
   have hba := oneA16 wr (.cells #[.int .i64 r.ver,.slice Ak.ta r.txt.length Ak.tc,.slice Ak.ga r.got.length Ak.gc,.slice Ak.sa r.sus.length Ak.sc,.bool r.wed,.bool r.rdy,.int .i64 r.by_,.slice Ak.ma r.trm.length Ak.mc] 37)
   have hxr := Bx.new wr 37 #[.int .i64 r.ver,.slice Ak.ta r.txt.length Ak.tc,.slice Ak.ga r.got.length Ak.gc,.slice Ak.sa r.sus.length Ak.sc,.bool r.wed,.bool r.rdy,.int .i64 r.by_,.slice Ak.ma r.trm.length Ak.mc]
   have M5 := HM.out.step hba
   have HM5 : Hid (Iw w0 (wr.alloc (.cells #[.int .i64 r.ver,.slice Ak.ta r.txt.length Ak.tc,.slice Ak.ga r.got.length Ak.gc,.slice Ak.sa r.sus.length Ak.sc,.bool r.wed,.bool r.rdy,.int .i64 r.by_,.slice Ak.ma r.trm.length Ak.mc] 37)) B ({ m with rows := m.rows.set i { rowN m.rows i with got := gotP m.rows (rowN m.rows i) n k } } : Mb) fp g off c) := M5
   have HXr : Hid (Bx (wr.alloc (.cells #[.int .i64 r.ver,.slice Ak.ta r.txt.length Ak.tc,.slice Ak.ga r.got.length Ak.gc,.slice Ak.sa r.sus.length Ak.sc,.bool r.wed,.bool r.rdy,.int .i64 r.by_,.slice Ak.ma r.trm.length Ak.mc] 37)) wr.heap.size 37 #[.int .i64 r.ver,.slice Ak.ta r.txt.length Ak.tc,.slice Ak.ga r.got.length Ak.gc,.slice Ak.sa r.sus.length Ak.sc,.bool r.wed,.bool r.rdy,.int .i64 r.by_,.slice Ak.ma r.trm.length Ak.mc]) := hxr
   have HCg : Hid ((wr.alloc (.cells #[.int .i64 r.ver,.slice Ak.ta r.txt.length Ak.tc,.slice Ak.ga r.got.length Ak.gc,.slice Ak.sa r.sus.length Ak.sc,.bool r.wed,.bool r.rdy,.int .i64 r.by_,.slice Ak.ma r.trm.length Ak.mc] 37)).cell? ⟨g,off + i * 8 + 2,none⟩ = some (.slice (some ⟨gb,go,none⟩) (rowN m.rows i).got.length gc)) := (hba.cell (World.block_lt_of_cell? _ _ hcg)).trans hcg
   have crw := M.rws
   clear M hrs hba hxr M5 hrk hcg
   go_upto_region 4 with fail
   generalize wr.alloc (.cells #[.int .i64 r.ver,.slice Ak.ta r.txt.length Ak.tc,.slice Ak.ga r.got.length Ak.gc,.slice Ak.sa r.sus.length Ak.sc,.bool r.wed,.bool r.rdy,.int .i64 r.by_,.slice Ak.ma r.trm.length Ak.mc] 37) = W5 at *
   clear d0 d1 d2 d3 d4 d5 d6 d7 crw
   have hgp : k < (gotP m.rows (rowN m.rows i) n k).length := by rw [gotP_len];exact hkn
   obtain ⟨u,f,hu,hz,how,_,_⟩ := HM5.out.at hil2 (j := 2) (cl := icl (gotP m.rows (rowN m.rows i) n k)) (by simp only [HSL.out];rfl)
   obtain rfl := Option.some.inj (hu.symm.trans HCg.out)
   obtain ⟨gb',go',gc',e4,_,hge,_⟩ := ow_int_set how hgp
   rw [gotP_len,HGl.out] at e4
   cases e4
   rw [el_gotP hkn,if_neg (Nat.lt_irrefl _)] at hge
   have x1 := HXr.out.at 1 (v := .slice Ak.ta r.txt.length Ak.tc) rfl
   have T : ∀ {x v},W5.cell? x = some v → ∀ q : Bk W5,q.w.cell? x = some v := fun h q => (q.h.cell (World.block_lt_of_cell? _ _ h)).trans h
   have y1 := T x1
   have y2 := T hge
   have l1 : (k : Int) < ((rowN m.rows i).got.length : Int) := by rw [HGl.out];omega
   have HNx : Hid ((gotP m.rows (rowN m.rows i) n k).set k (max (el (rowN m.rows i).got k) (r.txt.length : Int)) = gotP m.rows (rowN m.rows i) n (k + 1)) := by
    rw [Hid,HTx.out]
    exact gotP_next hkn
   clear T x1 hge hu hz how
   generalize el (rowN m.rows i).got k = x at *
   refine wp_region_quiet_tail (C := fun w' => ∃ p : Bk W5,w' = p.w) 11 hmix (by kernel_rfl) ⟨⟨W5.drewN 1,belowN (Below.refl _ _)⟩,rfl⟩ ?_
   simp only [List.take_succ_cons,List.take_zero]
   repeat (go_big_quiet_step ((first | rfl)))
   refine wpQuiet_nil ?_
   intro wE hw'
   obtain ⟨⟨w11,hb11⟩,hw''⟩ := hw'
   have hwe : wE = w11 := hw''
   clear hw''
   subst hwe
   simp only [List.drop_succ_cons,List.drop_zero]
   have hcg3 : wE.cell? ⟨g,off + i * 8 + 2,none⟩ = _ := (hb11.cell (World.block_lt_of_cell? _ _ HCg.out)).trans HCg.out
   obtain ⟨u,f3,hu,hfz,how,hlt3,hset⟩ := (HM5.out.step hb11).at hil2 (j := 2) (cl := icl (gotP m.rows (rowN m.rows i) n k)) (by simp only [HSL.out];rfl)
   obtain rfl := Option.some.inj (hu.symm.trans hcg3)
   obtain ⟨gb',go',gc',e4,hfg4,hge,hgz,hgs⟩ := ow_int_set how hgp
   rw [gotP_len,HGl.out] at e4
   cases e4
   have HFin : Hid (∀ y,y = max x (r.txt.length : Int) → Iw w0 (wE.setCell ⟨gb,go + k,none⟩ (.int .i64 y)) B ({ m with rows := m.rows.set i { rowN m.rows i with got := gotP m.rows (rowN m.rows i) n (k + 1) } } : Mb) fp g off c ∧ (wE.setCell ⟨gb,go + k,none⟩ (.int .i64 y)).cell? ⟨g,off + i * 8 + 2,none⟩ = some (.slice (some ⟨gb,go,none⟩) (rowN m.rows i).got.length gc)) := fun y hy => by
    subst hy
    obtain ⟨q1,q2⟩ := hgs (max x (r.txt.length : Int))
    obtain ⟨p1,_,_,p4⟩ := hset _ (icl ((gotP m.rows (rowN m.rows i) n k).set k (max x (r.txt.length : Int)))) _ f3 { rowN m.rows i with got := (gotP m.rows (rowN m.rows i) n k).set k (max x (r.txt.length : Int)) } (by simp only [HSL.out];rfl) q2 q1 (fun b hb => .inl hb)
    refine ⟨?_,p1⟩
    have := p4 rfl
    simp only [List.set_set] at this
    rw [HNx.out] at this
    exact this
   clear hset hgs how hfg4 hlt3 y1 y2 hu hfz hcg3
   go_wp2
   generalize hmx : max x (r.txt.length : Int) = mx at *
   obtain ⟨q1,q2⟩ := HFin.out mx rfl
   have HQ1 : Hid _ := q1
   have HQ2 : Hid _ := q2
   go_roundw
   case rel => exact ⟨k + 1,by omega,by go_num,HQ1.out,HQ2.out⟩
   case measure => simp [intOf];omega
  ·have k1 : ¬ ((k : Int) < (m.rows.length : Int)) := by omega
   have HF : Hid (Iw w0 wr B { m with rows := m.rows.set i { rowN m.rows i with got := gotUp m.rows (rowN m.rows i) n } } fp g off c) := by
    rw [Hid,← gotP_all,show n = k by rw [← HLn.out];omega]
    have e : k = n := by rw [← HLn.out];omega
    subst e
    exact M
   clear M hcg
   go_wp2
   first | go_end0 | go_ret
   exact ⟨rfl,HF.out⟩
end Go.Proofs.YtidnfdobljihoaaGreat
namespace Go.Proofs.YtidnfdobljihoaaGreat
set_option linter.unusedVariables false
set_option linter.unusedSimpArgs false
open Go.RowKit Go.Sort
theorem set_comm17 (w : World) (g o1 o2 : Nat) (u v : Value) (h : o1 ≠ o2) : (w.setCell ⟨g,o1,none⟩ u).setCell ⟨g,o2,none⟩ v = (w.setCell ⟨g,o2,none⟩ v).setCell ⟨g,o1,none⟩ u := by
 unfold World.setCell
 simp only [World.mk.injEq,and_true,true_and]
 refine Array.ext (by simp) (fun i h1 h2 => ?_)
 simp only [Array.getElem_modify,Option.isSome_none,Bool.false_eq_true,if_false]
 by_cases e : g = i
 ·subst e
  simp only [if_true]
  cases w.heap[g]'(by simpa using h1) with
  | cells c t fz =>
   simp only
   rw [Array.setIfInBounds_comm _ _ h]
  | _ => rfl
 ·simp [e]
set_option maxRecDepth 100000 in
set_option maxHeartbeats 800000 in
theorem heb_any (w0 : World) (B : Nat) (m : Mb) (i n : Nat) (by_ : Int) (fp : Fp) (g off c : Nat) (X : World) (M : Iw w0 X B m fp g off c) (ok : OkW m i n) :
  Calls Tryz.prog 177 #[.pointer (some ⟨B,0,none⟩),.int .i64 by_] X fun e w' => e = .returned (.bool (!(rowN m.rows i).rdy || decide ((rowN m.rows i).by_ < by_))) ∧ Below X.heap.size X w' := by
 have hil : i < m.rows.length := by rw [ok.len];exact ok.lt
 have HOw : Hid (∀ Y,Below X.heap.size X Y → Calls Tryz.prog 82 #[.pointer (some ⟨B,0,none⟩)] Y fun e w' => e = .returned (.pointer (some ⟨g,off + i * 8,none⟩)) ∧ Below Y.heap.size Y w') := fun Y hY => by
  have M1 := M.step hY
  obtain ⟨c0,_⟩ := M1.id'
  rw [ok.hid] at c0
  exact own_any B i m.rows.length g off c Y c0 M1.rws hil
 have HC : Hid (∀ Y,Below X.heap.size X Y → Y.cell? ⟨g,off + i * 8 + 5,none⟩ = some (.bool (rowN m.rows i).rdy) ∧ Y.cell? ⟨g,off + i * 8 + 6,none⟩ = some (.int .i64 (rowN m.rows i).by_)) := fun Y hY => by
  obtain ⟨Ak,⟨⟨d0,d1,d2,d3⟩,d4,d5,d6,d7⟩,_⟩ := (M.step hY).row ok.fit hil
  exact ⟨d5,d6⟩
 have hO1 := HOw.out X (Below.refl _ _)
 clear M
 generalize rowN m.rows i = r at *
 cases hrd : r.rdy with
 | false =>
  go_enter Tryz.func177,Tryz.ntmps177
  go_wp2_with (go_at_call 82;refine hO1.mono ?_;rintro e w1 ⟨rfl,hb1⟩;obtain ⟨g5,g6⟩ := HC.out w1 hb1;rw [hrd] at g5;have HB1 : Hid (Below X.heap.size X w1) := hb1;clear hb1)
  go_ret
  exact ⟨by simp,HB1.out⟩
 | true =>
  go_enter Tryz.func177,Tryz.ntmps177
  go_wp2_with fail
  refine hO1.mono ?_
  rintro e w1 ⟨rfl,hb1⟩
  obtain ⟨g5,g6⟩ := HC.out w1 hb1
  rw [hrd] at g5
  have HB1 : Hid (Below X.heap.size X w1) := hb1
  have hO2 := HOw.out w1 hb1
  clear hb1 hO1
  go_wp2_with fail
  refine hO2.mono ?_
  rintro e w2 ⟨rfl,hb2⟩
  have HB2 : Hid (Below X.heap.size X w2) := HB1.out.trans (hb2.mono HB1.out.size)
  clear g5 g6 hb2 hO2
  obtain ⟨g5,g6⟩ := HC.out w2 HB2.out
  go_wp2
  go_ret
  exact ⟨by simp,HB2.out⟩
set_option maxRecDepth 100000 in
set_option maxHeartbeats 1600000 in
theorem eby_any (w0 : World) (B : Nat) (m : Mb) (i n : Nat) (by_ : Int) (T : List Int) (ta : Option Addr) (tc : Nat) (fp : Fp) (g off c : Nat) (X : World) (M : Iw w0 X B m fp g off c) (ok : OkW m i n) (hv : Vec X ta T.length T) (hT : T.length ≤ 100) :
  Calls Tryz.prog 178 #[.pointer (some ⟨B,0,none⟩),.int .i64 by_,.slice ta T.length tc] X fun e w' => e = .returned (.tuple #[]) ∧ Iw w0 w' B { m with rows := m.rows.set i { rowN m.rows i with rdy := true,by_ := by_,trm := T } } fp g off c := by
 have hil : i < m.rows.length := by rw [ok.len];exact ok.lt
 obtain ⟨c0,_⟩ := M.id'
 rw [ok.hid] at c0
 have hOw := own_any B i m.rows.length g off c X c0 M.rws hil
 have HM : Hid (Iw w0 X B m fp g off c) := M
 have HV : Hid (Vec X ta T.length T) := hv
 have HTl : Hid (T.length ≤ 1000000) := Nat.le_trans hT (by decide)
 clear M hv c0
 go_enter Tryz.func178,Tryz.ntmps178
 go_wp2_with fail
 refine hOw.mono ?_
 rintro e XA ⟨rfl,hbA⟩
 have hCl := cln_any ta tc T XA (HV.out.below hbA (Nat.le_refl _)) HTl.out
 have HMA : Hid (Iw w0 XA B m fp g off c) := HM.out.step hbA
 clear hOw hbA
 go_wp2_with fail
 refine hCl.mono ?_
 rintro e XB ⟨a1,e1,rfl,f1,o1,p1,b1⟩
 have hlt1 := Cel.ow_lt o1
 obtain ⟨fx,hpl,hBg,hfB,hflt,hgl,_⟩ := HMA.out.own hil
 -- Trim first,then Ready and By: one block's cells
 obtain ⟨u,f,hu,hz,how,hlt,hset⟩ := HMA.out.at hil (j := 7) rfl
 obtain ⟨_,_,M7,_⟩ := hset XB (icl T) (.slice a1 T.length e1) f1 { rowN m.rows i with trm := T } rfl (Wrt.of_below b1) o1 (fun b hb => .inr (p1 b hb))
 have hs7 : rowN (m.rows.set i { rowN m.rows i with trm := T }) i = { rowN m.rows i with trm := T } := rowN_self hil
 have hil7 : i < (m.rows.set i { rowN m.rows i with trm := T }).length := by rw [List.length_set];exact hil
 obtain ⟨_,_,M5⟩ := M7.put hil7 (j := 5) (x := .bool (rowN m.rows i).rdy) (y := .bool true) (r' := { rowN m.rows i with trm := T,rdy := true }) (by simp only [hs7];rfl) (by simp only [hs7];rfl)
 simp only [List.set_set] at M5
 have hs5 : rowN (m.rows.set i { rowN m.rows i with trm := T,rdy := true }) i = { rowN m.rows i with trm := T,rdy := true } := rowN_self hil
 have hil5 : i < (m.rows.set i { rowN m.rows i with trm := T,rdy := true }).length := by rw [List.length_set];exact hil
 obtain ⟨_,_,M6⟩ := M5.put hil5 (j := 6) (x := .int .i64 (rowN m.rows i).by_) (y := .int .i64 by_) (r' := { rowN m.rows i with rdy := true,by_ := by_,trm := T }) (by simp only [hs5];rfl) (by simp only [hs5];rfl)
 simp only [List.set_set] at M6
 rw [set_comm17 XB g (off + i * 8 + 7) (off + i * 8 + 5) _ _ (by omega),set_comm17 _ g (off + i * 8 + 7) (off + i * 8 + 6) _ _ (by omega)] at M6
 have HM6 : Hid _ := M6
 obtain ⟨Ak,⟨⟨d0,d1,d2,d3⟩,d4,d5,d6,d7⟩,_⟩ := (HMA.out.step b1).row ok.fit hil
 obtain ⟨⟨j0,j1,j2,j3⟩,j4,j5,j6,j7⟩ := (HMA.out.step b1).free hil
 clear M7 M5 M6 hset how hu hz hlt hCl o1 p1 b1 hpl hflt hlt1 hs7 hs5 hil7 hil5
 go_wp2
 first | go_end0 | go_ret
 exact ⟨rfl,HM6.out⟩
end Go.Proofs.YtidnfdobljihoaaGreat
namespace Go.Proofs.YtidnfdobljihoaaGreat
set_option linter.unusedVariables false
set_option linter.unusedSimpArgs false
open Go.RowKit Go.Sort
theorem all_takeN {α : Type} {p : α → Bool} {L : List α} {k : Nat} {d : α} (hk : k < L.length) (h : (L.take k).all p = true) (h2 : p (L.getD k d) = true) : (L.take (k + 1)).all p = true := by
 rw [List.getD_eq_getElem?_getD,List.getElem?_eq_getElem hk,Option.getD_some] at h2
 rw [List.take_succ_eq_append_getElem hk,List.all_append,h,Bool.true_and]
 simp [h2]
theorem all_not {α : Type} {p : α → Bool} {L : List α} {k : Nat} {d : α} (hk : k < L.length) (h2 : p (L.getD k d) = false) : L.all p = false := by
 rw [List.getD_eq_getElem?_getD,List.getElem?_eq_getElem hk,Option.getD_some] at h2
 exact List.all_eq_false.2 ⟨_,List.getElem_mem hk,by simp [h2]⟩
set_option maxRecDepth 100000 in
set_option maxHeartbeats 1600000 in
theorem awd_any (w0 : World) (B : Nat) (m : Mb) (i n : Nat) (fp : Fp) (g off c : Nat) (X : World) (M : Iw w0 X B m fp g off c) (ok : OkW m i n) (L : List Nat) (la : Option Addr) (lc : Nat) (hv : Vec X la (lN L).length (lN L)) (hLn : ∀ k ∈ L,k < n) (hLL : L.length ≤ 5) :
  Calls Tryz.prog 179 #[.pointer (some ⟨B,0,none⟩),.slice la L.length lc] X fun e w' => e = .returned (.bool (leadOk m.rows (rowN m.rows i) L)) ∧ Below X.heap.size X w' := by
 have hn5 := ok.n5
 have HM : Hid (Iw w0 X B m fp g off c) := M
 have HLn : Hid (m.rows.length = n) := ok.len
 have hml : m.rows.length ≤ 5 := by rw [ok.len];exact hn5.2
 have HOk : Hid (∀ k,k < n → OkR (rowN m.rows k) n) := ok.ok
 have HFm : Hid (FitM m) := ok.fit
 have HIl : Hid (i < m.rows.length) := by rw [Hid,ok.len];exact ok.lt
 have HL : Hid (∀ k ∈ L,k < n) := hLn
 have HV : Hid (Vec X la (lN L).length (lN L)) := hv
 have HOw : Hid (∀ Y,Below X.heap.size X Y → Calls Tryz.prog 82 #[.pointer (some ⟨B,0,none⟩)] Y fun e w' => e = .returned (.pointer (some ⟨g,off + i * 8,none⟩)) ∧ Below Y.heap.size Y w') := fun Y hY => by
  have M1 := M.step hY
  obtain ⟨c0,_⟩ := M1.id'
  rw [ok.hid] at c0
  exact own_any B i m.rows.length g off c Y c0 M1.rws HIl.out
 clear M hv hLn
 go_enter Tryz.func179,Tryz.ntmps179
 go_wp2_with fail
 go_loopw [10] (fun v wr => ∃ k : Nat,k ≤ L.length ∧ v = .int .i64 (k : Int) ∧ Hid ((L.take k).all (fun k => (rowN m.rows k).wed && (rowN m.rows i).sus.all (fun x => decide (x ∈ (rowN m.rows k).sus))) = true) ∧ Below X.heap.size X wr) (fun v _ => L.length - (intOf v).toNat)
 case atStart => exact ⟨0,Nat.zero_le _,rfl,rfl,Below.refl _ _⟩
 case round =>
  obtain ⟨k,hk,rfl,HA,hb⟩ := hrel
  have HB : Hid (Below X.heap.size X wr) := hb
  by_cases hlt : k < L.length
  ·have hJn : L.getD k 0 < n := HL.out _ (getD_memN hlt)
   have hJl : L.getD k 0 < m.rows.length := by rw [HLn.out];exact hJn
   rcases (HV.out.below hb (Nat.le_refl _)).2.2 with hz | ⟨lb,lo,hla,hlc⟩
   ·rw [lN_len] at hz;omega
   have hlk := hlc k (by rw [lN_len];exact hlt)
   rw [el_lN hlt] at hlk
   obtain ⟨AJ,⟨⟨d0,d1,d2,d3⟩,d4,d5,d6,d7⟩,hrs⟩ := (HM.out.step hb).row HFm.out hJl
   have crw := (HM.out.step hb).rws
   have HT : Hid (((rowN m.rows (L.getD k 0)).wed && (rowN m.rows i).sus.all (fun x => decide (x ∈ (rowN m.rows (L.getD k 0)).sus))) = true → (L.take (k + 1)).all (fun k => (rowN m.rows k).wed && (rowN m.rows i).sus.all (fun x => decide (x ∈ (rowN m.rows k).sus))) = true) := fun h => all_takeN (d := 0) hlt HA.out h
   have HF : Hid (((rowN m.rows (L.getD k 0)).wed && (rowN m.rows i).sus.all (fun x => decide (x ∈ (rowN m.rows (L.getD k 0)).sus))) = false → leadOk m.rows (rowN m.rows i) L = false) := fun h => all_not (d := 0) hlt h
   have HSl : Hid ((rowN m.rows (L.getD k 0)).sus.length ≤ maxLen) := by have h := HOk.out _ hJn;have := h.sl;have := h.n5;unfold maxLen;rw [Hid];omega
   have HSo : Hid ((rowN m.rows i).sus.length ≤ maxLen) := by have h := HOk.out i (by rw [← HLn.out];exact HIl.out);have := h.sl;have := h.n5;unfold maxLen;rw [Hid];omega
   generalize L.getD k 0 = J at *
   have k1 : (k : Int) < (L.length : Int) := by omega
   have k0 : (0 : Int) ≤ (k : Int) := by omega
   have J0 : (0 : Int) ≤ (J : Int) := by omega
   have J1 : (J : Int) < (m.rows.length : Int) := by omega
   generalize rowN m.rows J = r at *
   have hba := oneA16 wr (.cells #[.int .i64 r.ver,.slice AJ.ta r.txt.length AJ.tc,.slice AJ.ga r.got.length AJ.gc,.slice AJ.sa r.sus.length AJ.sc,.bool r.wed,.bool r.rdy,.int .i64 r.by_,.slice AJ.ma r.trm.length AJ.mc] 37)
   have hxr := Bx.new wr 37 #[.int .i64 r.ver,.slice AJ.ta r.txt.length AJ.tc,.slice AJ.ga r.got.length AJ.gc,.slice AJ.sa r.sus.length AJ.sc,.bool r.wed,.bool r.rdy,.int .i64 r.by_,.slice AJ.ma r.trm.length AJ.mc]
   have HBa : Hid (Below X.heap.size X (wr.alloc (.cells #[.int .i64 r.ver,.slice AJ.ta r.txt.length AJ.tc,.slice AJ.ga r.got.length AJ.gc,.slice AJ.sa r.sus.length AJ.sc,.bool r.wed,.bool r.rdy,.int .i64 r.by_,.slice AJ.ma r.trm.length AJ.mc] 37))) := HB.out.trans (hba.mono HB.out.size)
   have HXr : Hid (Bx (wr.alloc (.cells #[.int .i64 r.ver,.slice AJ.ta r.txt.length AJ.tc,.slice AJ.ga r.got.length AJ.gc,.slice AJ.sa r.sus.length AJ.sc,.bool r.wed,.bool r.rdy,.int .i64 r.by_,.slice AJ.ma r.trm.length AJ.mc] 37)) wr.heap.size 37 #[.int .i64 r.ver,.slice AJ.ta r.txt.length AJ.tc,.slice AJ.ga r.got.length AJ.gc,.slice AJ.sa r.sus.length AJ.sc,.bool r.wed,.bool r.rdy,.int .i64 r.by_,.slice AJ.ma r.trm.length AJ.mc]) := hxr
   have HSv : Hid (Vec (wr.alloc (.cells #[.int .i64 r.ver,.slice AJ.ta r.txt.length AJ.tc,.slice AJ.ga r.got.length AJ.gc,.slice AJ.sa r.sus.length AJ.sc,.bool r.wed,.bool r.rdy,.int .i64 r.by_,.slice AJ.ma r.trm.length AJ.mc] 37)) AJ.sa r.sus.length r.sus) := hrs.sus.below hba (Nat.le_refl _)
   rw [hla]
   have HLA : Hid (la = some ⟨lb,lo,none⟩) := hla
   clear hrs hb hlc hba hxr hla
   go_upto_region 5 with fail
   generalize wr.alloc (.cells #[.int .i64 r.ver,.slice AJ.ta r.txt.length AJ.tc,.slice AJ.ga r.got.length AJ.gc,.slice AJ.sa r.sus.length AJ.sc,.bool r.wed,.bool r.rdy,.int .i64 r.by_,.slice AJ.ma r.trm.length AJ.mc] 37) = W5 at *
   clear d0 d1 d2 d3 d4 d5 d6 d7 crw hlk
   have T : ∀ {x v},W5.cell? x = some v → ∀ q : Bk W5,q.w.cell? x = some v := fun h q => (q.h.cell (World.block_lt_of_cell? _ _ h)).trans h
   have x4 := HXr.out.at 4 (v := .bool r.wed) rfl
   have p3 := T (HXr.out.at 3 (v := .slice AJ.sa r.sus.length AJ.sc) rfl)
   obtain ⟨Ai,⟨⟨_,_,_,d3⟩,_⟩,hri⟩ := (HM.out.step HBa.out).row HFm.out HIl.out
   have q3 := T d3
   have CO := fun q : Bk W5 => HOw.out q.w (HBa.out.trans (q.h.mono HBa.out.size))
   have CA := fun q : Bk W5 => (ammI_any AJ.sa Ai.sa AJ.sc Ai.sc r.sus (rowN m.rows i).sus q.w (HSv.out.below q.h (Nat.le_refl _)) (hri.sus.below q.h (Nat.le_refl _)) HSl.out HSo.out).mono (fun e w' h => (⟨h.1,h.2 ▸ Below.refl _ _⟩ : e = .returned (.bool ((rowN m.rows i).sus.all (fun x => decide (x ∈ r.sus)))) ∧ Below q.w.heap.size q.w w'))
   clear hri d3
   cases hwd : r.wed with
   | false =>
    rw [hwd] at x4
    have p4 := T x4
    have HN : Hid (leadOk m.rows (rowN m.rows i) L = false) := HF.out (by rw [hwd];rfl)
    clear HT HF T x4 p3 q3 CO CA
    go_wp2_with fail
    refine wp_region_bk (by kernel_rfl) (by kernel_rfl) ?_
    repeat (go_big_quiet_step ((first | rfl)))
    refine wpQuiet_nil ?_
    intro wE hw'
    obtain ⟨⟨w11,hb11⟩,hw''⟩ := hw'
    have hwe : wE = w11 := hw''
    clear hw''
    subst hwe
    have HB1 : Hid (Below X.heap.size X wE) := HBa.out.trans (hb11.mono HBa.out.size)
    clear hb11 p4
    go_wp2
    go_ret
    exact ⟨by first | (rw [HN.out];done) | (have h := HN.out;simp only [h];done) | simp [HN.out],HB1.out⟩
   | true =>
    rw [hwd] at x4
    have p4 := T x4
    rw [hwd] at HT HF
    cases hin : (rowN m.rows i).sus.all (fun x => decide (x ∈ r.sus)) with
    | true =>
     rw [hin] at CA
     have HN : Hid _ := HT.out (by rw [hin];rfl)
     clear HT HF T x4 hin hwd
     go_wp2_with fail
     refine wp_region_bk (by kernel_rfl) (by kernel_rfl) ?_
     repeat (go_big_quiet_step ((first | (go_at_call 82;exact bk_call _ (CO _)) | (go_at_call 198;exact bk_call _ (CA _)) | rfl)))
     refine wpQuiet_nil ?_
     intro wE hw'
     obtain ⟨⟨w11,hb11⟩,hw''⟩ := hw'
     have hwe : wE = w11 := hw''
     clear hw''
     subst hwe
     have HB1 : Hid (Below X.heap.size X wE) := HBa.out.trans (hb11.mono HBa.out.size)
     clear hb11 p4 p3 q3 CO CA
     go_wp2
     go_roundw
     case rel => exact ⟨k + 1,by omega,by go_num,HN,HB1.out⟩
     case measure => simp [intOf];omega
    | false =>
     rw [hin] at CA
     have HN : Hid (leadOk m.rows (rowN m.rows i) L = false) := HF.out (by rw [hin];rfl)
     clear HT HF T x4 hin hwd
     go_wp2_with fail
     refine wp_region_bk (by kernel_rfl) (by kernel_rfl) ?_
     repeat (go_big_quiet_step ((first | (go_at_call 82;exact bk_call _ (CO _)) | (go_at_call 198;exact bk_call _ (CA _)) | rfl)))
     refine wpQuiet_nil ?_
     intro wE hw'
     obtain ⟨⟨w11,hb11⟩,hw''⟩ := hw'
     have hwe : wE = w11 := hw''
     clear hw''
     subst hwe
     have HB1 : Hid (Below X.heap.size X wE) := HBa.out.trans (hb11.mono HBa.out.size)
     clear hb11 p4 p3 q3 CO CA
     go_wp2
     go_ret
     exact ⟨by first | (rw [HN.out];done) | (have h := HN.out;simp only [h];done) | simp [HN.out],HB1.out⟩
  ·have k1 : ¬ ((k : Int) < (L.length : Int)) := by omega
   have HN : Hid (leadOk m.rows (rowN m.rows i) L = true) := by
    have := HA.out
    rw [show k = L.length by omega,List.take_length] at this
    exact this
   clear HA hb
   go_wp2
   go_ret
   exact ⟨by first | (rw [HN.out];done) | (have h := HN.out;simp only [h];done) | simp [HN.out],HB.out⟩
end Go.Proofs.YtidnfdobljihoaaGreat