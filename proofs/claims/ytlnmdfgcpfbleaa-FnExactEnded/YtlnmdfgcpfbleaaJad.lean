/-
  Texts in one: Olx Gmc Gmd Grr Gme Gmf Gmg Mbn Gmk Gml Qtl Mbg Mbd Mbh Gmh Mbl Plo Mbi Mbj Mbz Mba Ear Mbr Mbb Mbe Rns Rwo Mca Sdk Dvo Rdk Drt Rdw Rdr Rds Mci Mcj Gmi Gmj Mcc Gmm Gmn Mcg Gna Mch Rps Rnr Rtn Rhv Rhm Fns.
-/
import Derived.Test.YtlnmdfgcpfbleaaJac
import Derived.Test.YtlnmdfgcpfbleaaJab
import Derived.Test.YtlnmdfgcpfbleaaJaa
import Derived.StillTail
import Derived.Deep.Quiet
import Derived.BigQuiet
import Derived.Deep.LoopGhost
import Derived.Deep.CutRange
import Derived.Deep.Cut
import Derived.Deep.RegionHeld3
namespace Go.Proofs.Ytlnmdfgcpfbleaa
set_option linter.unusedVariables false
set_option linter.unusedSimpArgs false
open Go.RowKit Go.Sort
theorem ow_int_app {w : World} {u : Value} {T : List Int} {f : Fp} (t : Int) (h : Cel.ow w (icl T) u f) (hl : T.length ≤ 1000000) : ∃ a c,u = .slice a T.length c ∧ ∀ Y,Same Y (w.alloc (.cells #[.int .i64 t] 2)) →
  ∃ v' w4,(Builtin.append_ #[24,24] 24 #[u,.slice (some ⟨w.heap.size,0,none⟩) 1 1]).run Try.prog Y = .ok v' w4 ∧ ∃ a' c' f',v' = .slice a' (T.length + 1) c' ∧ Cel.ow w4 (icl (T ++ [t])) v' f' ∧ (∀ b,f' b → f b ∨ w.heap.size ≤ b) ∧ Wrt f w w4 := by
 obtain ⟨i0,hi0,hz0,hz1,hz2⟩ := info_parts2n Try.info2n
 have h' := h
 obtain ⟨a,c,G,rfl,ho,hf⟩ := ow_icl.1 h'
 refine ⟨a,c,rfl,fun Y hY => ?_⟩
 have hbY : Below w.heap.size w Y := (oneA16 w _).trans (hY.below.mono (oneA16 w _).size)
 obtain ⟨a',c',w4,fp',k1,k2,k3,k4⟩ := ow_push (P := Try.prog) (w := Y) 24 24 2 i0 _ 1 8 Try.underlying24 hi0 hz0 hz1 hz2 rfl (by omega) (Cel.ow_below h hbY) (owL_pl (vs := [.int .i64 t]).2 ⟨rfl,fun (b : Nat) (h : False) => h⟩ : owL Y (pl [.int .i64 t]) [.int .i64 t] (fun _ => False)) (fun _ _ h => h) rfl (by intro u hu;simp at hu;rw [hu];rfl) w.heap.size 2 (by rw [hY.heap];exact heap_alloc_new w _) (by unfold maxLen;omega) (by omega)
 refine ⟨_,w4,k1,a',c',fp',rfl, ?_,fun b hb => ?_,(Wrt.of_below (f := f) hbY).trans k3 (fun _ _ h => h)⟩
 ·have e : icl (T ++ [t]) = .sl 1 (T.length + 1) (pl (T.map (Value.int .i64)) ++ pl [.int .i64 t]) := by simp [icl,pl]
  rw [e]
  exact k2
 ·rcases k4 b hb with k | k | k
  ·exact .inl k
  ·exact k.elim
  ·exact .inr (by have := hbY.size;omega)
end Go.Proofs.Ytlnmdfgcpfbleaa
namespace Go.Proofs.Ytlnmdfgcpfbleaa
set_option linter.unusedVariables false
set_option linter.unusedSimpArgs false
open Go.RowKit Go.Sort
end Go.Proofs.Ytlnmdfgcpfbleaa
namespace Go.Proofs.Ytlnmdfgcpfbleaa
set_option linter.unusedVariables false
set_option linter.unusedSimpArgs false
open Go.RowKit Go.Sort
end Go.Proofs.Ytlnmdfgcpfbleaa
namespace Go.Proofs.Ytlnmdfgcpfbleaa
set_option linter.unusedVariables false
set_option linter.unusedSimpArgs false
open Go.RowKit Go.Sort
structure OkG (g : Gr) (n : Nat) : Prop where
 n5 : 1 ≤ n ∧ n ≤ 5
 ml : g.mem.length = n
 ul : g.up.length = n
 m200 : g.mail.length ≤ 200
 mem : ∀ i,i < n → OkM (memN g i) i n
 mails : ∀ x ∈ g.mail,∃ a b : Nat,x.fr = (a : Int) ∧ x.to = (b : Int) ∧ a < n ∧ b < n ∧ a ≠ b ∧ OkR x.row n
theorem okGr_iff {g : Gr} : okGr g = true ↔ ∃ n,OkG g n := by
 constructor
 ·intro h
  simp only [okGr,okMl,Bool.and_eq_true,decide_eq_true_eq,List.all_eq_true,List.mem_range] at h
  obtain ⟨h1,h2,h3,h4,h5,h6⟩ := h
  refine ⟨g.mem.length,⟨h1,h2⟩,rfl,h3,h4,fun i hi => ?_,fun x hx => ?_⟩
  ·obtain ⟨k1,k2,k3⟩ := h5 i hi
   obtain ⟨i',n',M⟩ := okMb_iff.1 k1
   have e1 : i' = i := by have := M.hid;omega
   have e2 : n' = g.mem.length := by have := M.hn;omega
   rw [e1,e2] at M
   exact M
  ·obtain ⟨k1,k2,k3,k4⟩ := h6 x hx
   obtain ⟨a,ea,ha⟩ := inB_nat k1
   obtain ⟨b,eb,hb⟩ := inB_nat k2
   exact ⟨a,b,ea,eb,ha,hb,fun e => k3 (by rw [ea,eb,e]),okRw_iff.1 k4⟩
 ·rintro ⟨n,G⟩
  have hn5 := G.n5
  simp only [okGr,okMl,Bool.and_eq_true,decide_eq_true_eq,List.all_eq_true,List.mem_range]
  rw [G.ml]
  refine ⟨hn5.1,hn5.2,G.ul,G.m200,fun i hi => ⟨okMb_iff.2 ⟨i,n,G.mem i hi⟩,(G.mem i hi).hid,(G.mem i hi).hn⟩,fun x hx => ?_⟩
  obtain ⟨a,b,h1,h2,h3,h4,h5,h6⟩ := G.mails x hx
  exact ⟨inB7.2 (by rw [h1];omega),inB7.2 (by rw [h2];omega),by rw [h1,h2];omega,okRw_iff.2 h6⟩
end Go.Proofs.Ytlnmdfgcpfbleaa
namespace Go.Proofs.Ytlnmdfgcpfbleaa
set_option linter.unusedVariables false
set_option linter.unusedSimpArgs false
open Go.RowKit Go.Sort
def oneMb (g : Gr) (k : Nat) : Bool := okMb (memN g k) && (decide ((memN g k).id = (k : Int)) && decide ((memN g k).n = (g.mem.length : Int)))
theorem okGr_1 {g : Gr} (h : ¬ 1 ≤ g.mem.length) : okGr g = false := by simp only [okGr,decide_eq_false h,Bool.false_and]
theorem okGr_2 {g : Gr} (h : ¬ g.mem.length ≤ 5) : okGr g = false := by simp only [okGr,decide_eq_false h,Bool.false_and,Bool.and_false]
theorem okGr_3 {g : Gr} (h : ¬ g.up.length = g.mem.length) : okGr g = false := by simp only [okGr,decide_eq_false h,Bool.false_and,Bool.and_false]
theorem okGr_4 {g : Gr} (h : ¬ g.mail.length ≤ 200) : okGr g = false := by simp only [okGr,decide_eq_false h,Bool.false_and,Bool.and_false]
theorem okGr_5 {g : Gr} {k : Nat} (hk : k < g.mem.length) (h : oneMb g k = false) : okGr g = false := by
 have : (List.range g.mem.length).all (fun i => okMb (memN g i) && (decide ((memN g i).id = (i : Int)) && decide ((memN g i).n = (g.mem.length : Int)))) = false := by
  rw [List.all_eq_false]
  exact ⟨k,List.mem_range.2 hk,by rw [show (okMb (memN g k) && (decide ((memN g k).id = (k : Int)) && decide ((memN g k).n = (g.mem.length : Int)))) = oneMb g k from rfl,h];simp⟩
 simp only [okGr,this,Bool.false_and,Bool.and_false]
theorem okGr_6 {g : Gr} {k : Nat} (hk : k < g.mail.length) (h : okMl (mailN g k) (g.mem.length : Int) = false) : okGr g = false := by
 have : g.mail.all (fun x => okMl x (g.mem.length : Int)) = false := by
  rw [List.all_eq_false]
  exact ⟨mailN g k,List.mem_of_getElem? (mailN_at hk),by simp [h]⟩
 simp only [okGr,this,Bool.false_and,Bool.and_false]
theorem okGr_yes {g : Gr} (h1 : 1 ≤ g.mem.length) (h2 : g.mem.length ≤ 5) (h3 : g.up.length = g.mem.length) (h4 : g.mail.length ≤ 200) (h5 : ∀ k,k < g.mem.length → oneMb g k = true) (h6 : ∀ k,k < g.mail.length → okMl (mailN g k) (g.mem.length : Int) = true) : okGr g = true := by
 have e5 : (List.range g.mem.length).all (fun i => okMb (memN g i) && (decide ((memN g i).id = (i : Int)) && decide ((memN g i).n = (g.mem.length : Int)))) = true := by
  rw [List.all_eq_true]
  intro k hk
  exact h5 k (List.mem_range.1 hk)
 have e6 : g.mail.all (fun x => okMl x (g.mem.length : Int)) = true := by
  rw [List.all_eq_true]
  intro x hx
  obtain ⟨j,hj,rfl⟩ := List.mem_iff_getElem.1 hx
  have := h6 j hj
  simpa [mailN,List.getD,hj] using this
 simp only [okGr,h1,h2,h3,h4,e5,e6,decide_true,Bool.true_and]
end Go.Proofs.Ytlnmdfgcpfbleaa
namespace Go.Proofs.Ytlnmdfgcpfbleaa
set_option linter.unusedVariables false
set_option linter.unusedSimpArgs false
open Go.RowKit Go.Sort
theorem Bx.g3 {w : World} {B : Nat} {T : TypeId} {x0 x1 x2 : Value} (h : Bx w B T #[x0,x1,x2]) : w.cell? ⟨B,0,none⟩ = some x0 ∧ w.cell? ⟨B,1,none⟩ = some x1 ∧ w.cell? ⟨B,2,none⟩ = some x2 :=
 ⟨h.at 0 rfl,h.at 1 rfl,h.at 2 rfl⟩
theorem Bx.r10 {w : World} {B : Nat} {T : TypeId} {x0 x1 x2 x3 x4 x5 x6 x7 x8 x9 : Value} (h : Bx w B T #[x0,x1,x2,x3,x4,x5,x6,x7,x8,x9]) : (w.cell? ⟨B,0,none⟩ = some x0 ∧ w.cell? ⟨B,1,none⟩ = some x1) ∧ (w.cell? ⟨B,2,none⟩ = some x2 ∧ w.cell? ⟨B,3,none⟩ = some x3 ∧ w.cell? ⟨B,4,none⟩ = some x4 ∧ w.cell? ⟨B,5,none⟩ = some x5) ∧ w.cell? ⟨B,6,none⟩ = some x6 ∧ w.cell? ⟨B,7,none⟩ = some x7 ∧ w.cell? ⟨B,8,none⟩ = some x8 ∧ w.cell? ⟨B,9,none⟩ = some x9 :=
 ⟨⟨h.at 0 rfl,h.at 1 rfl⟩,⟨h.at 2 rfl,h.at 3 rfl,h.at 4 rfl,h.at 5 rfl⟩,h.at 6 rfl,h.at 7 rfl,h.at 8 rfl,h.at 9 rfl⟩
set_option maxRecDepth 100000 in
set_option maxHeartbeats 3200000 in
theorem grkS_any (A : Ga) (g : Gr) (w : World) (hv : GrS w A g) :
  Calls Try.prog 93 #[grV A g] w fun e w' => e = .returned (.bool (okGr g)) ∧ Below w.heap.size w w' := by
 have hB0 := oneA16 w (.cells (grC A g) 61)
 have hx := Bx.new w 61 (grC A g)
 have h0 := hv.below hB0
 generalize hW : w.alloc (.cells (grC A g) 61) = W at *
 obtain ⟨mem,up,mail⟩ := g
 obtain ⟨ma,mc,ua,uc,la,lc⟩ := A
 have hw0 : w.alloc (.cells #[.slice ma mem.length mc,.slice ua up.length uc,.slice la mail.length lc] 61) = W := hW
 obtain ⟨c0,c1,c2⟩ := Bx.g3 hx
 have HX : Hid (Bx W w.heap.size 61 #[.slice ma mem.length mc,.slice ua up.length uc,.slice la mail.length lc]) := hx
 have HV : Hid (GrS W ⟨ma,mc,ua,uc,la,lc⟩ ⟨mem,up,mail⟩) := h0
 have lm := h0.lm
 have lu := h0.lu
 have ll := h0.ll
 simp only at lm lu ll c0 c1 c2
 unfold maxLen at lm lu ll
 have HB0 : Hid (Below w.heap.size w W) := hB0
 unfold grV grC
 clear hv hx hW hB0 h0
 simp only
 by_cases h1 : 1 ≤ mem.length
 rotate_left
 ·have gn : (mem.length : Int) < 1 := by omega
  have HZ : Hid (okGr ⟨mem,up,mail⟩ = false) := okGr_1 (g := ⟨mem,up,mail⟩) h1
  go_enter Try.func93,Try.ntmps93
  go_wp2
  go_ret
  exact ⟨ret_bool (by rw [HZ.out]),HB0.out⟩
 have g1 : ¬ ((mem.length : Int) < 1) := by omega
 by_cases h2 : mem.length ≤ 5
 rotate_left
 ·have gn : (5 : Int) < (mem.length : Int) := by omega
  have HZ : Hid (okGr ⟨mem,up,mail⟩ = false) := okGr_2 (g := ⟨mem,up,mail⟩) h2
  go_enter Try.func93,Try.ntmps93
  go_wp2
  go_ret
  exact ⟨ret_bool (by rw [HZ.out]),HB0.out⟩
 have g2 : ¬ ((5 : Int) < (mem.length : Int)) := by omega
 by_cases h3 : up.length = mem.length
 rotate_left
 ·have gn : ((up.length : Int) != (mem.length : Int)) = true := by simp;omega
  have HZ : Hid (okGr ⟨mem,up,mail⟩ = false) := okGr_3 (g := ⟨mem,up,mail⟩) h3
  clear h3
  go_enter Try.func93,Try.ntmps93
  go_wp2
  go_ret
  exact ⟨ret_bool (by rw [HZ.out]),HB0.out⟩
 have g3 : ((up.length : Int) != (mem.length : Int)) = false := by simp;omega
 have HE3 : Hid (up.length = mem.length) := h3
 clear h3
 by_cases h4 : mail.length ≤ 200
 rotate_left
 ·have gn : (200 : Int) < (mail.length : Int) := by omega
  have HZ : Hid (okGr ⟨mem,up,mail⟩ = false) := okGr_4 (g := ⟨mem,up,mail⟩) h4
  go_enter Try.func93,Try.ntmps93
  go_wp2
  go_ret
  exact ⟨ret_bool (by rw [HZ.out]),HB0.out⟩
 have g4 : ¬ ((200 : Int) < (mail.length : Int)) := by omega
 go_enter Try.func93,Try.ntmps93
 go_wp2
 clear hw0 g1 g2 g3 g4 c0 c1 c2
 go_loopw [4] (fun i wr => ∃ k : Nat,k ≤ mem.length ∧ i = .int .i64 k ∧ (∀ j,j < k → oneMb ⟨mem,up,mail⟩ j = true) ∧ Below W.heap.size W wr) (fun i _ => mem.length - (intOf i).toNat)
 case atStart => exact ⟨0,Nat.zero_le _,rfl,fun j hj => by omega,Below.refl _ _⟩
 case round =>
  obtain ⟨k,hk,rfl,hall,hgr⟩ := hrel
  have HA : Hid (∀ j,j < k → oneMb ⟨mem,up,mail⟩ j = true) := hall
  have HG : Hid (Below W.heap.size W wr) := hgr
  obtain ⟨c0,c1,c2⟩ := Bx.g3 (HX.out.below hgr)
  clear hall
  by_cases hlt : k < mem.length
  ·have k1 : (k : Int) < (mem.length : Int) := by omega
   have k0 : (0 : Int) ≤ (k : Int) := by omega
   obtain ⟨b,off,Ak,hma,⟨d0,d1,d2,d3,d4⟩,hms⟩ := (HV.out.below hgr).member (k := k) hlt
   simp only at hma d0 d1 d2 d3 d4
   have HY : Hid (oneMb ⟨mem,up,mail⟩ k = true → ∀ j,j < k + 1 → oneMb ⟨mem,up,mail⟩ j = true) := fun h1 j hj => by
    rcases Nat.lt_succ_iff_lt_or_eq.1 hj with h | h
    ·exact HA.out j h
    ·rw [h];exact h1
   have HNo : Hid (oneMb ⟨mem,up,mail⟩ k = false → okGr ⟨mem,up,mail⟩ = false) := fun h => okGr_5 (g := ⟨mem,up,mail⟩) hlt h
   have HOne : Hid (oneMb ⟨mem,up,mail⟩ k = (okMb (memN ⟨mem,up,mail⟩ k) && (decide ((memN ⟨mem,up,mail⟩ k).id = (k : Int)) && decide ((memN ⟨mem,up,mail⟩ k).n = (mem.length : Int))))) := rfl
   generalize oneMb ⟨mem,up,mail⟩ k = on at *
   generalize memN ⟨mem,up,mail⟩ k = m at *
   have hM : ∀ X,Below wr.heap.size wr X → Calls Try.prog 124 #[mbV Ak m] X fun e w' => e = .returned (.bool (okMb m)) ∧ Below X.heap.size X w' := fun X h => mbkS_any Ak m X (hms.below h)
   have hwn := oneA16 wr (.cells (mbC Ak m) 103)
   have hxn := Bx.new wr 103 (mbC Ak m)
   subst hma
   clear hms hgr
   generalize okMb m = ob at *
   obtain ⟨id,n,rows,sung,done⟩ := m
   obtain ⟨ra,rc,sa,sc⟩ := Ak
   simp only [mbV,mbC] at d0 d1 d2 d3 d4 hM hwn hxn HOne
   generalize hWn : wr.alloc (.cells #[.int .i64 id,.int .i64 n,.slice ra rows.length rc,.slice sa sung.length sc,.bool done] 103) = Wn at *
   have hMn := hM Wn hwn
   have HGn : Hid (Below W.heap.size W Wn) := HG.out.trans (hwn.mono HG.out.size)
   have HXn : Hid (Bx Wn wr.heap.size 103 #[.int .i64 id,.int .i64 n,.slice ra rows.length rc,.slice sa sung.length sc,.bool done]) := hxn
   obtain ⟨e0,e1,e2,e3,e4⟩ := Bx.r5 hxn
   clear hM hwn hxn
   have HB1 : Hid (∀ X,Below W.heap.size W X → Below w.heap.size w X) := fun X h => HB0.out.trans (h.mono HB0.out.size)
   cases ob with
   | false =>
    have HZ : Hid (okGr ⟨mem,up,mail⟩ = false) := HNo.out (by rw [HOne.out];rfl)
    go_wp2_with (go_at_call 124;refine hMn.mono ?_;rintro e w1 ⟨rfl,hb1⟩;have HG1 : Hid (Below W.heap.size W w1) := (HGn.out.trans (hb1.mono HGn.out.size));clear e0 e1 e2 e3 e4;obtain ⟨e0,e1,e2,e3,e4⟩ := Bx.r5 (HXn.out.below hb1);clear hb1)
    go_ret
    exact ⟨ret_bool (by rw [HZ.out]),HB1.out _ HG1.out⟩
   | true =>
   by_cases hid : id = (k : Int)
   rotate_left
   ·have gid : (id != (k : Int)) = true := by simpa using hid
    have HZ : Hid (okGr ⟨mem,up,mail⟩ = false) := HNo.out (by rw [HOne.out,decide_eq_false hid];rfl)
    clear hid
    go_wp2_with (go_at_call 124;refine hMn.mono ?_;rintro e w1 ⟨rfl,hb1⟩;have HG1 : Hid (Below W.heap.size W w1) := (HGn.out.trans (hb1.mono HGn.out.size));clear e0 e1 e2 e3 e4;obtain ⟨e0,e1,e2,e3,e4⟩ := Bx.r5 (HXn.out.below hb1);clear hb1)
    go_ret
    exact ⟨ret_bool (by rw [HZ.out]),HB1.out _ HG1.out⟩
   have gid : (id != (k : Int)) = false := by simpa using hid
   by_cases hn : n = (mem.length : Int)
   rotate_left
   ·have gn : (n != (mem.length : Int)) = true := by simpa using hn
    have HZ : Hid (okGr ⟨mem,up,mail⟩ = false) := HNo.out (by rw [HOne.out,decide_eq_false hn];simp)
    clear hn hid
    go_wp2_with (go_at_call 124;refine hMn.mono ?_;rintro e w1 ⟨rfl,hb1⟩;have HG1 : Hid (Below W.heap.size W w1) := (HGn.out.trans (hb1.mono HGn.out.size));clear e0 e1 e2 e3 e4;obtain ⟨e0,e1,e2,e3,e4⟩ := Bx.r5 (HXn.out.below hb1);clear hb1)
    go_ret
    exact ⟨ret_bool (by rw [HZ.out]),HB1.out _ HG1.out⟩
   have gn : (n != (mem.length : Int)) = false := by simpa using hn
   have HN : Hid (∀ j,j < k + 1 → oneMb ⟨mem,up,mail⟩ j = true) := HY.out (by rw [HOne.out,decide_eq_true hid,decide_eq_true hn];rfl)
   clear hid hn
   go_wp2_with (go_at_call 124;refine hMn.mono ?_;rintro e w1 ⟨rfl,hb1⟩;have HG1 : Hid (Below W.heap.size W w1) := (HGn.out.trans (hb1.mono HGn.out.size));clear e0 e1 e2 e3 e4;obtain ⟨e0,e1,e2,e3,e4⟩ := Bx.r5 (HXn.out.below hb1);clear hb1)
   go_roundw
   case rel => exact ⟨k + 1,by omega,by go_num,HN.out,HG1.out⟩
   case measure => simp [intOf];omega
  ·have k1 : ¬ ((k : Int) < (mem.length : Int)) := by omega
   have HAll : Hid (∀ j,j < mem.length → oneMb ⟨mem,up,mail⟩ j = true) := fun j hj => HA.out j (by omega)
   have hwn : wrap64 ((mem.length : Int) - 1) = (mem.length : Int) - 1 := by unfold wrap64;omega
   clear HA hgr
   go_wp2
   clear c0 c1 c2
   generalize wr = V at *
   go_loopw [6] (fun i wr => ∃ k : Nat,k ≤ mail.length ∧ i = .int .i64 k ∧ (∀ j,j < k → okMl (mailN ⟨mem,up,mail⟩ j) (mem.length : Int) = true) ∧ Below W.heap.size W wr) (fun i _ => mail.length - (intOf i).toNat)
   case atStart => exact ⟨0,Nat.zero_le _,rfl,fun j hj => by omega,HG.out⟩
   case round =>
    obtain ⟨q,hq,rfl,hall,hgr⟩ := hrel
    have HA : Hid (∀ j,j < q → okMl (mailN ⟨mem,up,mail⟩ j) (mem.length : Int) = true) := hall
    have HG2 : Hid (Below W.heap.size W wr) := hgr
    obtain ⟨c0,c1,c2⟩ := Bx.g3 (HX.out.below hgr)
    clear hall
    have HB1 : Hid (∀ X,Below W.heap.size W X → Below w.heap.size w X) := fun X h => HB0.out.trans (h.mono HB0.out.size)
    by_cases hlq : q < mail.length
    ·have q1 : (q : Int) < (mail.length : Int) := by omega
     have q0 : (0 : Int) ≤ (q : Int) := by omega
     obtain ⟨b,off,Ak,hla,d0,d1,⟨⟨d2,d3,d4,d5⟩,d6,d7,d8,d9⟩,hrs⟩ := (HV.out.below hgr).letter (k := q) hlq
     simp only at hla d0 d1 d2 d3 d4 d5 d6 d7 d8 d9
     rw [Nat.add_assoc] at d3 d4 d5 d6 d7 d8 d9
     have HY : Hid (okMl (mailN ⟨mem,up,mail⟩ q) (mem.length : Int) = true → ∀ j,j < q + 1 → okMl (mailN ⟨mem,up,mail⟩ j) (mem.length : Int) = true) := fun h1 j hj => by
      rcases Nat.lt_succ_iff_lt_or_eq.1 hj with h | h
      ·exact HA.out j h
      ·rw [h];exact h1
     have HNo : Hid (okMl (mailN ⟨mem,up,mail⟩ q) (mem.length : Int) = false → okGr ⟨mem,up,mail⟩ = false) := fun h => okGr_6 (g := ⟨mem,up,mail⟩) hlq h
     generalize mailN ⟨mem,up,mail⟩ q = x at *
     obtain ⟨fr,tt,r⟩ := x
     have HOne : Hid (okMl ⟨fr,tt,r⟩ (mem.length : Int) = (inB fr 0 ((mem.length : Int) - 1) && (inB tt 0 ((mem.length : Int) - 1) && (decide (fr ≠ tt) && okRw r (mem.length : Int))))) := rfl
     generalize okMl ⟨fr,tt,r⟩ (mem.length : Int) = on at *
     have hR : ∀ X,Below wr.heap.size wr X → Calls Try.prog 36 #[rwV Ak r,.int .i64 (mem.length : Int)] X fun e w' => e = .returned (.bool (okRw r (mem.length : Int))) ∧ Below X.heap.size X w' := fun X h => rowS_any Ak r _ X (hrs.below h)
     have hwN := oneA16 wr (.cells #[.int .i64 fr,.int .i64 tt,.int .i64 r.ver,.slice Ak.ta r.txt.length Ak.tc,.slice Ak.ga r.got.length Ak.gc,.slice Ak.sa r.sus.length Ak.sc,.bool r.wed,.bool r.rdy,.int .i64 r.by_,.slice Ak.ma r.trm.length Ak.mc] 139)
     have hxn := Bx.new wr 139 #[.int .i64 fr,.int .i64 tt,.int .i64 r.ver,.slice Ak.ta r.txt.length Ak.tc,.slice Ak.ga r.got.length Ak.gc,.slice Ak.sa r.sus.length Ak.sc,.bool r.wed,.bool r.rdy,.int .i64 r.by_,.slice Ak.ma r.trm.length Ak.mc]
     subst hla
     clear hrs hgr
     generalize okRw r (mem.length : Int) = ob at *
     obtain ⟨ver,txt,got,sus,wed,rdy,by_,trm⟩ := r
     obtain ⟨ta,tc,ga,gc,sa,sc,na,nc⟩ := Ak
     simp only [rwV,rwC] at d0 d1 d2 d3 d4 d5 d6 d7 d8 d9 hR hwN hxn
     generalize hWn : wr.alloc (.cells #[.int .i64 fr,.int .i64 tt,.int .i64 ver,.slice ta txt.length tc,.slice ga got.length gc,.slice sa sus.length sc,.bool wed,.bool rdy,.int .i64 by_,.slice na trm.length nc] 139) = Wn at *
     have hRn := hR Wn hwN
     have HGn : Hid (Below W.heap.size W Wn) := HG2.out.trans (hwN.mono HG2.out.size)
     obtain ⟨⟨e0,e1⟩,⟨e2,e3,e4,e5⟩,e6,e7,e8,e9⟩ := Bx.r10 hxn
     clear hR hwN hxn
     cases p1 : inB fr 0 ((mem.length : Int) - 1) with
     | false =>
      have HZ : Hid (okGr ⟨mem,up,mail⟩ = false) := HNo.out (by rw [HOne.out,p1];rfl)
      go_wp2_with (go_at_call 73;refine (l1In_any _ _ _ _).mono ?_;rintro e w' ⟨rfl,hw'⟩;rw [hw'];clear hw')
      go_ret
      exact ⟨ret_bool (by rw [HZ.out]),HB1.out _ HGn.out⟩
     | true =>
     cases p2 : inB tt 0 ((mem.length : Int) - 1) with
     | false =>
      have HZ : Hid (okGr ⟨mem,up,mail⟩ = false) := HNo.out (by rw [HOne.out,p2];simp)
      go_wp2_with (go_at_call 73;refine (l1In_any _ _ _ _).mono ?_;rintro e w' ⟨rfl,hw'⟩;rw [hw'];clear hw')
      go_ret
      exact ⟨ret_bool (by rw [HZ.out]),HB1.out _ HGn.out⟩
     | true =>
     by_cases p3 : fr = tt
     ·have g3 : (fr == tt) = true := by simpa using p3
      have HZ : Hid (okGr ⟨mem,up,mail⟩ = false) := HNo.out (by rw [HOne.out,decide_eq_false (fun h => h p3)];simp)
      clear p3
      go_wp2_with (go_at_call 73;refine (l1In_any _ _ _ _).mono ?_;rintro e w' ⟨rfl,hw'⟩;rw [hw'];clear hw')
      go_ret
      exact ⟨ret_bool (by rw [HZ.out]),HB1.out _ HGn.out⟩
     have g3 : (fr == tt) = false := by simpa using p3
     have HO2 : Hid (on = ob) := by rw [Hid,HOne.out,p1,p2,decide_eq_true p3];rfl
     clear p3
     cases ob with
     | false =>
      have HZ : Hid (okGr ⟨mem,up,mail⟩ = false) := HNo.out HO2.out
      go_wp2_with (first | (go_at_call 73;refine (l1In_any _ _ _ _).mono ?_;rintro e w' ⟨rfl,hw'⟩;rw [hw'];clear hw') | (go_at_call 36;refine hRn.mono ?_;rintro e w1 ⟨rfl,hb1⟩;have HG1 : Hid (Below W.heap.size W w1) := (HGn.out.trans (hb1.mono HGn.out.size));clear hb1))
      go_ret
      exact ⟨ret_bool (by rw [HZ.out]),HB1.out _ HG1.out⟩
     | true =>
      have HN : Hid (∀ j,j < q + 1 → okMl (mailN ⟨mem,up,mail⟩ j) (mem.length : Int) = true) := HY.out HO2.out
      go_wp2_with (first | (go_at_call 73;refine (l1In_any _ _ _ _).mono ?_;rintro e w' ⟨rfl,hw'⟩;rw [hw'];clear hw') | (go_at_call 36;refine hRn.mono ?_;rintro e w1 ⟨rfl,hb1⟩;have HG1 : Hid (Below W.heap.size W w1) := (HGn.out.trans (hb1.mono HGn.out.size));clear hb1))
      go_roundw
      case rel => exact ⟨q + 1,by omega,by go_num,HN.out,HG1.out⟩
      case measure => simp [intOf];omega
    ·have q1 : ¬ ((q : Int) < (mail.length : Int)) := by omega
     have HZ : Hid (okGr ⟨mem,up,mail⟩ = true) := okGr_yes (g := ⟨mem,up,mail⟩) h1 h2 HE3.out h4 HAll.out (fun j hj => HA.out j (by simp only at hj;omega))
     go_wp2
     go_ret
     exact ⟨ret_bool (by rw [HZ.out]),HB1.out _ HG2.out⟩
end Go.Proofs.Ytlnmdfgcpfbleaa
namespace Go.Proofs.Ytlnmdfgcpfbleaa
set_option linter.unusedVariables false
set_option linter.unusedSimpArgs false
open Go.RowKit Go.Sort
def mlC (x : Ml) (A : Ra) : Array Value := #[.int .i64 x.fr,.int .i64 x.to,.int .i64 x.row.ver,.slice A.ta x.row.txt.length A.tc,.slice A.ga x.row.got.length A.gc,.slice A.sa x.row.sus.length A.sc,.bool x.row.wed,.bool x.row.rdy,.int .i64 x.row.by_,.slice A.ma x.row.trm.length A.mc]
theorem ow_ml10 {w : World} {A : Ra} {x : Ml} {f : Fp} (h : owL w (rwCels x.row) (rwVals A x.row) f) : owL w (ml10 x) (mlC x A).toList f := owL_v (owL_v (ow_rw8 h))
end Go.Proofs.Ytlnmdfgcpfbleaa
namespace Go.Proofs.Ytlnmdfgcpfbleaa
set_option linter.unusedVariables false
set_option linter.unusedSimpArgs false
open Go.RowKit Go.Sort
end Go.Proofs.Ytlnmdfgcpfbleaa
namespace Go.Proofs.Ytlnmdfgcpfbleaa
set_option linter.unusedVariables false
set_option linter.unusedSimpArgs false
open Go.RowKit Go.Sort
def bo1 (b : Bool) : List Cel := [.v (.bool b)]
theorem ocl_lcl (L : List Bool) : ocl L = lcl 1 bo1 L := by
 unfold ocl lcl
 congr 1
 induction L with
 | nil => rfl
 | cons b L ih =>
  rw [List.flatMap_cons,← ih]
  rfl
def AnsGr (w w' : World) (e : Ending) (g : Gr) : Prop := ∃ A : Ga,e = .returned (grV A g) ∧ NewL w w' (gr3 g) (grVals A g)
theorem wrtG3 (w : World) (g : Nat) {a b c : Value} : Wrt (fun x => x = g) w (((w.setCell ⟨g,0,none⟩ a).setCell ⟨g,1,none⟩ b).setCell ⟨g,2,none⟩ c) :=
 ((Wrt.set w g 0 a).trans (Wrt.set _ g 1 b) (fun _ _ h => h)).trans (Wrt.set _ g 2 c) (fun _ _ h => h)
theorem Bx.f3 {w : World} {B : Nat} {T : TypeId} {cs : Array Value} (h : Bx w B T cs) : w.frozen? ⟨B,0,none⟩ = false ∧ w.frozen? ⟨B,1,none⟩ = false ∧ w.frozen? ⟨B,2,none⟩ = false := ⟨h.f 0,h.f 1,h.f 2⟩
end Go.Proofs.Ytlnmdfgcpfbleaa
namespace Go.Proofs.Ytlnmdfgcpfbleaa
set_option linter.unusedVariables false
set_option linter.unusedSimpArgs false
open Go.RowKit Go.Sort
end Go.Proofs.Ytlnmdfgcpfbleaa
namespace Go.Proofs.Ytlnmdfgcpfbleaa
set_option linter.unusedSimpArgs false
set_option linter.unusedVariables false
open Go.RowKit Go.Sort
section
variable {P : Program} {ops : Array Oper} {md : Region.Mode} {C : World → Prop}
def HeadQ (P : Program) (md : Region.Mode) (ops : Array Oper) (C : World → Prop) (n : Nat) (L : Array Bool → Act → Prop) : Nat → Array Bool → Act → Prop
 | 0,listed,a => L listed a
 | f + 1,listed,a => Region.ready md ops listed ≠ [] ∧ ∀ i ∈ Region.ready md ops listed,i < n ∧ qOp P ops C i (HeadQ P md ops C n L f (listed.setIfInBounds i true)) a
theorem any_of_headQ {n g : Nat} {L : Array Bool → Act → Prop} {Q : Exit → Act → World → Prop} (hL : ∀ listed a w,C w → L listed a → wpAny P md ops Q g listed a w) (f : Nat) :
  ∀ (listed : Array Bool) (a : Act) (w : World),C w → HeadQ P md ops C n L f listed a → wpAny P md ops Q (f + g) listed a w := by
 induction f with
 | zero => intro listed a w hw h;rw [Nat.zero_add];exact hL _ _ _ hw h
 | succ f ih =>
  intro listed a w hw h
  rw [show f + 1 + g = (f + g) + 1 by omega]
  exact ⟨fun h0 => absurd h0 h.1,fun i hi => wpOp_of_qOp hw (fun a' w' hw' h' => ih _ a' w' hw' h') (h.2 i hi).2⟩
theorem headQ_first {n i : Nat} {oi : Oper} {v : Value} {L : Array Bool → Act → Prop} (hi : ops[i]? = some oi) (hsel : ∀ (j : Nat) (o : Oper) cs b,ops[j]? = some o → o.op ≠ .select cs b)
  (hs : Region.sinkB md ops n = true) (hc : Region.chainB md ops n = true) (hn : n < ops.size) (hin : i < n) (hdone : ∀ listed a,L listed a → ∀ j ∈ Region.ready md ops listed,n ≤ j) (f : Nat) :
  ∀ (listed : Array Bool) (a : Act),HeadInv md ops n listed →
   (∀ j oj,ops[j]? = some oj → j ≠ i → listed.getD j true = false → (∀ e ∈ oj.after,Region.binds md e = true → e.on ≠ i) → oi.apart ops oj = true) →
   i ∈ Region.ready md ops listed → YieldsIn P ops C oi v a →
   HeadQ P md ops C n L f (listed.setIfInBounds i true) (a.put oi.dst v) → HeadQ P md ops C n L (f + 1) listed a := by
 induction f with
 | zero =>
  intro listed a inv _ hr hy H
  have hun := (mem_ready.1 hr).1
  refine ⟨fun h => (by rw [h] at hr;cases hr),fun j hj => ?_⟩
  have hjn : j < n := Nat.lt_of_not_le fun h => absurd hj (tail_waits hs hc hn inv _ i rfl hin hun j h)
  refine ⟨hjn, ?_⟩
  by_cases hji : j = i
  ·subst hji;exact hy.qOp hi H
  ·have := hdone _ _ H j (ready_mono hj hji)
   omega
 | succ f ih =>
  intro listed a inv hfree hr hy H
  have hun := (mem_ready.1 hr).1
  refine ⟨fun h => (by rw [h] at hr;cases hr),fun j hj => ?_⟩
  have hjn : j < n := Nat.lt_of_not_le fun h => absurd hj (tail_waits hs hc hn inv _ i rfl hin hun j h)
  refine ⟨hjn, ?_⟩
  by_cases hji : j = i
  ·subst hji;exact hy.qOp hi H
  ·have h1 := (H.2 j (ready_mono hj hji)).2
   obtain ⟨hjun,oj,hoj,hall⟩ := mem_ready.1 hj
   have hnot : ∀ e ∈ oj.after,Region.binds md e = true → e.on ≠ i := fun e he hb heq => by
    have h3 := hall e he hb
    rw [heq,getD_both hun] at h3
    cases h3
   have h2 := qOp_put hoj (hfree j oj hoj hji hjun hnot) (fun cs b => hsel i oi cs b hi) (fun cs b => hsel j oj cs b hoj) hy h1
   refine qOp_mono (fun a' h3 => ih (listed.setIfInBounds j true) a' (inv.set hj hjn) (fun k ok hk hki hu hno => hfree k ok hk hki ?_ hno) (ready_mono hr (Ne.symm hji)) h3.1 ?_) h2
   ·by_cases hjk : j = k
    ·subst hjk;exact hjun
    ·rw [getD_set_ne true hjk] at hu;exact hu
   ·rw [Array.setIfInBounds_comm _ _ hji]
    exact h3.2
theorem headQ_lex {n g : Nat} {Lq : Act → Prop} (hsel : Region.noSelect ops = true) (hs : Region.sinkB md ops n = true) (hc : Region.chainB md ops n = true) (hn : n < ops.size) :
  ∀ (l : List Oper) (k : Nat) (listed : Array Bool) (a : Act),(∀ j,j < l.length → l[j]? = ops[k + j]?) → k + l.length = n → HeadInv md ops n listed →
  Region.lexHead md ops g l.length k listed = true → wpQuiet P ops C Lq l a → HeadQ P md ops C n (fun listed' a' => Region.seqB md ops g n listed' = true ∧ Lq a') l.length listed a
 | [],k,listed,a,_,hk,_,hB,h => by
  have : k = n := by simpa using hk
  subst this
  exact ⟨by simpa [Region.lexHead] using hB,h⟩
 | o :: l,k,listed,a,hl,hk,inv,hB,h => by
  have h0 : ops[k]? = some o := by simpa using (hl 0 (by simp)).symm
  simp only [List.length_cons,Region.lexHead,Bool.and_eq_true] at hB
  obtain ⟨⟨hr,hf⟩,hB'⟩ := hB
  have hkn : k < n := by simp only [List.length_cons] at hk;omega
  have hr' : k ∈ Region.ready md ops listed := by simpa using hr
  have hst : qOp P ops C k (wpQuiet P ops C Lq l) a := by unfold qOp;simp only [h0];exact h
  obtain ⟨v,hy,hK⟩ := yieldsIn_of_qOp h0 hst
  exact headQ_first h0 (Region.noSelect_spec hsel) hs hc hn hkn (fun listed' a' hL => seqB_ready hL.1) l.length listed a inv (Region.free_spec h0 hf) hr' hy
   (headQ_lex hsel hs hc hn l (k + 1) _ _ (fun j hj => by have := hl (j + 1) (by simp;omega);simpa [Nat.add_assoc,Nat.add_comm 1 j] using this) (by simp only [List.length_cons] at hk;omega) (inv.set hr' hkn) hB' hK)
end
theorem wp_region_quiet_tail {P : Program} {C : World → Prop} {id : Nat} {Q : Exit → Act → World → Prop} {a : Act} {w : World} {l : List Oper} (n : Nat) (hm : P.follows .mixedOrders = true) (hB : Region.lexTailB .any l.toArray n = true) (hC : C (w.drewN 1))
    (h : wpQuiet P l.toArray C (fun a' => ∀ w', C w' → wpList P l.toArray Q (l.drop n) a' w') (l.take n) a) : (Code.region id l.toArray true).wp P Q a w := by
  simp only [Region.lexTailB, Bool.and_eq_true, decide_eq_true_eq] at hB
  obtain ⟨⟨⟨⟨hsel, hn⟩, hs⟩, hc⟩, hlex⟩ := hB
  have htl : (l.take n).length = n := by have : n < l.length := by simpa using hn
                                         simp; omega
  have hdl : (l.drop n).length = l.toArray.size - n := by simp
  have inv0 : HeadInv .any l.toArray n (Array.replicate l.toArray.size false) :=
    ⟨by simp, fun j oj _ hl => (by rw [getD_replicate_false] at hl; cases hl), fun t _ ht => getD_in (by simpa using ht) (getD_replicate_false _ _)⟩
  have H := headQ_lex (md := .any) (g := l.toArray.size - n) hsel hs hc hn (l.take n) 0 _ a (fun j hj => by
    have hj' : j < n := by rw [htl] at hj; exact hj
    simp [hj']) (by simpa using htl) inv0 (by rw [htl]; exact hlex) h
  refine wp_region_any hm ?_
  have := any_of_headQ (C := C) (Q := Q) (g := l.toArray.size - n) (fun listed a' w' hw' hL => by
    have := wpAny_of_seq (md := .any) (Q' := Q) (l.drop n) n listed a' w' (fun j => by simp [List.getElem?_drop]) (by rw [hdl]; exact hL.1) (hL.2 w' hw')
    rwa [hdl] at this) _ _ _ (w.drewN 1) hC H
  rw [htl, show n + (l.toArray.size - n) = l.toArray.size by have : n < l.toArray.size := hn; omega] at this
  exact this
end Go.Proofs.Ytlnmdfgcpfbleaa
namespace Go.Proofs.Ytlnmdfgcpfbleaa
set_option linter.unusedVariables false
set_option linter.unusedSimpArgs false
open Go.RowKit Go.Sort
attribute [local irreducible] sv
end Go.Proofs.Ytlnmdfgcpfbleaa
namespace Go.Proofs.Ytlnmdfgcpfbleaa
set_option linter.unusedVariables false
set_option linter.unusedSimpArgs false
open Go.RowKit Go.Sort
end Go.Proofs.Ytlnmdfgcpfbleaa
namespace Go.Proofs.Ytlnmdfgcpfbleaa
set_option linter.unusedVariables false
set_option linter.unusedSimpArgs false
open Go.RowKit Go.Sort
theorem Wrt.setCells (g : Nat) : ∀ (vs : List Value) (o : Nat) (w : World),Wrt (fun b => b = g) w (w.setCells g o vs)
 | [],o,w => Wrt.refl _ _
 | v :: vs,o,w => (Wrt.set w g o v).trans (Wrt.setCells g vs (o + 1) _) (fun _ _ h => h)
theorem frz_setCells (g : Nat) : ∀ (vs : List Value) (o : Nat) (w : World) (x : Addr),(w.setCells g o vs).frozen? x = w.frozen? x
 | [],o,w,x => rfl
 | v :: vs,o,w,x => by rw [World.setCells,frz_setCells g vs (o + 1),World.frozen?_setCell]
theorem Plc.all {w w1 : World} {B o : Nat} {cs cs' : List Cel} {fp f' : Fp} {vs' : List Value} (h : Plc w B o cs fp) (hb : Below w.heap.size w w1) (h' : owL w1 cs' vs' f') (hl : cs'.length = cs.length) (hf : ∀ b,f' b → w.heap.size ≤ b) : Bcm w (w1.setCells B o vs') B o cs' fp := by
 obtain ⟨vs,h1,h2,h3⟩ := h
 have e := hb.block B h1.lt
 have hP1 := h1.of_block e hb.size
 have hlen := owL_len h2
 have hlen' := owL_len h'
 have hw := Wrt.setCells B vs' o w1
 have hlt := h1.lt
 have hf'B : ¬ f' B := fun k => by have := hf B k;omega
 have hsome : ∀ j,j < vs'.length → (w1.cell? ⟨B,o + j,none⟩).isSome = true := fun j hj => by
  rw [hP1.cell j (by omega),List.getElem?_eq_getElem (by omega)]
  rfl
 refine ⟨⟨f',⟨vs',⟨fun j hj => ?_,fun j hj => ?_,Nat.lt_of_lt_of_le hP1.lt hw.size⟩,owL_wrt h' hw (fun b hb' e' => hf'B (e' ▸ hb')),hf'B⟩,fun b hb' => .inr (hf b hb')⟩,fun j hj => ?_,fun j => ?_, ?_⟩
 ·rw [World.cell?_setCells_in B vs' o w1 hsome j hj,List.getElem?_eq_getElem hj]
 ·rw [frz_setCells];exact hP1.free j (by omega)
 ·rw [World.cell?_setCells_out B vs' o w1 _ (fun _ _ => by simp only;omega)]
  exact World.cell?_of_block e
 ·rw [frz_setCells];simp only [World.frozen?,e]
 ·exact (Wrt.of_below (f := fun b => fp b ∨ b = B) hb).trans hw (fun b _ k => .inr k)
end Go.Proofs.Ytlnmdfgcpfbleaa
namespace Go.Proofs.Ytlnmdfgcpfbleaa
set_option linter.unusedVariables false
set_option linter.unusedSimpArgs false
open Go.RowKit Go.Sort
end Go.Proofs.Ytlnmdfgcpfbleaa
namespace Go.Proofs.Ytlnmdfgcpfbleaa
set_option linter.unusedVariables false
set_option linter.unusedSimpArgs false
open Go.RowKit Go.Sort
def lN (L : List Nat) : List Int := L.map (fun (j : Nat) => (j : Int))
theorem lN_len (L : List Nat) : (lN L).length = L.length := List.length_map _
def AnsL (w w' : World) (e : Ending) (Z : List Int) : Prop := ∃ a c,e = .returned (.slice a Z.length c) ∧ NewO w w' (icl Z) (.slice a Z.length c)
end Go.Proofs.Ytlnmdfgcpfbleaa
namespace Go.Proofs.Ytlnmdfgcpfbleaa
set_option linter.unusedVariables false
set_option linter.unusedSimpArgs false
open Go.RowKit Go.Sort
end Go.Proofs.Ytlnmdfgcpfbleaa
namespace Go.Proofs.Ytlnmdfgcpfbleaa
set_option linter.unusedVariables false
set_option linter.unusedSimpArgs false
open Go.RowKit Go.Sort
end Go.Proofs.Ytlnmdfgcpfbleaa
namespace Go.Proofs.Ytlnmdfgcpfbleaa
set_option linter.unusedVariables false
set_option linter.unusedSimpArgs false
open Go.RowKit Go.Sort
end Go.Proofs.Ytlnmdfgcpfbleaa
namespace Go.Proofs.Ytlnmdfgcpfbleaa
set_option linter.unusedVariables false
set_option linter.unusedSimpArgs false
open Go.RowKit Go.Sort
end Go.Proofs.Ytlnmdfgcpfbleaa
namespace Go.Proofs.Ytlnmdfgcpfbleaa
set_option linter.unusedVariables false
set_option linter.unusedSimpArgs false
open Go.RowKit Go.Sort
end Go.Proofs.Ytlnmdfgcpfbleaa
namespace Go.Proofs.Ytlnmdfgcpfbleaa
set_option linter.unusedSimpArgs false
set_option linter.unusedVariables false
open Go.RowKit
end Go.Proofs.Ytlnmdfgcpfbleaa
namespace Go.Proofs.Ytlnmdfgcpfbleaa
set_option linter.unusedVariables false
set_option linter.unusedSimpArgs false
open Go.RowKit Go.Sort
end Go.Proofs.Ytlnmdfgcpfbleaa
namespace Go.Proofs.Ytlnmdfgcpfbleaa
set_option linter.unusedVariables false
set_option linter.unusedSimpArgs false
open Go.RowKit Go.Sort
end Go.Proofs.Ytlnmdfgcpfbleaa
namespace Go.Proofs.Ytlnmdfgcpfbleaa
set_option linter.unusedVariables false
set_option linter.unusedSimpArgs false
open Go.RowKit Go.Sort
end Go.Proofs.Ytlnmdfgcpfbleaa
namespace Go.Proofs.Ytlnmdfgcpfbleaa
set_option linter.unusedVariables false
set_option linter.unusedSimpArgs false
open Go.RowKit Go.Sort
end Go.Proofs.Ytlnmdfgcpfbleaa
namespace Go.Proofs.Ytlnmdfgcpfbleaa
set_option linter.unusedVariables false
set_option linter.unusedSimpArgs false
open Go.RowKit Go.Sort
end Go.Proofs.Ytlnmdfgcpfbleaa
namespace Go.Proofs.Ytlnmdfgcpfbleaa
set_option linter.unusedVariables false
set_option linter.unusedSimpArgs false
open Go.RowKit Go.Sort
end Go.Proofs.Ytlnmdfgcpfbleaa
namespace Go.Proofs.Ytlnmdfgcpfbleaa
set_option linter.unusedVariables false
set_option linter.unusedSimpArgs false
open Go.RowKit Go.Sort
section
variable {w X Y Y' : World} {p : Nat} {a : Option Addr} {len cap : Nat} {bs : Nat → Int} {T : TypeId} {o : Nat} {Z C : Array Value} {cs : List Cel} {vs : List Value} {fp : Fp}
end
end Go.Proofs.Ytlnmdfgcpfbleaa
namespace Go.Proofs.Ytlnmdfgcpfbleaa
set_option linter.unusedVariables false
set_option linter.unusedSimpArgs false
open Go.RowKit Go.Sort
end Go.Proofs.Ytlnmdfgcpfbleaa
namespace Go.Proofs.Ytlnmdfgcpfbleaa
set_option linter.unusedVariables false
set_option linter.unusedSimpArgs false
open Go.RowKit Go.Sort
section
variable {w X Y Y' : World} {p : Nat} {a : Option Addr} {len cap : Nat} {bs : Nat → Int} {o : Nat} {Zr : Array Value} {A : Ra} {r : Rw} {fp : Fp}
end
end Go.Proofs.Ytlnmdfgcpfbleaa
namespace Go.Proofs.Ytlnmdfgcpfbleaa
set_option linter.unusedSimpArgs false
set_option linter.unusedVariables false
open Go.RowKit Go.Sort
attribute [local irreducible] sv
end Go.Proofs.Ytlnmdfgcpfbleaa
namespace Go.Proofs.Ytlnmdfgcpfbleaa
set_option linter.unusedVariables false
set_option linter.unusedSimpArgs false
open Go.RowKit Go.Sort
attribute [local irreducible] sv
end Go.Proofs.Ytlnmdfgcpfbleaa
namespace Go.Proofs.Ytlnmdfgcpfbleaa
set_option linter.unusedVariables false
set_option linter.unusedSimpArgs false
open Go.RowKit Go.Sort
theorem owL_it {w : World} {cs : List Cel} {vs : List Value} {fp : Fp} (h : owL w cs vs fp) {lo : Nat} (hl : ∀ b,fp b → lo ≤ b) : It w cs vs lo w.heap.size := ⟨fp,h,fun b hb => ⟨hl b hb,owL_lt h b hb⟩⟩
end Go.Proofs.Ytlnmdfgcpfbleaa
namespace Go.Proofs.Ytlnmdfgcpfbleaa
set_option linter.unusedVariables false
set_option linter.unusedSimpArgs false
open Go.RowKit Go.Sort
end Go.Proofs.Ytlnmdfgcpfbleaa
namespace Go.Proofs.Ytlnmdfgcpfbleaa
set_option linter.unusedVariables false
set_option linter.unusedSimpArgs false
open Go.RowKit Go.Sort
end Go.Proofs.Ytlnmdfgcpfbleaa
namespace Go.Proofs.Ytlnmdfgcpfbleaa
set_option linter.unusedVariables false
set_option linter.unusedSimpArgs false
open Go.RowKit Go.Sort
end Go.Proofs.Ytlnmdfgcpfbleaa
namespace Go.Proofs.Ytlnmdfgcpfbleaa
set_option linter.unusedVariables false
set_option linter.unusedSimpArgs false
open Go.RowKit Go.Sort
attribute [local irreducible] sv
end Go.Proofs.Ytlnmdfgcpfbleaa
namespace Go.Proofs.Ytlnmdfgcpfbleaa
set_option linter.unusedVariables false
set_option linter.unusedSimpArgs false
open Go.RowKit Go.Sort
end Go.Proofs.Ytlnmdfgcpfbleaa
namespace Go.Proofs.Ytlnmdfgcpfbleaa
set_option linter.unusedVariables false
set_option linter.unusedSimpArgs false
open Go.RowKit Go.Sort
attribute [local irreducible] sv
end Go.Proofs.Ytlnmdfgcpfbleaa
namespace Go.Proofs.Ytlnmdfgcpfbleaa
set_option linter.unusedVariables false
set_option linter.unusedSimpArgs false
open Go.RowKit Go.Sort
attribute [local irreducible] sv
end Go.Proofs.Ytlnmdfgcpfbleaa
namespace Go.Proofs.Ytlnmdfgcpfbleaa
set_option linter.unusedVariables false
set_option linter.unusedSimpArgs false
open Go.RowKit Go.Sort
attribute [local irreducible] sv
end Go.Proofs.Ytlnmdfgcpfbleaa
namespace Go.Proofs.Ytlnmdfgcpfbleaa
set_option linter.unusedVariables false
set_option linter.unusedSimpArgs false
open Go.RowKit Go.Sort
def szP (R : List Rw) (k : Nat) : Nat := ((R.take k).map szRw).sum
theorem szP_next {R : List Rw} {k : Nat} (hk : k < R.length) : szP R (k + 1) = szP R k + szRw (rowN R k) := by
 have e : rowN R k = R[k] := by simp [rowN,List.getD,hk]
 unfold szP
 rw [List.take_succ_eq_append_getElem hk,List.map_append,List.sum_append,e]
 simp
def szRs (R : List Rw) : Nat := R.length + szP R R.length
def szMb (m : Mb) : Nat := szRs m.rows + m.sung.length
set_option maxRecDepth 100000 in
set_option maxHeartbeats 3200000 in
theorem szRs_any (a : Option Addr) (cap : Nat) (R : List Rw) (left : Int) (w : World) (hv : Cel.vw w (lcl 8 rw8 R) (.slice a R.length cap)) (hf : ∀ r ∈ R,FitR r) (hlg : ∀ r ∈ R,LongT r.txt) (hm : R.length ≤ maxLen) (hl : 0 ≤ left ∧ left ≤ 1048576) :
  Calls Try.prog 134 #[.slice a R.length cap,.int .i64 left] w fun e w' => ∃ q : Int,e = .returned (.int .i64 q) ∧ (q = -1 ∨ 0 ≤ q ∧ q + (szRs R : Int) = left) ∧ Below w.heap.size w w' := by
 have HV : Hid (Cel.vw w (lcl 8 rw8 R) (.slice a R.length cap)) := hv
 unfold maxLen at hm
 have wl : wrap64 (left - (R.length : Int)) = left - (R.length : Int) := by unfold wrap64;omega
 clear hv
 by_cases h0 : left - (R.length : Int) < 0
 ·go_enter Try.func134,Try.ntmps134
  go_wp2
  go_ret
  exact ⟨-1,rfl,.inl rfl,Below.refl _ _⟩
 ·obtain ⟨l0,hl0⟩ : ∃ l0 : Int,Hid (left - (R.length : Int) = l0) := ⟨_,rfl⟩
  rw [hl0.out] at h0 wl
  go_enter Try.func134,Try.ntmps134
  have hl1 := hl0.out
  rw [← hl1] at wl h0
  go_wp2_with fail
  rw [hl1] at *
  clear hl1 wl
  go_loopw [1,5] (fun lv v wr => ∃ (k : Nat) (l : Int),k ≤ R.length ∧ v = .int .i64 (k : Int) ∧ lv = .int .i64 l ∧ 0 ≤ l ∧ l ≤ 1048576 ∧ Hid (l + (szP R k : Int) = l0) ∧ Below w.heap.size w wr) (fun _ v _ => R.length - (intOf v).toNat)
  case atStart => exact ⟨0,l0,Nat.zero_le _,rfl,rfl,by omega,by have := hl0.out;omega,by simp [Hid,szP],Below.refl _ _⟩
  case round =>
   obtain ⟨k,l,hk,rfl,rfl,hlp,hlm,hS,hb⟩ := hrel
   by_cases hlt : k < R.length
   ·have k1 : (k : Int) < (R.length : Int) := by omega
    have k0 : (0 : Int) ≤ (k : Int) := by omega
    have hmem : rowN R k ∈ R := rowN_mem hlt
    obtain ⟨g,off,hra,hpv⟩ := vw_elF rw8_len (Cel.vw_below HV.out hb) (k := k) (x := rowN R k) (by simp [rowN,List.getD,hlt])
    obtain ⟨Ak,⟨⟨d0,d1,d2,d3⟩,d4,d5,d6,d7⟩,hrs⟩ := hpv.row (hf _ hmem)
    subst hra
    have hC := szRw_any Ak (rowN R k) l wr hrs (hlg _ hmem) ⟨hlp,hlm⟩
    unfold rwV rwC at hC
    have HN : Hid (szP R (k + 1) = szP R k + szRw (rowN R k)) := szP_next hlt
    have HB : Hid (Below w.heap.size w wr) := hb
    generalize rowN R k = r at *
    clear hrs hpv hb
    go_wp2_with fail
    refine hC.mono ?_
    rintro e w1 ⟨q,rfl,hq,hb1⟩
    have HB1 : Hid (Below w.heap.size w w1) := HB.out.trans (hb1.mono HB.out.size)
    clear d0 d1 d2 d3 d4 d5 d6 d7 hC hb1
    rcases hq with rfl | ⟨hq0,hq1⟩
    ·go_wp2
     go_ret
     exact ⟨-1,rfl,.inl rfl,HB1.out⟩
    ·have n1 : ¬ (q < 0) := by omega
     have HS2 : Hid (q + (szP R (k + 1) : Int) = l0) := by
      have h1 := HN.out
      have h2 := hS.out
      rw [Hid,h1]
      omega
     have hqm : q ≤ 1048576 := by omega
     clear hq1
     go_wp2
     go_roundw
     case rel => exact ⟨k + 1,q,by omega,by go_num,rfl,by omega,hqm,HS2,HB1.out⟩
     case measure => simp [intOf];omega
   ·have k1 : ¬ ((k : Int) < (R.length : Int)) := by omega
    have ek : k = R.length := by omega
    have HE : Hid (l + (szRs R : Int) = left) := by
     have h1 := hS.out
     have h2 := hl0.out
     rw [ek] at h1
     rw [Hid,szRs]
     omega
    have HB : Hid (Below w.heap.size w wr) := hb
    clear hb ek
    go_wp2
    go_ret
    exact ⟨l,rfl,.inr ⟨hlp,HE.out⟩,HB.out⟩
set_option maxRecDepth 100000 in
set_option maxHeartbeats 3200000 in
theorem szMb_any (A : Ma) (m : Mb) (left : Int) (w : World) (hv : MbS w A m) (hlg : ∀ r ∈ m.rows,LongT r.txt) (hl : 0 ≤ left ∧ left ≤ 1048576) :
  Calls Try.prog 122 #[mbV A m,.int .i64 left] w fun e w' => ∃ q : Int,e = .returned (.int .i64 q) ∧ (q = -1 ∨ 0 ≤ q ∧ q + (szMb m : Int) = left) ∧ Below w.heap.size w w' := by
 have hb := oneA16 w (.cells (mbC A m) 134)
 have hx := Bx.new w 134 (mbC A m)
 have hv0 := hv.below hb
 have hS := szRs_any A.ra A.rc m.rows left _ hv0.rows hv0.fit hlg hv0.mr hl
 have hms := hv.ms
 unfold mbV
 unfold mbC at *
 generalize hWW : w.alloc (.cells #[.int .i64 m.id,.int .i64 m.n,.slice A.ra m.rows.length A.rc,.slice A.sa m.sung.length A.sc,.bool m.done] 134) = W at *
 have c2 := (Bx.r5 hx).2.2.1
 have HX : Hid (Bx W w.heap.size 134 #[.int .i64 m.id,.int .i64 m.n,.slice A.ra m.rows.length A.rc,.slice A.sa m.sung.length A.sc,.bool m.done]) := hx
 have HB : Hid (Below w.heap.size w W) := hb
 clear hv hv0 hb hx
 go_enter Try.func122,Try.ntmps122
 go_wp2_with fail
 refine hS.mono ?_
 rintro e w1 ⟨q1,rfl,hq1,hb1⟩
 have HB1 : Hid (Below w.heap.size w w1) := HB.out.trans (hb1.mono HB.out.size)
 have c3 := (Bx.r5 (HX.out.below hb1)).2.2.2.1
 clear hS hb1 c2
 rcases hq1 with rfl | ⟨hq0,hq1⟩
 ·go_wp2
  go_ret
  exact ⟨-1,rfl,.inl rfl,HB1.out⟩
 have n1 : ¬ (q1 < 0) := by omega
 have b1 : q1 ≤ 1048576 := by omega
 have HQ1 : Hid (q1 + (szRs m.rows : Int) = left) := hq1
 clear hq1
 have hs2 := szI14_any A.sa m.sung.length A.sc q1 w1 hms ⟨by omega,by omega⟩
 by_cases g2 : (m.sung.length : Int) ≤ q1
 rotate_left
 ·rw [if_neg g2] at hs2
  go_wp2_with (go_at_call 86;refine hs2.mono ?_;rintro e w' ⟨rfl,hw'⟩;rw [hw'];clear hw')
  go_ret
  exact ⟨-1,rfl,.inl rfl,HB1.out⟩
 rw [if_pos g2] at hs2
 obtain ⟨q2,hq2⟩ : ∃ x : Int,q1 - (m.sung.length : Int) = x := ⟨_,rfl⟩
 rw [hq2] at hs2
 have n2 : ¬ (q2 < 0) := by omega
 have Hq2 : Hid (q1 - (m.sung.length : Int) = q2) := hq2
 clear hq2 g2
 go_wp2_with fail
 refine hs2.mono ?_
 rintro e w' ⟨rfl,hw'⟩
 rw [hw']
 clear hw' hs2
 go_wp2
 go_ret
 refine ⟨q2,rfl,.inr ⟨by omega, ?_⟩,HB1.out⟩
 have h1 := HQ1.out
 have h2 := Hq2.out
 rw [szMb]
 omega
end Go.Proofs.Ytlnmdfgcpfbleaa
namespace Go.Proofs.Ytlnmdfgcpfbleaa
set_option linter.unusedVariables false
set_option linter.unusedSimpArgs false
open Go.RowKit Go.Sort
def mbN (R : List Mb) (k : Nat) : Mb := R.getD k zeroMb
def zeroMl : Ml := ⟨0,0,zeroRw⟩
def mlN (R : List Ml) (k : Nat) : Ml := R.getD k zeroMl
theorem mbN_at {R : List Mb} {k : Nat} (hk : k < R.length) : R[k]? = some (mbN R k) := by simp [mbN,List.getD,hk]
theorem mlN_at {R : List Ml} {k : Nat} (hk : k < R.length) : R[k]? = some (mlN R k) := by simp [mlN,List.getD,hk]
def LongM (m : Mb) : Prop := ∀ r ∈ m.rows,LongT r.txt
def szMl (x : Ml) : Nat := szRw x.row
theorem Pv.mlr {w : World} {b o : Nat} {x : Ml} (h : Pv w b o (ml10 x)) (hf : FitR x.row) : ∃ A : Ra,(w.cell? ⟨b,o,none⟩ = some (.int .i64 x.fr) ∧ w.cell? ⟨b,o + 1,none⟩ = some (.int .i64 x.to)) ∧ (w.cell? ⟨b,o + 2,none⟩ = some (.int .i64 x.row.ver) ∧ w.cell? ⟨b,o + 3,none⟩ = some (.slice A.ta x.row.txt.length A.tc) ∧ w.cell? ⟨b,o + 4,none⟩ = some (.slice A.ga x.row.got.length A.gc) ∧ w.cell? ⟨b,o + 5,none⟩ = some (.slice A.sa x.row.sus.length A.sc)) ∧ w.cell? ⟨b,o + 6,none⟩ = some (.bool x.row.wed) ∧ w.cell? ⟨b,o + 7,none⟩ = some (.bool x.row.rdy) ∧ w.cell? ⟨b,o + 8,none⟩ = some (.int .i64 x.row.by_) ∧ w.cell? ⟨b,o + 9,none⟩ = some (.slice A.ma x.row.trm.length A.mc) ∧ RwS w A x.row := by
 obtain ⟨A,c0,c1,⟨⟨d0,d1,d2,d3⟩,d4,d5,d6,d7⟩,h4⟩ := h.mail hf
 simp only [Nat.add_assoc] at d1 d2 d3 d4 d5 d6 d7
 exact ⟨A,⟨c0,c1⟩,⟨d0,d1,d2,d3⟩,d4,d5,d6,d7,h4⟩
def mlV (A : Ra) (x : Ml) : Value := .agg (mlC x A)
set_option maxRecDepth 100000 in
set_option maxHeartbeats 1600000 in
theorem szMl_any (A : Ra) (x : Ml) (left : Int) (w : World) (hv : RwS w A x.row) (hlg : LongT x.row.txt) (hl : 0 ≤ left ∧ left ≤ 1048576) :
  Calls Try.prog 123 #[mlV A x,.int .i64 left] w fun e w' => ∃ q : Int,e = .returned (.int .i64 q) ∧ (q = -1 ∨ 0 ≤ q ∧ q + (szMl x : Int) = left) ∧ Below w.heap.size w w' := by
 have hb := oneA16 w (.cells (mlC x A) 137)
 have hx := Bx.new w 137 (mlC x A)
 have hS := szRw_any A x.row left _ (hv.below hb) hlg hl
 unfold mlV
 unfold mlC at *
 unfold rwV rwC at hS
 generalize hWW : w.alloc (.cells #[.int .i64 x.fr,.int .i64 x.to,.int .i64 x.row.ver,.slice A.ta x.row.txt.length A.tc,.slice A.ga x.row.got.length A.gc,.slice A.sa x.row.sus.length A.sc,.bool x.row.wed,.bool x.row.rdy,.int .i64 x.row.by_,.slice A.ma x.row.trm.length A.mc] 137) = W at *
 obtain ⟨⟨c0,c1⟩,⟨c2,c3,c4,c5⟩,c6,c7,c8,c9⟩ := Bx.r10 hx
 have HB : Hid (Below w.heap.size w W) := hb
 clear hv hb hx
 go_enter Try.func123,Try.ntmps123
 go_wp2_with fail
 refine hS.mono ?_
 rintro e w1 ⟨q1,rfl,hq1,hb1⟩
 have HB1 : Hid (Below w.heap.size w w1) := HB.out.trans (hb1.mono HB.out.size)
 clear hS hb1 c0 c1 c2 c3 c4 c5 c6 c7 c8 c9
 rcases hq1 with rfl | ⟨hq0,hq1⟩
 ·go_wp2
  go_ret
  exact ⟨-1,rfl,.inl rfl,HB1.out⟩
 have n1 : ¬ (q1 < 0) := by omega
 have HQ1 : Hid (q1 + (szMl x : Int) = left) := hq1
 clear hq1
 go_wp2
 go_ret
 exact ⟨q1,rfl,.inr ⟨hq0,HQ1.out⟩,HB1.out⟩
attribute [local irreducible] sv
set_option maxHeartbeats 400000 in
theorem szBo_any (a : Option Addr) (n c : Nat) (left : Int) (w : World) (hm : n ≤ maxLen) (hl : 0 ≤ left ∧ left ≤ 1048576) :
  Calls Try.prog 91 #[.slice a n c,.int .i64 left] w fun e w' => e = .returned (.int .i64 (if (n : Int) ≤ left then left - (n : Int) else -1)) ∧ w' = w := by
 unfold maxLen at hm
 have hwl : wrap64 (left - (n : Int)) = left - (n : Int) := by unfold wrap64;omega
 by_cases h0 : (n : Int) ≤ left
 ·have h1 : ¬ (left - (n : Int) < 0) := by omega
  rw [if_pos h0]
  go_enter Try.func91,Try.ntmps91
  go_wp2
  go_ret
  exact ⟨rfl,rfl⟩
 ·have h1 : left - (n : Int) < 0 := by omega
  rw [if_neg h0]
  go_enter Try.func91,Try.ntmps91
  go_wp2
  go_ret
  exact ⟨rfl,rfl⟩
def zPm (R : List Mb) (k : Nat) : Nat := ((R.take k).map szMb).sum
theorem zPm_next {R : List Mb} {k : Nat} (hk : k < R.length) : zPm R (k + 1) = zPm R k + szMb (mbN R k) := by
 have e : mbN R k = R[k] := by simp [mbN,List.getD,hk]
 unfold zPm
 rw [List.take_succ_eq_append_getElem hk,List.map_append,List.sum_append,e]
 simp
theorem zPm_mono (R : List Mb) {a b : Nat} (h : a ≤ b) : zPm R a ≤ zPm R b := by
 unfold zPm
 obtain ⟨c,rfl⟩ := Nat.exists_eq_add_of_le h
 rw [List.take_add,List.map_append,List.sum_append]
 omega
def szMs (R : List Mb) : Nat := R.length + zPm R R.length
theorem szMs_at {R : List Mb} {n k : Nat} (h : szMs R ≤ n) (hk : k < R.length) : szMb (mbN R k) ≤ n := by
 have h1 : zPm R (k + 1) ≤ zPm R R.length := zPm_mono R (by omega)
 rw [zPm_next hk] at h1
 unfold szMs at h
 omega
set_option maxRecDepth 100000 in
set_option maxHeartbeats 3200000 in
theorem szMs_any (a : Option Addr) (cap : Nat) (R : List Mb) (left : Int) (w : World) (hv : Cel.vw w (lcl 5 mb5 R) (.slice a R.length cap)) (hf : ∀ m ∈ R,FitM m) (hlg : ∀ m ∈ R,LongM m) (hm : R.length ≤ maxLen) (hl : 0 ≤ left ∧ left ≤ 1048576) :
  Calls Try.prog 90 #[.slice a R.length cap,.int .i64 left] w fun e w' => ∃ q : Int,e = .returned (.int .i64 q) ∧ (q = -1 ∨ 0 ≤ q ∧ q + (szMs R : Int) = left) ∧ Below w.heap.size w w' := by
 have HV : Hid (Cel.vw w (lcl 5 mb5 R) (.slice a R.length cap)) := hv
 unfold maxLen at hm
 have wl : wrap64 (left - (R.length : Int)) = left - (R.length : Int) := by unfold wrap64;omega
 clear hv
 by_cases h0 : left - (R.length : Int) < 0
 ·go_enter Try.func90,Try.ntmps90
  go_wp2
  go_ret
  exact ⟨-1,rfl,.inl rfl,Below.refl _ _⟩
 ·obtain ⟨l0,hl0⟩ : ∃ l0 : Int,Hid (left - (R.length : Int) = l0) := ⟨_,rfl⟩
  rw [hl0.out] at h0 wl
  go_enter Try.func90,Try.ntmps90
  have hl1 := hl0.out
  rw [← hl1] at wl h0
  go_wp2_with fail
  rw [hl1] at *
  clear hl1 wl
  go_loopw [1,5] (fun lv v wr => ∃ (k : Nat) (l : Int),k ≤ R.length ∧ v = .int .i64 (k : Int) ∧ lv = .int .i64 l ∧ 0 ≤ l ∧ l ≤ 1048576 ∧ Hid (l + (zPm R k : Int) = l0) ∧ Below w.heap.size w wr) (fun _ v _ => R.length - (intOf v).toNat)
  case atStart => exact ⟨0,l0,Nat.zero_le _,rfl,rfl,by omega,by have := hl0.out;omega,by simp [Hid,zPm],Below.refl _ _⟩
  case round =>
   obtain ⟨k,l,hk,rfl,rfl,hlp,hlm,hS,hb⟩ := hrel
   by_cases hlt : k < R.length
   ·have k1 : (k : Int) < (R.length : Int) := by omega
    have k0 : (0 : Int) ≤ (k : Int) := by omega
    have hmem : mbN R k ∈ R := List.mem_of_getElem? (mbN_at hlt)
    obtain ⟨g,off,hra,hpv⟩ := vw_elF mb5_len (Cel.vw_below HV.out hb) (mbN_at hlt)
    obtain ⟨Ak,⟨d0,d1,d2,d3,d4⟩,hrs⟩ := hpv.mem (hf _ hmem)
    subst hra
    have hC := szMb_any Ak (mbN R k) l wr hrs (hlg _ hmem) ⟨hlp,hlm⟩
    unfold mbV mbC at hC
    have HN : Hid (zPm R (k + 1) = zPm R k + szMb (mbN R k)) := zPm_next hlt
    have HB : Hid (Below w.heap.size w wr) := hb
    generalize mbN R k = r at *
    clear hpv hb hrs
    go_wp2_with fail
    refine hC.mono ?_
    rintro e w1 ⟨q,rfl,hq,hb1⟩
    have HB1 : Hid (Below w.heap.size w w1) := HB.out.trans (hb1.mono HB.out.size)
    clear d0 d1 d2 d3 d4 hC hb1
    rcases hq with rfl | ⟨hq0,hq1⟩
    ·go_wp2
     go_ret
     exact ⟨-1,rfl,.inl rfl,HB1.out⟩
    ·have n1 : ¬ (q < 0) := by omega
     have HS2 : Hid (q + (zPm R (k + 1) : Int) = l0) := by
      have h1 := HN.out
      have h2 := hS.out
      rw [Hid,h1]
      omega
     have hqm : q ≤ 1048576 := by omega
     clear hq1
     go_wp2
     go_roundw
     case rel => exact ⟨k + 1,q,by omega,by go_num,rfl,by omega,hqm,HS2,HB1.out⟩
     case measure => simp [intOf];omega
   ·have k1 : ¬ ((k : Int) < (R.length : Int)) := by omega
    have ek : k = R.length := by omega
    have HE : Hid (l + (szMs R : Int) = left) := by
     have h1 := hS.out
     have h2 := hl0.out
     rw [ek] at h1
     rw [Hid,szMs]
     omega
    have HB : Hid (Below w.heap.size w wr) := hb
    clear hb ek
    go_wp2
    go_ret
    exact ⟨l,rfl,.inr ⟨hlp,HE.out⟩,HB.out⟩
def zPl (R : List Ml) (k : Nat) : Nat := ((R.take k).map szMl).sum
theorem zPl_next {R : List Ml} {k : Nat} (hk : k < R.length) : zPl R (k + 1) = zPl R k + szMl (mlN R k) := by
 have e : mlN R k = R[k] := by simp [mlN,List.getD,hk]
 unfold zPl
 rw [List.take_succ_eq_append_getElem hk,List.map_append,List.sum_append,e]
 simp
theorem zPl_mono (R : List Ml) {a b : Nat} (h : a ≤ b) : zPl R a ≤ zPl R b := by
 unfold zPl
 obtain ⟨c,rfl⟩ := Nat.exists_eq_add_of_le h
 rw [List.take_add,List.map_append,List.sum_append]
 omega
def szLs (R : List Ml) : Nat := R.length + zPl R R.length
theorem szLs_at {R : List Ml} {n k : Nat} (h : szLs R ≤ n) (hk : k < R.length) : szMl (mlN R k) ≤ n := by
 have h1 : zPl R (k + 1) ≤ zPl R R.length := zPl_mono R (by omega)
 rw [zPl_next hk] at h1
 unfold szLs at h
 omega
set_option maxRecDepth 100000 in
set_option maxHeartbeats 3200000 in
theorem szLs_any (a : Option Addr) (cap : Nat) (R : List Ml) (left : Int) (w : World) (hv : Cel.vw w (lcl 10 ml10 R) (.slice a R.length cap)) (hf : ∀ x ∈ R,FitR x.row) (hlg : ∀ x ∈ R,LongT x.row.txt) (hm : R.length ≤ maxLen) (hl : 0 ≤ left ∧ left ≤ 1048576) :
  Calls Try.prog 92 #[.slice a R.length cap,.int .i64 left] w fun e w' => ∃ q : Int,e = .returned (.int .i64 q) ∧ (q = -1 ∨ 0 ≤ q ∧ q + (szLs R : Int) = left) ∧ Below w.heap.size w w' := by
 have HV : Hid (Cel.vw w (lcl 10 ml10 R) (.slice a R.length cap)) := hv
 unfold maxLen at hm
 have wl : wrap64 (left - (R.length : Int)) = left - (R.length : Int) := by unfold wrap64;omega
 clear hv
 by_cases h0 : left - (R.length : Int) < 0
 ·go_enter Try.func92,Try.ntmps92
  go_wp2
  go_ret
  exact ⟨-1,rfl,.inl rfl,Below.refl _ _⟩
 ·obtain ⟨l0,hl0⟩ : ∃ l0 : Int,Hid (left - (R.length : Int) = l0) := ⟨_,rfl⟩
  rw [hl0.out] at h0 wl
  go_enter Try.func92,Try.ntmps92
  have hl1 := hl0.out
  rw [← hl1] at wl h0
  go_wp2_with fail
  rw [hl1] at *
  clear hl1 wl
  go_loopw [1,5] (fun lv v wr => ∃ (k : Nat) (l : Int),k ≤ R.length ∧ v = .int .i64 (k : Int) ∧ lv = .int .i64 l ∧ 0 ≤ l ∧ l ≤ 1048576 ∧ Hid (l + (zPl R k : Int) = l0) ∧ Below w.heap.size w wr) (fun _ v _ => R.length - (intOf v).toNat)
  case atStart => exact ⟨0,l0,Nat.zero_le _,rfl,rfl,by omega,by have := hl0.out;omega,by simp [Hid,zPl],Below.refl _ _⟩
  case round =>
   obtain ⟨k,l,hk,rfl,rfl,hlp,hlm,hS,hb⟩ := hrel
   by_cases hlt : k < R.length
   ·have k1 : (k : Int) < (R.length : Int) := by omega
    have k0 : (0 : Int) ≤ (k : Int) := by omega
    have hmem : mlN R k ∈ R := List.mem_of_getElem? (mlN_at hlt)
    obtain ⟨g,off,hra,hpv⟩ := vw_elF ml10_len (Cel.vw_below HV.out hb) (mlN_at hlt)
    obtain ⟨Ak,⟨d0,d1⟩,⟨d2,d3,d4,d5⟩,d6,d7,d8,d9,hrs⟩ := hpv.mlr (hf _ hmem)
    subst hra
    have hC := szMl_any Ak (mlN R k) l wr hrs (hlg _ hmem) ⟨hlp,hlm⟩
    unfold mlV mlC at hC
    have HN : Hid (zPl R (k + 1) = zPl R k + szMl (mlN R k)) := zPl_next hlt
    have HB : Hid (Below w.heap.size w wr) := hb
    generalize mlN R k = r at *
    clear hpv hb hrs
    go_wp2_with fail
    refine hC.mono ?_
    rintro e w1 ⟨q,rfl,hq,hb1⟩
    have HB1 : Hid (Below w.heap.size w w1) := HB.out.trans (hb1.mono HB.out.size)
    clear d0 d1 d2 d3 d4 d5 d6 d7 d8 d9 hC hb1
    rcases hq with rfl | ⟨hq0,hq1⟩
    ·go_wp2
     go_ret
     exact ⟨-1,rfl,.inl rfl,HB1.out⟩
    ·have n1 : ¬ (q < 0) := by omega
     have HS2 : Hid (q + (zPl R (k + 1) : Int) = l0) := by
      have h1 := HN.out
      have h2 := hS.out
      rw [Hid,h1]
      omega
     have hqm : q ≤ 1048576 := by omega
     clear hq1
     go_wp2
     go_roundw
     case rel => exact ⟨k + 1,q,by omega,by go_num,rfl,by omega,hqm,HS2,HB1.out⟩
     case measure => simp [intOf];omega
   ·have k1 : ¬ ((k : Int) < (R.length : Int)) := by omega
    have ek : k = R.length := by omega
    have HE : Hid (l + (szLs R : Int) = left) := by
     have h1 := hS.out
     have h2 := hl0.out
     rw [ek] at h1
     rw [Hid,szLs]
     omega
    have HB : Hid (Below w.heap.size w wr) := hb
    clear hb ek
    go_wp2
    go_ret
    exact ⟨l,rfl,.inr ⟨hlp,HE.out⟩,HB.out⟩
def szGr (g : Gr) : Nat := szMs g.mem + g.up.length + szLs g.mail
def LongG (g : Gr) : Prop := (∀ m ∈ g.mem,LongM m) ∧ ∀ x ∈ g.mail,LongT x.row.txt
set_option maxRecDepth 100000 in
set_option maxHeartbeats 3200000 in
theorem szGr_any (A : Ga) (g : Gr) (left : Int) (w : World) (hv : GrS w A g) (hlg : LongG g) (hl : 0 ≤ left ∧ left ≤ 1048576) :
  Calls Try.prog 43 #[grV A g,.int .i64 left] w fun e w' => ∃ q : Int,e = .returned (.int .i64 q) ∧ (q = -1 ∨ 0 ≤ q ∧ q + (szGr g : Int) = left) ∧ Below w.heap.size w w' := by
 have hb := oneA16 w (.cells (grC A g) 55)
 have hx := Bx.new w 55 (grC A g)
 have hv0 := hv.below hb
 have hS := szMs_any A.ma A.mc g.mem left _ hv0.mem hv0.fit.1 hlg.1 hv0.lm hl
 have hlu := hv.lu
 unfold grV
 unfold grC at *
 generalize hWW : w.alloc (.cells #[.slice A.ma g.mem.length A.mc,.slice A.ua g.up.length A.uc,.slice A.la g.mail.length A.lc] 55) = W at *
 obtain ⟨c0,c1,c2⟩ := Bx.g3 hx
 have HX : Hid (Bx W w.heap.size 55 #[.slice A.ma g.mem.length A.mc,.slice A.ua g.up.length A.uc,.slice A.la g.mail.length A.lc]) := hx
 have HB : Hid (Below w.heap.size w W) := hb
 have HM : Hid (∀ X (l : Int),Below W.heap.size W X → 0 ≤ l ∧ l ≤ 1048576 → Calls Try.prog 92 #[.slice A.la g.mail.length A.lc,.int .i64 l] X fun e w' => ∃ q : Int,e = .returned (.int .i64 q) ∧ (q = -1 ∨ 0 ≤ q ∧ q + (szLs g.mail : Int) = l) ∧ Below X.heap.size X w') := fun X l h hl => szLs_any A.la A.lc g.mail l X (hv0.below h).mail hv0.fit.2 hlg.2 hv0.ll hl
 have HSZ : Hid ((szGr g : Int) = (szMs g.mem : Int) + (g.up.length : Int) + (szLs g.mail : Int)) := by rw [Hid,szGr];omega
 clear hv hv0 hb hx hlg
 go_enter Try.func43,Try.ntmps43
 go_wp2_with fail
 refine hS.mono ?_
 rintro e w1 ⟨q1,rfl,hq1,hb1⟩
 have HB1 : Hid (Below W.heap.size W w1) := hb1
 have HBw : Hid (Below w.heap.size w w1) := HB.out.trans (hb1.mono HB.out.size)
 clear hS c0 c1 c2
 obtain ⟨c0,c1,c2⟩ := Bx.g3 (HX.out.below hb1)
 clear hb1
 rcases hq1 with rfl | ⟨hq0,hq1⟩
 ·go_wp2
  go_ret
  exact ⟨-1,rfl,.inl rfl,HBw.out⟩
 have n1 : ¬ (q1 < 0) := by omega
 have b1 : q1 ≤ 1048576 := by omega
 have HQ1 : Hid (q1 + (szMs g.mem : Int) = left) := hq1
 clear hq1
 have hs2 := szBo_any A.ua g.up.length A.uc q1 w1 hlu ⟨by omega,by omega⟩
 by_cases g2 : (g.up.length : Int) ≤ q1
 rotate_left
 ·rw [if_neg g2] at hs2
  go_wp2_with (go_at_call 91;refine hs2.mono ?_;rintro e w' ⟨rfl,hw'⟩;rw [hw'];clear hw')
  go_ret
  exact ⟨-1,rfl,.inl rfl,HBw.out⟩
 rw [if_pos g2] at hs2
 obtain ⟨q2,hq2⟩ : ∃ x : Int,q1 - (g.up.length : Int) = x := ⟨_,rfl⟩
 rw [hq2] at hs2
 have n2 : ¬ (q2 < 0) := by omega
 have b2 : q2 ≤ 1048576 := by omega
 have Hq2 : Hid (q1 - (g.up.length : Int) = q2) := hq2
 clear hq2 g2
 have hs3 := HM.out w1 q2 HB1.out ⟨by omega,b2⟩
 go_wp2_with (first | (go_at_call 91;refine hs2.mono ?_;rintro e w' ⟨rfl,hw'⟩;rw [hw'];clear hw') | fail)
 refine hs3.mono ?_
 rintro e w3 ⟨q3,rfl,hq3,hb3⟩
 have HB3 : Hid (Below w.heap.size w w3) := HBw.out.trans (hb3.mono HBw.out.size)
 clear hs2 hs3 hb3 c0 c1 c2
 rcases hq3 with rfl | ⟨hq30,hq31⟩
 ·go_wp2
  go_ret
  exact ⟨-1,rfl,.inl rfl,HB3.out⟩
 have n3 : ¬ (q3 < 0) := by omega
 have HE : Hid (q3 + (szGr g : Int) = left) := by
  have h1 := HQ1.out
  have h2 := Hq2.out
  rw [Hid,HSZ.out]
  omega
 clear hq31
 go_wp2
 go_ret
 exact ⟨q3,rfl,.inr ⟨hq30,HE.out⟩,HB3.out⟩
end Go.Proofs.Ytlnmdfgcpfbleaa
namespace Go.Proofs.Ytlnmdfgcpfbleaa
set_option linter.unusedVariables false
set_option linter.unusedSimpArgs false
open Go.RowKit Go.Sort
set_option maxRecDepth 100000 in
set_option maxHeartbeats 3200000 in
theorem eqRs_any (a a' : Option Addr) (cap cap' : Nat) (R : List Rw) (w : World) (hv : Cel.vw w (lcl 8 rw8 R) (.slice a R.length cap)) (hu : Cel.vw w (lcl 8 rw8 R) (.slice a' R.length cap')) (hf : ∀ r ∈ R,FitR r) (hm : R.length ≤ maxLen) :
  Calls Try.prog 139 #[.slice a R.length cap,.slice a' R.length cap'] w fun e w' => e = .returned (.bool true) ∧ Below w.heap.size w w' := by
 have HV : Hid (Cel.vw w (lcl 8 rw8 R) (.slice a R.length cap)) := hv
 have HU : Hid (Cel.vw w (lcl 8 rw8 R) (.slice a' R.length cap')) := hu
 have hbb : ((R.length : Int) != (R.length : Int)) = false := by simp
 unfold maxLen at hm
 clear hv hu
 go_enter Try.func139,Try.ntmps139
 go_wp2_with fail
 go_loopw [5] (fun v wr => ∃ k : Nat,k ≤ R.length ∧ v = .int .i64 (k : Int) ∧ Below w.heap.size w wr) (fun v _ => R.length - (intOf v).toNat)
 case atStart => exact ⟨0,Nat.zero_le _,rfl,Below.refl _ _⟩
 case round =>
  obtain ⟨k,hk,rfl,hb⟩ := hrel
  by_cases hlt : k < R.length
  ·have k1 : (k : Int) < (R.length : Int) := by omega
   have k0 : (0 : Int) ≤ (k : Int) := by omega
   have hmem : rowN R k ∈ R := rowN_mem hlt
   have hkx : R[k]? = some (rowN R k) := by simp [rowN,List.getD,hlt]
   obtain ⟨g,off,hra,hpv⟩ := vw_elF rw8_len (Cel.vw_below HV.out hb) hkx
   obtain ⟨g',off',hra',hpv'⟩ := vw_elF rw8_len (Cel.vw_below HU.out hb) hkx
   obtain ⟨A,⟨⟨d0,d1,d2,d3⟩,d4,d5,d6,d7⟩,hrs⟩ := hpv.row (hf _ hmem)
   obtain ⟨A',⟨⟨e0,e1,e2,e3⟩,e4,e5,e6,e7⟩,hrs'⟩ := hpv'.row (hf _ hmem)
   subst hra hra'
   have C : ∀ q : Bk wr,Calls Try.prog 42 #[rwV A (rowN R k),rwV A' (rowN R k)] q.w fun e w' => e = .returned (.bool true) ∧ Below q.w.heap.size q.w w' := fun q => eqRw_any A A' _ q.w (hrs.below q.h) (hrs'.below q.h)
   unfold rwV rwC at C
   have T : ∀ {x v},wr.cell? x = some v → ∀ q : Bk wr,q.w.cell? x = some v := fun h q => (q.h.cell (World.block_lt_of_cell? _ _ h)).trans h
   have dp0 := T d0
   have dp1 := T d1
   have dp2 := T d2
   have dp3 := T d3
   have dp4 := T d4
   have dp5 := T d5
   have dp6 := T d6
   have dp7 := T d7
   have ep0 := T e0
   have ep1 := T e1
   have ep2 := T e2
   have ep3 := T e3
   have ep4 := T e4
   have ep5 := T e5
   have ep6 := T e6
   have ep7 := T e7
   have HB : Hid (Below w.heap.size w wr) := hb
   generalize rowN R k = r at *
   clear hrs hrs' hpv hpv' hb T d0 d1 d2 d3 d4 d5 d6 d7 e0 e1 e2 e3 e4 e5 e6 e7 hkx
   go_wp2_with fail
   refine wp_region_bk (by kernel_rfl) (by kernel_rfl) ?_
   repeat (go_big_quiet_step ((first | (go_at_call 42;exact bk_call _ (C _)) | rfl)))
   refine wpQuiet_nil ?_
   intro wE hw'
   obtain ⟨⟨w11,hb11⟩,hw''⟩ := hw'
   have hwe : wE = w11 := hw''
   clear hw''
   subst hwe
   have HB1 : Hid (Below w.heap.size w wE) := HB.out.trans (hb11.mono HB.out.size)
   clear C hb11 dp0 dp1 dp2 dp3 dp4 dp5 dp6 dp7 ep0 ep1 ep2 ep3 ep4 ep5 ep6 ep7
   go_wp2
   go_roundw
   case rel => exact ⟨k + 1,by omega,by go_num,HB1.out⟩
   case measure => simp [intOf];omega
  ·have k1 : ¬ ((k : Int) < (R.length : Int)) := by omega
   have HB : Hid (Below w.heap.size w wr) := hb
   clear hb
   go_wp2
   go_ret
   exact ⟨rfl,HB.out⟩
set_option maxRecDepth 100000 in
set_option maxHeartbeats 3200000 in
theorem eqMb_any (A D : Ma) (m : Mb) (w : World) (hv : MbS w A m) (hu : MbS w D m) :
  Calls Try.prog 129 #[mbV A m,mbV D m] w fun e w' => e = .returned (.bool true) ∧ Below w.heap.size w w' := by
 have hB0 : Below w.heap.size w ((w.alloc (.cells #[.int .i64 m.id,.int .i64 m.n,.slice A.ra m.rows.length A.rc,.slice A.sa m.sung.length A.sc,.bool m.done] 103)).alloc (.cells #[.int .i64 m.id,.int .i64 m.n,.slice D.ra m.rows.length D.rc,.slice D.sa m.sung.length D.sc,.bool m.done] 103)) := (oneA16 w _).trans ((oneA16 _ _).mono (oneA16 w _).size)
 have hx : Bx ((w.alloc (.cells #[.int .i64 m.id,.int .i64 m.n,.slice A.ra m.rows.length A.rc,.slice A.sa m.sung.length A.sc,.bool m.done] 103)).alloc (.cells #[.int .i64 m.id,.int .i64 m.n,.slice D.ra m.rows.length D.rc,.slice D.sa m.sung.length D.sc,.bool m.done] 103)) w.heap.size 103 #[.int .i64 m.id,.int .i64 m.n,.slice A.ra m.rows.length A.rc,.slice A.sa m.sung.length A.sc,.bool m.done] := (Bx.new w _ _).alloc _
 have hy : Bx ((w.alloc (.cells #[.int .i64 m.id,.int .i64 m.n,.slice A.ra m.rows.length A.rc,.slice A.sa m.sung.length A.sc,.bool m.done] 103)).alloc (.cells #[.int .i64 m.id,.int .i64 m.n,.slice D.ra m.rows.length D.rc,.slice D.sa m.sung.length D.sc,.bool m.done] 103)) (w.heap.size + 1) 103 #[.int .i64 m.id,.int .i64 m.n,.slice D.ra m.rows.length D.rc,.slice D.sa m.sung.length D.sc,.bool m.done] := by
  have := Bx.new (w.alloc (.cells #[.int .i64 m.id,.int .i64 m.n,.slice A.ra m.rows.length A.rc,.slice A.sa m.sung.length A.sc,.bool m.done] 103)) 103 #[.int .i64 m.id,.int .i64 m.n,.slice D.ra m.rows.length D.rc,.slice D.sa m.sung.length D.sc,.bool m.done]
  simpa using this
 have h0 := hv.below hB0
 have g0 := hu.below hB0
 have hR := eqRs_any A.ra D.ra A.rc D.rc m.rows _ h0.rows g0.rows h0.fit h0.mr
 have hE : ∀ X,Below w.heap.size w X → Calls Try.prog 52 #[.slice A.sa m.sung.length A.sc,.slice D.sa m.sung.length D.sc] X fun e w' => e = .returned (.bool true) ∧ Below X.heap.size X w' := fun X h => (eq_any A.sa D.sa m.sung.length A.sc m.sung.length D.sc m.sung m.sung X (hv.sung.below h (Nat.le_refl _)) (hu.sung.below h (Nat.le_refl _)) hv.ms).mono (fun e w' ⟨h4,n,h5⟩ => ⟨by rw [h4];simp,by rw [h5];exact belowN (Below.refl _ _)⟩)
 unfold mbV mbC
 generalize hWW : (w.alloc (.cells #[.int .i64 m.id,.int .i64 m.n,.slice A.ra m.rows.length A.rc,.slice A.sa m.sung.length A.sc,.bool m.done] 103)).alloc (.cells #[.int .i64 m.id,.int .i64 m.n,.slice D.ra m.rows.length D.rc,.slice D.sa m.sung.length D.sc,.bool m.done] 103) = W at *
 have n1 : (m.id != m.id) = false := by simp
 have n2 : (m.n != m.n) = false := by simp
 have n3 : (m.done != m.done) = false := by simp
 have HX : Hid (Bx W w.heap.size 103 #[.int .i64 m.id,.int .i64 m.n,.slice A.ra m.rows.length A.rc,.slice A.sa m.sung.length A.sc,.bool m.done]) := hx
 have HY : Hid (Bx W (w.heap.size + 1) 103 #[.int .i64 m.id,.int .i64 m.n,.slice D.ra m.rows.length D.rc,.slice D.sa m.sung.length D.sc,.bool m.done]) := hy
 have HB : Hid (Below w.heap.size w W) := hB0
 obtain ⟨c0,c1,c2,c3,c4⟩ := Bx.r5 hx
 obtain ⟨d0,d1,d2,d3,d4⟩ := Bx.r5 hy
 clear hv hu h0 g0 hB0 hx hy
 go_enter Try.func129,Try.ntmps129
 go_wp2_with fail
 refine hR.mono ?_
 rintro e w1 ⟨rfl,hb1⟩
 have HB1 : Hid (Below w.heap.size w w1) := HB.out.trans (hb1.mono HB.out.size)
 have HX1 : Hid (Bx w1 w.heap.size 103 #[.int .i64 m.id,.int .i64 m.n,.slice A.ra m.rows.length A.rc,.slice A.sa m.sung.length A.sc,.bool m.done]) := HX.out.below hb1
 have HY1 : Hid (Bx w1 (w.heap.size + 1) 103 #[.int .i64 m.id,.int .i64 m.n,.slice D.ra m.rows.length D.rc,.slice D.sa m.sung.length D.sc,.bool m.done]) := HY.out.below hb1
 clear c0 c1 c2 c3 c4 d0 d1 d2 d3 d4 hR hb1
 obtain ⟨c0,c1,c2,c3,c4⟩ := Bx.r5 HX1.out
 obtain ⟨d0,d1,d2,d3,d4⟩ := Bx.r5 HY1.out
 go_wp2_with fail
 refine (hE _ HB1.out).mono ?_
 rintro e w2 ⟨rfl,hb2⟩
 have HB2 : Hid (Below w.heap.size w w2) := HB1.out.trans (hb2.mono HB1.out.size)
 clear c0 c1 c2 c3 c4 d0 d1 d2 d3 d4 hE
 obtain ⟨c0,c1,c2,c3,c4⟩ := Bx.r5 (HX1.out.below hb2)
 obtain ⟨d0,d1,d2,d3,d4⟩ := Bx.r5 (HY1.out.below hb2)
 clear hb2
 go_wp2
 go_ret
 exact ⟨rfl,HB2.out⟩
end Go.Proofs.Ytlnmdfgcpfbleaa
namespace Go.Proofs.Ytlnmdfgcpfbleaa
set_option linter.unusedVariables false
set_option linter.unusedSimpArgs false
open Go.RowKit Go.Sort
end Go.Proofs.Ytlnmdfgcpfbleaa
namespace Go.Proofs.Ytlnmdfgcpfbleaa
set_option linter.unusedVariables false
set_option linter.unusedSimpArgs false
open Go.RowKit Go.Sort
end Go.Proofs.Ytlnmdfgcpfbleaa
namespace Go.Proofs.Ytlnmdfgcpfbleaa
set_option linter.unusedVariables false
set_option linter.unusedSimpArgs false
open Go.RowKit Go.Sort
end Go.Proofs.Ytlnmdfgcpfbleaa
namespace Go.Proofs.Ytlnmdfgcpfbleaa
set_option linter.unusedVariables false
set_option linter.unusedSimpArgs false
open Go.RowKit Go.Sort
end Go.Proofs.Ytlnmdfgcpfbleaa
namespace Go.Proofs.Ytlnmdfgcpfbleaa
set_option linter.unusedVariables false
set_option linter.unusedSimpArgs false
open Go.RowKit Go.Sort
end Go.Proofs.Ytlnmdfgcpfbleaa
namespace Go.Proofs.Ytlnmdfgcpfbleaa
set_option linter.unusedVariables false
set_option linter.unusedSimpArgs false
open Go.RowKit Go.Sort
theorem mixed13 : Try.prog.follows .mixedOrders = true := by kernel_rfl
def FlS (w : World) (a : Option Addr) (al : List Bool) : Prop := al.length = 0 ∨ ∃ b off,a = some ⟨b,off,none⟩ ∧ ∀ i,i < al.length → w.cell? ⟨b,off + i,none⟩ = some (.bool (fl al i))
end Go.Proofs.Ytlnmdfgcpfbleaa