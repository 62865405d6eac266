/-
  Texts in one: Fnb Gnb Mcl Mcm Gnc.
-/
import Derived.Test.YtlnmdfgcpfbleaaJad
import Derived.Test.YtlnmdfgcpfbleaaJab
import Derived.Test.YtlnmdfgcpfbleaaJac
import Derived.BigQuiet
namespace Go.Proofs.Ytlnmdfgcpfbleaa
set_option linter.unusedVariables false
set_option linter.unusedSimpArgs false
open Go.RowKit Go.Sort
theorem Try.info4b : (Try.prog.info? 4).map (fun i => (i.zero,i.size,i.bytes)) = some (some (.bool false),1,1) := by kernel_rfl
def bov (al : List Bool) : List Value := al.map Value.bool
theorem bov_len (al : List Bool) : (bov al).length = al.length := by simp [bov]
theorem bov_get {al : List Bool} {i : Nat} (h : i < al.length) : (bov al)[i]? = some (.bool (fl al i)) := by simp [bov,fl,h]
def OF (w : World) (g off n cap : Nat) (al : List Bool) : Prop := OSl w 1 g off n cap (bov al)
def bocl (al : List Bool) : Cel := .sl 1 al.length (pl (bov al))
theorem ow_bocl {w : World} {al : List Bool} {u : Value} {fp : Fp} : Cel.ow w (bocl al) u fp ↔ ∃ a c G,u = .slice a al.length c ∧ OSo w 1 a al.length c (bov al) G ∧ ∀ b,fp b ↔ G = some b := by
 constructor
 ·rintro ⟨a,c,us,G,f,e,h1,h2,h3,h4⟩
  obtain ⟨rfl,h5⟩ := owL_pl.1 h2
  exact ⟨a,c,G,e,h1,fun b => by rw [h4 b];exact ⟨fun h => h.elim id (fun k => absurd k (h5 b)),.inl⟩⟩
 ·rintro ⟨a,c,G,e,h1,h2⟩
  exact ⟨a,c,bov al,G,fun _ => False,e,h1,owL_pl.2 ⟨rfl,fun _ h => h⟩,fun _ _ h => h,fun b => by rw [h2 b];simp⟩
theorem OF.length {w : World} {g off n cap : Nat} {al : List Bool} (h : OF w g off n cap al) : al.length = n := by have := h.len;rw [bov_len] at this;omega
theorem OF.cellAt {w : World} {g off n cap : Nat} {al : List Bool} (h : OF w g off n cap al) {i : Nat} (hi : i < n) : w.cell? ⟨g,off + i,none⟩ = some (.bool (fl al i)) := by
 have hl := h.length
 rw [h.cell i (by omega)]
 exact bov_get (by omega)
theorem OF.set {w : World} {g off n cap : Nat} {al : List Bool} (h : OF w g off n cap al) {i : Nat} (hi : i < n) (y : Bool) : OF (w.setCell ⟨g,off + i,none⟩ (.bool y)) g off n cap (al.set i y) := by
 have := osl_put h (j := i) (by omega) (.bool y)
 unfold OF
 rw [show bov (al.set i y) = (bov al).set i (.bool y) by simp [bov,List.map_set]]
 exact this
theorem OSo.of_of {w : World} {a : Option Addr} {c : Nat} {al : List Bool} {G : Option Nat} (h : OSo w 1 a al.length c (bov al) G) : (al = [] ∧ c = 0 ∧ G = none) ∨ ∃ g off,a = some ⟨g,off,none⟩ ∧ OF w g off al.length c al ∧ G = some g := by
 rcases h with ⟨h1,h2,_,h3,_⟩ | ⟨g,off,ha,ho,hG⟩
 ·exact .inl ⟨List.eq_nil_of_length_eq_zero h1,h2,h3⟩
 ·exact .inr ⟨g,off,ha,ho,hG⟩
theorem made_of (w : World) (n : Nat) (hn : n ≤ maxLen) : OF (w.alloc (.cells (madeCells #[.bool false] n) 4)) w.heap.size 0 n n (List.replicate n false) := by
 have h := osl_made w #[.bool false] 1 n 4 rfl (by omega) hn
 have e : (List.replicate n (#[Value.bool false] : Array Value).toList).flatten = bov (List.replicate n false) := by
  unfold bov
  rw [List.map_replicate]
  simp
 rw [e,Nat.mul_one] at h
 exact h
def cpF (al : List Bool) (k : Nat) : List Bool := al.take k ++ List.replicate (al.length - k) false
theorem cpF_zero (al : List Bool) : cpF al 0 = List.replicate al.length false := by simp [cpF]
theorem cpF_all (al : List Bool) : cpF al al.length = al := by simp [cpF]
theorem cpF_step {al : List Bool} {k : Nat} (h : k < al.length) : (cpF al k).set k (fl al k) = cpF al (k + 1) := by
 apply List.ext_getElem?
 intro i
 have h1 : ∀ m,m ≤ al.length → (cpF al m)[i]? = if i < m then al[i]? else if i < al.length then some false else none := fun m hm => by
  unfold cpF
  by_cases hi : i < m
  ·rw [List.getElem?_append_left (by simp;omega),if_pos hi,List.getElem?_take,if_pos hi]
  ·rw [List.getElem?_append_right (by simp;omega),if_neg hi,List.getElem?_replicate]
   simp only [List.length_take]
   by_cases h2 : i < al.length
   ·rw [if_pos (by omega),if_pos h2]
   ·rw [if_neg (by omega),if_neg h2]
 rw [List.getElem?_set,h1 k (by omega),h1 (k + 1) (by omega)]
 have hl : (cpF al k).length = al.length := by simp [cpF];omega
 by_cases e : k = i
 ·subst e
  simp [hl,h,fl]
 ·rw [if_neg e]
  by_cases h2 : i < k
  ·rw [if_pos h2,if_pos (by omega)]
  ·simp only [h2,show ¬ i < k + 1 by omega,if_false]
set_option maxRecDepth 100000 in
set_option maxHeartbeats 1600000 in
theorem toF_any (a : Option Addr) (cap : Nat) (al : List Bool) (w : World) (hv : FlS w a al) (hm : al.length ≤ 1048576) :
  Calls Try.prog 96 #[.slice a al.length cap] w fun e w' => ∃ a' c',e = .returned (.slice a' al.length c') ∧ NewO w w' (bocl al) (.slice a' al.length c') := by
 have HV : Hid (FlS w a al) := hv
 have hmk := run_make_row' (P := Try.prog) 52 4 (.bool false) 1 Try.underlying52 Try.info4b rfl .i64 .i64 al.length (by omega) (by omega)
 have HS0 : Hid (OF (w.alloc (.cells (madeCells #[.bool false] al.length) 4)) w.heap.size 0 al.length al.length (cpF al 0)) := by
  rw [Hid,cpF_zero]
  exact made_of w al.length (by unfold maxLen;omega)
 have HB0 : Hid (Below w.heap.size w (w.alloc (.cells (madeCells #[.bool false] al.length) 4))) := (Below.refl _ _).alloc (Nat.le_refl _) _
 clear hv
 go_enter Try.func96,Try.ntmps96
 go_wp2_with fail
 clear hmk
 go_loopw [4] (fun i wr => ∃ k : Nat,k ≤ al.length ∧ i = .int .i64 k ∧ OF wr w.heap.size 0 al.length al.length (cpF al k) ∧ Below w.heap.size w wr) (fun i _ => al.length - (intOf i).toNat)
 case atStart => exact ⟨0,Nat.zero_le _,rfl,HS0.out,HB0.out⟩
 case round =>
  obtain ⟨k,hk,rfl,ho,hb⟩ := hrel
  by_cases hlt : k < al.length
  ·rcases HV.out with h0 | ⟨b,off,rfl,hc⟩
   ·omega
   have hck := (hb.cell (World.block_lt_of_cell? _ _ (hc k hlt))).trans (hc k hlt)
   have hcg := ho.cellAt hlt
   have hfr := ho.free k (by omega)
   rw [Nat.zero_add] at hcg hfr
   have k1 : (k : Int) < (al.length : Int) := by omega
   have k0 : (0 : Int) ≤ (k : Int) := by omega
   have HO : Hid (OF (wr.setCell ⟨w.heap.size,k,none⟩ (.bool (fl al k))) w.heap.size 0 al.length al.length (cpF al (k + 1))) := by
    have := ho.set hlt (fl al k)
    rw [Nat.zero_add,cpF_step hlt] at this
    exact this
   have HB : Hid (Below w.heap.size w (wr.setCell ⟨w.heap.size,k,none⟩ (.bool (fl al k)))) := hb.setCell (p := ⟨w.heap.size,k,none⟩) (Nat.le_refl _) _
   clear ho hb hc
   generalize fl al k = t at *
   go_wp2
   go_roundw
   case rel => exact ⟨k + 1,by omega,by go_num,HO.out,HB.out⟩
   case measure => simp [intOf];omega
  ·have hkl : k = al.length := by omega
   subst hkl
   rw [cpF_all] at ho
   have HE : Hid (NewO w wr (bocl al) (.slice (some ⟨w.heap.size,0,none⟩) al.length al.length)) := ⟨fun b => b = w.heap.size,ow_bocl.2 ⟨_,_,some w.heap.size,rfl,OSo.of ho,fun b => by simp [eq_comm]⟩,fun b hb => by omega,hb⟩
   clear ho hb
   go_wp2
   go_ret
   exact ⟨_,_,rfl,HE.out⟩
set_option maxRecDepth 100000 in
set_option maxHeartbeats 1600000 in
theorem eqF_any (a a' : Option Addr) (cap cap' : Nat) (al : List Bool) (w : World) (hz : FlS w a al) (hy : FlS w a' al) (hm : al.length ≤ maxLen) :
  Calls Try.prog 103 #[.slice a al.length cap,.slice a' al.length cap'] w fun e w' => e = .returned (.bool true) ∧ Grew w w' := by
 unfold maxLen at hm
 have HZ : Hid (FlS w a al) := hz
 have HY : Hid (FlS w a' al) := hy
 have hne : ((al.length : Int) != (al.length : Int)) = false := by simp
 clear hz hy
 go_enter Try.func103,Try.ntmps103
 go_wp2
 clear hne
 go_loopw [5] (fun i wr => ∃ j : Nat,j ≤ al.length ∧ i = .int .i64 j ∧ ∃ q,wr = w.drewN q) (fun i _ => al.length - (intOf i).toNat)
 case atStart => exact ⟨0,Nat.zero_le _,rfl,0,rfl⟩
 case round =>
  obtain ⟨j,hj,rfl,q,rfl⟩ := hrel
  by_cases hlt : j < al.length
  ·rcases HZ.out with h0 | ⟨b,off,rfl,hc⟩
   ·omega
   rcases HY.out with h0 | ⟨b',off',rfl,hc'⟩
   ·omega
   have c1 := hc j hlt
   have c2 := hc' j hlt
   have j1 : (j : Int) < (al.length : Int) := by omega
   have j0 : (0 : Int) ≤ (j : Int) := by omega
   generalize fl al j = A at *
   have hb : (A != A) = false := by simp
   clear hc hc'
   have hmix := mixed13
   go_wp2_with fail
   go_quiet (fail)
   go_wp2
   go_roundw
   case rel => exact ⟨j + 1,by omega,by go_num,_,rfl⟩
   case measure => simp [intOf];omega
  ·have hjl : j = al.length := by omega
   subst hjl
   go_wp2
   go_ret
   exact ⟨rfl,(Grew.refl _).drewN _⟩
def mkF (al : List Bool) (k0 : Nat) : Nat → List Bool
 | 0 => al
 | j + 1 => (mkF al k0 j).set j (((k0 + j : Nat) : Int) % 3 == 0)
theorem mkF_len (al : List Bool) (k0 : Nat) : ∀ j,(mkF al k0 j).length = al.length
 | 0 => rfl
 | j + 1 => by rw [mkF,List.length_set];exact mkF_len al k0 j
set_option maxRecDepth 100000 in
set_option maxHeartbeats 1600000 in
theorem markF_it (a : Option Addr) (c k0 lo hi : Nat) (al : List Bool) (w : World) (h : It w [bocl al] [.slice a al.length c] lo hi) (hk : k0 ≤ 10000000) (hn : al.length ≤ 10000000) :
  Calls Try.prog 108 #[.slice a al.length c,.int .i64 (k0 : Int)] w fun e w' => e = .returned (.int .i64 ((k0 + al.length : Nat) : Int)) ∧ It w' [bocl (mkF al k0 al.length)] [.slice a al.length c] lo hi ∧ Wrt (Iv lo hi) w w' := by
 obtain ⟨f,h1,h2⟩ := h.ow1
 obtain ⟨a',c',G,e,ho,hG⟩ := ow_bocl.1 h1
 cases e
 rcases ho.of_of with ⟨rfl,rfl,_⟩ | ⟨g,off,rfl,hof,rfl⟩
 ·have HIT : Hid (It w [bocl []] [.slice a 0 0] lo hi) := h
  clear h h1 h2 ho hG
  simp only [List.length_nil]
  go_enter Try.func108,Try.ntmps108
  go_wp2
  go_loop [1,5] (fun q i => i = .int .i64 0 ∧ q = .int .i64 (k0 : Int)) (fun _ _ => 0)
  case atStart => exact ⟨rfl,rfl⟩
  case round =>
   obtain ⟨rfl,rfl⟩ := hrel
   go_wp2
   go_ret
   exact ⟨rfl,HIT.out,Wrt.refl _ _⟩
 ·have hg := h2 g ((hG g).2 rfl)
  have HG : Hid (lo ≤ g ∧ g < hi) := hg
  have HO0 : Hid (OF w g off al.length c (mkF al k0 0)) := hof
  clear h h1 h2 ho hG hof hg
  go_enter Try.func108,Try.ntmps108
  go_wp2
  go_loopw [1,5] (fun q i wr => ∃ j : Nat,j ≤ al.length ∧ i = .int .i64 j ∧ q = .int .i64 ((k0 + j : Nat) : Int) ∧ OF wr g off al.length c (mkF al k0 j) ∧ Wrt (Iv lo hi) w wr) (fun _ i _ => al.length - (intOf i).toNat)
  case atStart => exact ⟨0,Nat.zero_le _,rfl,rfl,HO0.out,Wrt.refl _ _⟩
  case round =>
   obtain ⟨j,hj,rfl,rfl,hO,hW⟩ := hrel
   have HO : Hid (OF wr g off al.length c (mkF al k0 j)) := hO
   have HW : Hid (Wrt (Iv lo hi) w wr) := hW
   clear HO0 hW
   by_cases hlt : j < al.length
   ·have hc := hO.cellAt hlt
    have hf := hO.free j (by have := hO.le;omega)
    have j1 : (j : Int) < (al.length : Int) := by omega
    have j0 : (0 : Int) ≤ (j : Int) := by omega
    have NO : Hid (OF (wr.setCell ⟨g,off + j,none⟩ (.bool (((k0 + j : Nat) : Int) % 3 == 0))) g off al.length c (mkF al k0 (j + 1))) := hO.set hlt _
    have NW : Hid (Wrt (Iv lo hi) w (wr.setCell ⟨g,off + j,none⟩ (.bool (((k0 + j : Nat) : Int) % 3 == 0)))) := HW.out.trans (Wrt.set wr g (off + j) _) (fun b _ e => by rw [e];exact HG.out)
    clear hO
    generalize fl (mkF al k0 j) j = old at *
    generalize hKJ : k0 + j = KJ at *
    have hkb : (KJ : Int) + 1 ≤ 9223372036854775807 := by omega
    have hkc : -9223372036854775808 ≤ (KJ : Int) + 1 := by omega
    go_wp2
    go_roundw
    case rel => exact ⟨j + 1,by omega,by go_num,by rw [show k0 + (j + 1) = KJ + 1 by omega];go_num,NO.out,NW.out⟩
    case measure => simp [intOf];omega
   ·obtain rfl : j = al.length := by omega
    have HIT : Hid (It wr [bocl (mkF al k0 al.length)] [.slice (some ⟨g,off,none⟩) al.length c] lo hi) := by
     have h3 := mkF_len al k0 al.length
     refine It.of1 (f := fun b => b = g) (ow_bocl.2 ⟨some ⟨g,off,none⟩,c,some g,by rw [h3], ?_,fun b => by simp [eq_comm]⟩) (fun b hb => by rw [hb];exact HG.out)
     rw [h3]
     exact OSo.of HO.out
    clear hO
    go_wp2
    go_ret
    exact ⟨rfl,HIT.out,HW.out⟩
end Go.Proofs.Ytlnmdfgcpfbleaa
namespace Go.Proofs.Ytlnmdfgcpfbleaa
set_option linter.unusedVariables false
set_option linter.unusedSimpArgs false
open Go.RowKit Go.Sort
set_option maxRecDepth 100000 in
set_option maxHeartbeats 1600000 in
theorem eqMl_any (A D : Ra) (x : Ml) (w : World) (hv : RwS w A x.row) (hu : RwS w D x.row) :
  Calls Try.prog 130 #[mlV A x,mlV D x] w fun e w' => e = .returned (.bool true) ∧ Below w.heap.size w w' := by
 have hB0 : Below w.heap.size w ((w.alloc (.cells #[.int .i64 x.fr,.int .i64 x.to,.int .i64 x.row.ver,.slice A.ta x.row.txt.length A.tc,.slice A.ga x.row.got.length A.gc,.slice A.sa x.row.sus.length A.sc,.bool x.row.wed,.bool x.row.rdy,.int .i64 x.row.by_,.slice A.ma x.row.trm.length A.mc] 139)).alloc (.cells #[.int .i64 x.fr,.int .i64 x.to,.int .i64 x.row.ver,.slice D.ta x.row.txt.length D.tc,.slice D.ga x.row.got.length D.gc,.slice D.sa x.row.sus.length D.sc,.bool x.row.wed,.bool x.row.rdy,.int .i64 x.row.by_,.slice D.ma x.row.trm.length D.mc] 139)) := (oneA16 w _).trans ((oneA16 _ _).mono (oneA16 w _).size)
 have hx : Bx ((w.alloc (.cells #[.int .i64 x.fr,.int .i64 x.to,.int .i64 x.row.ver,.slice A.ta x.row.txt.length A.tc,.slice A.ga x.row.got.length A.gc,.slice A.sa x.row.sus.length A.sc,.bool x.row.wed,.bool x.row.rdy,.int .i64 x.row.by_,.slice A.ma x.row.trm.length A.mc] 139)).alloc (.cells #[.int .i64 x.fr,.int .i64 x.to,.int .i64 x.row.ver,.slice D.ta x.row.txt.length D.tc,.slice D.ga x.row.got.length D.gc,.slice D.sa x.row.sus.length D.sc,.bool x.row.wed,.bool x.row.rdy,.int .i64 x.row.by_,.slice D.ma x.row.trm.length D.mc] 139)) w.heap.size 139 #[.int .i64 x.fr,.int .i64 x.to,.int .i64 x.row.ver,.slice A.ta x.row.txt.length A.tc,.slice A.ga x.row.got.length A.gc,.slice A.sa x.row.sus.length A.sc,.bool x.row.wed,.bool x.row.rdy,.int .i64 x.row.by_,.slice A.ma x.row.trm.length A.mc] := (Bx.new w _ _).alloc _
 have hy : Bx ((w.alloc (.cells #[.int .i64 x.fr,.int .i64 x.to,.int .i64 x.row.ver,.slice A.ta x.row.txt.length A.tc,.slice A.ga x.row.got.length A.gc,.slice A.sa x.row.sus.length A.sc,.bool x.row.wed,.bool x.row.rdy,.int .i64 x.row.by_,.slice A.ma x.row.trm.length A.mc] 139)).alloc (.cells #[.int .i64 x.fr,.int .i64 x.to,.int .i64 x.row.ver,.slice D.ta x.row.txt.length D.tc,.slice D.ga x.row.got.length D.gc,.slice D.sa x.row.sus.length D.sc,.bool x.row.wed,.bool x.row.rdy,.int .i64 x.row.by_,.slice D.ma x.row.trm.length D.mc] 139)) (w.heap.size + 1) 139 #[.int .i64 x.fr,.int .i64 x.to,.int .i64 x.row.ver,.slice D.ta x.row.txt.length D.tc,.slice D.ga x.row.got.length D.gc,.slice D.sa x.row.sus.length D.sc,.bool x.row.wed,.bool x.row.rdy,.int .i64 x.row.by_,.slice D.ma x.row.trm.length D.mc] := by
  have := Bx.new (w.alloc (.cells #[.int .i64 x.fr,.int .i64 x.to,.int .i64 x.row.ver,.slice A.ta x.row.txt.length A.tc,.slice A.ga x.row.got.length A.gc,.slice A.sa x.row.sus.length A.sc,.bool x.row.wed,.bool x.row.rdy,.int .i64 x.row.by_,.slice A.ma x.row.trm.length A.mc] 139)) 139 #[.int .i64 x.fr,.int .i64 x.to,.int .i64 x.row.ver,.slice D.ta x.row.txt.length D.tc,.slice D.ga x.row.got.length D.gc,.slice D.sa x.row.sus.length D.sc,.bool x.row.wed,.bool x.row.rdy,.int .i64 x.row.by_,.slice D.ma x.row.trm.length D.mc]
  simpa using this
 have hR := eqRw_any A D x.row _ (hv.below hB0) (hu.below hB0)
 unfold mlV mlC
 unfold rwV rwC at hR
 generalize hWW : (w.alloc (.cells #[.int .i64 x.fr,.int .i64 x.to,.int .i64 x.row.ver,.slice A.ta x.row.txt.length A.tc,.slice A.ga x.row.got.length A.gc,.slice A.sa x.row.sus.length A.sc,.bool x.row.wed,.bool x.row.rdy,.int .i64 x.row.by_,.slice A.ma x.row.trm.length A.mc] 139)).alloc (.cells #[.int .i64 x.fr,.int .i64 x.to,.int .i64 x.row.ver,.slice D.ta x.row.txt.length D.tc,.slice D.ga x.row.got.length D.gc,.slice D.sa x.row.sus.length D.sc,.bool x.row.wed,.bool x.row.rdy,.int .i64 x.row.by_,.slice D.ma x.row.trm.length D.mc] 139) = W at *
 have n1 : (x.fr != x.fr) = false := by simp
 have n2 : (x.to != x.to) = false := by simp
 have HB : Hid (Below w.heap.size w W) := hB0
 obtain ⟨⟨c0,c1⟩,⟨c2,c3,c4,c5⟩,c6,c7,c8,c9⟩ := Bx.r10 hx
 obtain ⟨⟨d0,d1⟩,⟨d2,d3,d4,d5⟩,d6,d7,d8,d9⟩ := Bx.r10 hy
 clear hv hu hB0 hx hy
 go_enter Try.func130,Try.ntmps130
 go_wp2_with (go_at_call 42;refine hR.mono ?_;rintro e w1 ⟨rfl,hb1⟩;have HB1 : Hid (Below w.heap.size w w1) := (HB.out.trans (hb1.mono HB.out.size));clear hb1)
 go_ret
 exact ⟨rfl,HB1.out⟩
attribute [local irreducible] sv
set_option maxRecDepth 100000 in
set_option maxHeartbeats 3200000 in
theorem eqMs_any (a a' : Option Addr) (cap cap' : Nat) (R : List Mb) (w : World) (hv : Cel.vw w (lcl 5 mb5 R) (.slice a R.length cap)) (hu : Cel.vw w (lcl 5 mb5 R) (.slice a' R.length cap')) (hf : ∀ m ∈ R,FitM m) (hm : R.length ≤ maxLen) :
  Calls Try.prog 102 #[.slice a R.length cap,.slice a' R.length cap'] w fun e w' => e = .returned (.bool true) ∧ Below w.heap.size w w' := by
 have HV : Hid (Cel.vw w (lcl 5 mb5 R) (.slice a R.length cap)) := hv
 have HU : Hid (Cel.vw w (lcl 5 mb5 R) (.slice a' R.length cap')) := hu
 have hbb : ((R.length : Int) != (R.length : Int)) = false := by simp
 unfold maxLen at hm
 clear hv hu
 go_enter Try.func102,Try.ntmps102
 go_wp2_with fail
 go_loopw [5] (fun v wr => ∃ k : Nat,k ≤ R.length ∧ v = .int .i64 (k : Int) ∧ Below w.heap.size w wr) (fun v _ => R.length - (intOf v).toNat)
 case atStart => exact ⟨0,Nat.zero_le _,rfl,Below.refl _ _⟩
 case round =>
  obtain ⟨k,hk,rfl,hb⟩ := hrel
  by_cases hlt : k < R.length
  ·have k1 : (k : Int) < (R.length : Int) := by omega
   have k0 : (0 : Int) ≤ (k : Int) := by omega
   have hkx := mbN_at hlt
   have hmem : mbN R k ∈ R := List.mem_of_getElem? hkx
   obtain ⟨g,off,hra,hpv⟩ := vw_elF mb5_len (Cel.vw_below HV.out hb) hkx
   obtain ⟨g',off',hra',hpv'⟩ := vw_elF mb5_len (Cel.vw_below HU.out hb) hkx
   obtain ⟨A,⟨d0,d1,d2,d3,d4⟩,hrs⟩ := hpv.mem (hf _ hmem)
   obtain ⟨A',⟨e0,e1,e2,e3,e4⟩,hrs'⟩ := hpv'.mem (hf _ hmem)
   subst hra hra'
   have C : ∀ q : Bk wr,Calls Try.prog 129 #[mbV A (mbN R k),mbV A' (mbN R k)] q.w fun e w' => e = .returned (.bool true) ∧ Below q.w.heap.size q.w w' := fun q => eqMb_any A A' _ q.w (hrs.below q.h) (hrs'.below q.h)
   unfold mbV mbC at C
   have T : ∀ {x v},wr.cell? x = some v → ∀ q : Bk wr,q.w.cell? x = some v := fun h q => (q.h.cell (World.block_lt_of_cell? _ _ h)).trans h
   have dp0 := T d0
   have ep0 := T e0
   have dp1 := T d1
   have ep1 := T e1
   have dp2 := T d2
   have ep2 := T e2
   have dp3 := T d3
   have ep3 := T e3
   have dp4 := T d4
   have ep4 := T e4
   have HB : Hid (Below w.heap.size w wr) := hb
   generalize mbN R k = r at *
   clear hrs hrs' hpv hpv' hb T d0 e0 d1 e1 d2 e2 d3 e3 d4 e4 hkx
   go_wp2_with fail
   refine wp_region_bk (by kernel_rfl) (by kernel_rfl) ?_
   repeat (go_big_quiet_step ((first | (go_at_call 129;exact bk_call _ (C _)) | rfl)))
   refine wpQuiet_nil ?_
   intro wE hw'
   obtain ⟨⟨w11,hb11⟩,hw''⟩ := hw'
   have hwe : wE = w11 := hw''
   clear hw''
   subst hwe
   have HB1 : Hid (Below w.heap.size w wE) := HB.out.trans (hb11.mono HB.out.size)
   clear C hb11 dp0 ep0 dp1 ep1 dp2 ep2 dp3 ep3 dp4 ep4
   go_wp2
   go_roundw
   case rel => exact ⟨k + 1,by omega,by go_num,HB1.out⟩
   case measure => simp [intOf];omega
  ·have k1 : ¬ ((k : Int) < (R.length : Int)) := by omega
   have HB : Hid (Below w.heap.size w wr) := hb
   clear hb
   go_wp2
   go_ret
   exact ⟨rfl,HB.out⟩
set_option maxRecDepth 100000 in
set_option maxHeartbeats 3200000 in
theorem eqLs_any (a a' : Option Addr) (cap cap' : Nat) (R : List Ml) (w : World) (hv : Cel.vw w (lcl 10 ml10 R) (.slice a R.length cap)) (hu : Cel.vw w (lcl 10 ml10 R) (.slice a' R.length cap')) (hf : ∀ x ∈ R,FitR x.row) (hm : R.length ≤ maxLen) :
  Calls Try.prog 104 #[.slice a R.length cap,.slice a' R.length cap'] w fun e w' => e = .returned (.bool true) ∧ Below w.heap.size w w' := by
 have HV : Hid (Cel.vw w (lcl 10 ml10 R) (.slice a R.length cap)) := hv
 have HU : Hid (Cel.vw w (lcl 10 ml10 R) (.slice a' R.length cap')) := hu
 have hbb : ((R.length : Int) != (R.length : Int)) = false := by simp
 unfold maxLen at hm
 clear hv hu
 go_enter Try.func104,Try.ntmps104
 go_wp2_with fail
 go_loopw [5] (fun v wr => ∃ k : Nat,k ≤ R.length ∧ v = .int .i64 (k : Int) ∧ Below w.heap.size w wr) (fun v _ => R.length - (intOf v).toNat)
 case atStart => exact ⟨0,Nat.zero_le _,rfl,Below.refl _ _⟩
 case round =>
  obtain ⟨k,hk,rfl,hb⟩ := hrel
  by_cases hlt : k < R.length
  ·have k1 : (k : Int) < (R.length : Int) := by omega
   have k0 : (0 : Int) ≤ (k : Int) := by omega
   have hkx := mlN_at hlt
   have hmem : mlN R k ∈ R := List.mem_of_getElem? hkx
   obtain ⟨g,off,hra,hpv⟩ := vw_elF ml10_len (Cel.vw_below HV.out hb) hkx
   obtain ⟨g',off',hra',hpv'⟩ := vw_elF ml10_len (Cel.vw_below HU.out hb) hkx
   obtain ⟨A,⟨d0,d1⟩,⟨d2,d3,d4,d5⟩,d6,d7,d8,d9,hrs⟩ := hpv.mlr (hf _ hmem)
   obtain ⟨A',⟨e0,e1⟩,⟨e2,e3,e4,e5⟩,e6,e7,e8,e9,hrs'⟩ := hpv'.mlr (hf _ hmem)
   subst hra hra'
   have C : ∀ q : Bk wr,Calls Try.prog 130 #[mlV A (mlN R k),mlV A' (mlN R k)] q.w fun e w' => e = .returned (.bool true) ∧ Below q.w.heap.size q.w w' := fun q => eqMl_any A A' _ q.w (hrs.below q.h) (hrs'.below q.h)
   unfold mlV mlC at C
   have T : ∀ {x v},wr.cell? x = some v → ∀ q : Bk wr,q.w.cell? x = some v := fun h q => (q.h.cell (World.block_lt_of_cell? _ _ h)).trans h
   have dp0 := T d0
   have ep0 := T e0
   have dp1 := T d1
   have ep1 := T e1
   have dp2 := T d2
   have ep2 := T e2
   have dp3 := T d3
   have ep3 := T e3
   have dp4 := T d4
   have ep4 := T e4
   have dp5 := T d5
   have ep5 := T e5
   have dp6 := T d6
   have ep6 := T e6
   have dp7 := T d7
   have ep7 := T e7
   have dp8 := T d8
   have ep8 := T e8
   have dp9 := T d9
   have ep9 := T e9
   have HB : Hid (Below w.heap.size w wr) := hb
   generalize mlN R k = r at *
   clear hrs hrs' hpv hpv' hb T d0 e0 d1 e1 d2 e2 d3 e3 d4 e4 d5 e5 d6 e6 d7 e7 d8 e8 d9 e9 hkx
   go_wp2_with fail
   refine wp_region_bk (by kernel_rfl) (by kernel_rfl) ?_
   repeat (go_big_quiet_step ((first | (go_at_call 130;exact bk_call _ (C _)) | rfl)))
   refine wpQuiet_nil ?_
   intro wE hw'
   obtain ⟨⟨w11,hb11⟩,hw''⟩ := hw'
   have hwe : wE = w11 := hw''
   clear hw''
   subst hwe
   have HB1 : Hid (Below w.heap.size w wE) := HB.out.trans (hb11.mono HB.out.size)
   clear C hb11 dp0 ep0 dp1 ep1 dp2 ep2 dp3 ep3 dp4 ep4 dp5 ep5 dp6 ep6 dp7 ep7 dp8 ep8 dp9 ep9
   go_wp2
   go_roundw
   case rel => exact ⟨k + 1,by omega,by go_num,HB1.out⟩
   case measure => simp [intOf];omega
  ·have k1 : ¬ ((k : Int) < (R.length : Int)) := by omega
   have HB : Hid (Below w.heap.size w wr) := hb
   clear hb
   go_wp2
   go_ret
   exact ⟨rfl,HB.out⟩
set_option maxRecDepth 100000 in
set_option maxHeartbeats 3200000 in
theorem eqGr_any (A D : Ga) (g : Gr) (w : World) (hv : GrS w A g) (hu : GrS w D g) :
  Calls Try.prog 47 #[grV A g,grV D g] w fun e w' => e = .returned (.bool true) ∧ Below w.heap.size w w' := by
 have hB0 : Below w.heap.size w ((w.alloc (.cells #[.slice A.ma g.mem.length A.mc,.slice A.ua g.up.length A.uc,.slice A.la g.mail.length A.lc] 61)).alloc (.cells #[.slice D.ma g.mem.length D.mc,.slice D.ua g.up.length D.uc,.slice D.la g.mail.length D.lc] 61)) := (oneA16 w _).trans ((oneA16 _ _).mono (oneA16 w _).size)
 have hx : Bx ((w.alloc (.cells #[.slice A.ma g.mem.length A.mc,.slice A.ua g.up.length A.uc,.slice A.la g.mail.length A.lc] 61)).alloc (.cells #[.slice D.ma g.mem.length D.mc,.slice D.ua g.up.length D.uc,.slice D.la g.mail.length D.lc] 61)) w.heap.size 61 #[.slice A.ma g.mem.length A.mc,.slice A.ua g.up.length A.uc,.slice A.la g.mail.length A.lc] := (Bx.new w _ _).alloc _
 have hy : Bx ((w.alloc (.cells #[.slice A.ma g.mem.length A.mc,.slice A.ua g.up.length A.uc,.slice A.la g.mail.length A.lc] 61)).alloc (.cells #[.slice D.ma g.mem.length D.mc,.slice D.ua g.up.length D.uc,.slice D.la g.mail.length D.lc] 61)) (w.heap.size + 1) 61 #[.slice D.ma g.mem.length D.mc,.slice D.ua g.up.length D.uc,.slice D.la g.mail.length D.lc] := by
  have := Bx.new (w.alloc (.cells #[.slice A.ma g.mem.length A.mc,.slice A.ua g.up.length A.uc,.slice A.la g.mail.length A.lc] 61)) 61 #[.slice D.ma g.mem.length D.mc,.slice D.ua g.up.length D.uc,.slice D.la g.mail.length D.lc]
  simpa using this
 have h0 := hv.below hB0
 have g0 := hu.below hB0
 have hM := eqMs_any A.ma D.ma A.mc D.mc g.mem _ h0.mem g0.mem h0.fit.1 h0.lm
 have hU : ∀ X,Below w.heap.size w X → Calls Try.prog 103 #[.slice A.ua g.up.length A.uc,.slice D.ua g.up.length D.uc] X fun e w' => e = .returned (.bool true) ∧ Below X.heap.size X w' := fun X h => (eqF_any A.ua D.ua A.uc D.uc g.up X (hv.below h).up (hu.below h).up hv.lu).mono (fun e w' h4 => ⟨h4.1,h4.2.1⟩)
 have hL : ∀ X,Below w.heap.size w X → Calls Try.prog 104 #[.slice A.la g.mail.length A.lc,.slice D.la g.mail.length D.lc] X fun e w' => e = .returned (.bool true) ∧ Below X.heap.size X w' := fun X h => eqLs_any A.la D.la A.lc D.lc g.mail X (hv.below h).mail (hu.below h).mail hv.fit.2 hv.ll
 unfold grV grC
 generalize hWW : (w.alloc (.cells #[.slice A.ma g.mem.length A.mc,.slice A.ua g.up.length A.uc,.slice A.la g.mail.length A.lc] 61)).alloc (.cells #[.slice D.ma g.mem.length D.mc,.slice D.ua g.up.length D.uc,.slice D.la g.mail.length D.lc] 61) = W at *
 have HX : Hid (Bx W w.heap.size 61 #[.slice A.ma g.mem.length A.mc,.slice A.ua g.up.length A.uc,.slice A.la g.mail.length A.lc]) := hx
 have HY : Hid (Bx W (w.heap.size + 1) 61 #[.slice D.ma g.mem.length D.mc,.slice D.ua g.up.length D.uc,.slice D.la g.mail.length D.lc]) := hy
 have HB : Hid (Below w.heap.size w W) := hB0
 obtain ⟨c0,c1,c2⟩ := Bx.g3 hx
 obtain ⟨d0,d1,d2⟩ := Bx.g3 hy
 clear hv hu h0 g0 hB0 hx hy
 go_enter Try.func47,Try.ntmps47
 go_wp2_with fail
 refine hM.mono ?_
 rintro e w1 ⟨rfl,hb1⟩
 have HB1 : Hid (Below w.heap.size w w1) := HB.out.trans (hb1.mono HB.out.size)
 have HX1 : Hid (Bx w1 w.heap.size 61 #[.slice A.ma g.mem.length A.mc,.slice A.ua g.up.length A.uc,.slice A.la g.mail.length A.lc]) := HX.out.below hb1
 have HY1 : Hid (Bx w1 (w.heap.size + 1) 61 #[.slice D.ma g.mem.length D.mc,.slice D.ua g.up.length D.uc,.slice D.la g.mail.length D.lc]) := HY.out.below hb1
 clear c0 c1 c2 d0 d1 d2 hM hb1
 obtain ⟨c0,c1,c2⟩ := Bx.g3 HX1.out
 obtain ⟨d0,d1,d2⟩ := Bx.g3 HY1.out
 go_wp2_with fail
 refine (hU _ HB1.out).mono ?_
 rintro e w2 ⟨rfl,hb2⟩
 have HB2 : Hid (Below w.heap.size w w2) := HB1.out.trans (hb2.mono HB1.out.size)
 clear c0 c1 c2 d0 d1 d2 hU
 obtain ⟨c0,c1,c2⟩ := Bx.g3 (HX1.out.below hb2)
 obtain ⟨d0,d1,d2⟩ := Bx.g3 (HY1.out.below hb2)
 clear hb2
 go_wp2_with fail
 refine (hL _ HB2.out).mono ?_
 rintro e w3 ⟨rfl,hb3⟩
 have HB3 : Hid (Below w.heap.size w w3) := HB2.out.trans (hb3.mono HB2.out.size)
 clear c0 c1 c2 d0 d1 d2 hb3 hL
 go_wp2
 go_ret
 exact ⟨rfl,HB3.out⟩
end Go.Proofs.Ytlnmdfgcpfbleaa
namespace Go.Proofs.Ytlnmdfgcpfbleaa
set_option linter.unusedVariables false
set_option linter.unusedSimpArgs false
open Go.RowKit Go.Sort
theorem infoRow17 : (Try.prog.info? 35).map (fun i => (i.zero,i.size,i.bytes)) = some (some (.agg zero8),8,120) := by kernel_rfl
theorem make_rs (n : Nat) (hn : n ≤ 1048576) (w : World) :
  (Instr.makeSlice 101 (.int .i64 (n : Int)) (.int .i64 (n : Int))).run Try.prog w = .ok (.slice (some ⟨w.heap.size,0,none⟩) n n) (w.alloc (.cells (madeCells zero8 (n * 8)) 35)) := by
 obtain ⟨i,hi,hz,hs,hb⟩ := info_parts2n infoRow17
 have hr := run_make (P := Try.prog) w 101 35 i _ Try.underlying101 hi hz .i64 .i64 n n (by omega) (Int.le_refl _) (by rw [hb];omega) (by omega)
 simp only [Int.toNat_natCast,hs] at hr
 exact hr
theorem flat_rep {α : Type} (F : α → List Cel) (x : α) : ∀ n,(List.replicate n x).flatMap F = (List.replicate n (F x)).flatten
 | 0 => rfl
 | n + 1 => by rw [List.replicate_succ,List.replicate_succ,List.flatMap_cons,List.flatten_cons,flat_rep F x n]
theorem ow_zero8 (w : World) : owL w (rw8 zeroRw) zero8.toList (fun _ => False) := by
 have h : owL w (rwCels zeroRw) (rwVals ⟨none,0,none,0,none,0,none,0⟩ zeroRw) (fun _ => False) := owL_congr (owL4 (ow_none_s w) (ow_none_i w) (ow_none_i w) (ow_none_i w) (fun _ h => h.elim) (fun _ h => h.elim) (fun _ h => h.elim)) (fun b => by simp)
 exact ow_rw8 h
theorem rows_made (w : World) (n : Nat) (hn : n ≤ 1048576) : Cel.ow (w.alloc (.cells (madeCells zero8 (n * 8)) 35)) (lcl 8 rw8 (List.replicate n zeroRw)) (.slice (some ⟨w.heap.size,0,none⟩) n n) (fun b => b = w.heap.size) := by
 have h := osl_made w zero8 8 n 35 rfl (by omega) (by unfold maxLen;omega)
 unfold lcl
 rw [flat_rep,List.length_replicate]
 exact ⟨_,n,_,some w.heap.size,fun _ => False,rfl,OSo.of h,owL_zeros (ow_zero8 _) (fun b h => h) n,fun _ _ h => h,fun b => by simp [eq_comm]⟩
def prR (R : List Rw) (k : Nat) : List Rw := R.take k ++ List.replicate (R.length - k) zeroRw
theorem prR_len {R : List Rw} {k : Nat} (hk : k ≤ R.length) : (prR R k).length = R.length := by simp [prR];omega
theorem prR_at {R : List Rw} {k : Nat} (hk : k < R.length) : (prR R k)[k]? = some zeroRw := by
 have e2 : R.length - k = (R.length - (k + 1)) + 1 := by omega
 have e3 : (R.take k).length = k := by simp;omega
 rw [prR,List.getElem?_append_right (by omega),e2,List.replicate_succ,e3,Nat.sub_self]
 rfl
theorem prR_set {R : List Rw} {k : Nat} (hk : k < R.length) : (prR R k).set k (rowN R k) = prR R (k + 1) := by
 have e : rowN R k = R[k] := by simp [rowN,List.getD,hk]
 have e2 : R.length - k = (R.length - (k + 1)) + 1 := by omega
 have e3 : (R.take k).length = k := by simp;omega
 rw [prR,prR,e,e2,List.replicate_succ,List.set_append_right _ _ (by omega),List.take_succ_eq_append_getElem hk,e3,Nat.sub_self,List.set_cons_zero,List.append_assoc]
 rfl
theorem szP_mono (R : List Rw) {a b : Nat} (h : a ≤ b) : szP R a ≤ szP R b := by
 unfold szP
 obtain ⟨c,rfl⟩ := Nat.exists_eq_add_of_le h
 rw [List.take_add,List.map_append,List.sum_append]
 omega
theorem prR_all (R : List Rw) : prR R R.length = R := by simp [prR]
set_option maxRecDepth 100000 in
set_option maxHeartbeats 3200000 in
theorem toRs_any (a : Option Addr) (cap : Nat) (R : List Rw) (w : World) (hv : Cel.vw w (lcl 8 rw8 R) (.slice a R.length cap)) (hf : ∀ r ∈ R,FitR r) (hs : szRs R ≤ 1048576) :
  Calls Try.prog 135 #[.slice a R.length cap] w fun e w' => ∃ a' c',e = .returned (.slice a' R.length c') ∧ NewO w w' (lcl 8 rw8 R) (.slice a' R.length c') := by
 have HV : Hid (Cel.vw w (lcl 8 rw8 R) (.slice a R.length cap)) := hv
 have hl : R.length ≤ 1048576 := by unfold szRs at hs;omega
 have HSZ : Hid (∀ k,k < R.length → szRw (rowN R k) ≤ 1048576) := fun k hk => by
  have h1 : szP R (k + 1) ≤ szP R R.length := szP_mono R (by omega)
  rw [szP_next hk] at h1
  unfold szRs at hs
  omega
 have hmk := make_rs R.length hl
 have HS : Hid (Cel.ow (w.alloc (.cells (madeCells zero8 (R.length * 8)) 35)) (lcl 8 rw8 (prR R 0)) (.slice (some ⟨w.heap.size,0,none⟩) R.length R.length) (fun b => b = w.heap.size) ∧ Below w.heap.size w (w.alloc (.cells (madeCells zero8 (R.length * 8)) 35))) := by
  refine ⟨?_,oneA16 w _⟩
  have := rows_made w R.length hl
  have e : prR R 0 = List.replicate R.length zeroRw := by simp [prR]
  rw [e]
  exact this
 clear hv
 go_enter Try.func135,Try.ntmps135
 go_wp2_with fail
 clear hmk
 generalize w.alloc (.cells (madeCells zero8 (R.length * 8)) 35) = W0 at *
 go_loopw [4] (fun i wr => ∃ (k : Nat) (fp : Fp),k ≤ R.length ∧ i = .int .i64 k ∧ Cel.ow wr (lcl 8 rw8 (prR R k)) (.slice (some ⟨w.heap.size,0,none⟩) R.length R.length) fp ∧ (∀ b,fp b → w.heap.size ≤ b) ∧ Below w.heap.size w wr) (fun i _ => R.length - (intOf i).toNat)
 case atStart => exact ⟨0,_,Nat.zero_le _,rfl,HS.out.1,fun b h => by rw [h];exact Nat.le_refl _,HS.out.2⟩
 case round =>
  obtain ⟨k,fp,hk,rfl,ho,hfp,hb⟩ := hrel
  by_cases hlt : k < R.length
  ·have k1 : (k : Int) < (R.length : Int) := by omega
   have k0 : (0 : Int) ≤ (k : Int) := by omega
   have hmem : rowN R k ∈ R := rowN_mem hlt
   obtain ⟨g,off,hra,hpv⟩ := vw_elF rw8_len (Cel.vw_below HV.out hb) (k := k) (x := rowN R k) (by simp [rowN,List.getD,hlt])
   obtain ⟨Ak,⟨⟨d0,d1,d2,d3⟩,d4,d5,d6,d7⟩,hrs⟩ := hpv.row (hf _ hmem)
   subst hra
   have hz := HSZ.out k hlt
   unfold szRw at hz
   have hC := toRw_any Ak (rowN R k) wr hrs (by omega) (by omega) (by omega) (by omega)
   unfold rwV rwC at hC
   have hpl := prR_len hk
   rw [← hpl] at ho
   obtain ⟨g1,off1,f1,e1,hfg,hfs,hP,hglt,hput⟩ := ow_elF rw8_len (by omega) ho (prR_at hlt)
   cases e1
   have hput := fun w1 => hput w1 (rowN R k)
   rw [prR_set hlt,hpl] at hput
   simp only [Nat.zero_add] at hP hput
   have HPut : Hid (∀ w1 : World,Bcm wr w1 w.heap.size (k * 8) (rw8 (rowN R k)) f1 → ∃ fp',Cel.ow w1 (lcl 8 rw8 (prR R (k + 1))) (.slice (some ⟨w.heap.size,0,none⟩) R.length R.length) fp' ∧ (∀ b,fp' b → fp b ∨ wr.heap.size ≤ b) ∧ Wrt fp wr w1) := hput
   have HP : Hid (Plc wr w.heap.size (k * 8) (rw8 zeroRw) f1) := hP
   have HB : Hid (Below w.heap.size w wr) := hb
   have HFP : Hid (∀ b,fp b → w.heap.size ≤ b) := hfp
   generalize rowN R k = r at *
   clear hrs hpv hb ho hput hP hz hpl hfs hmem
   go_wp2_with fail
   refine hC.mono ?_
   rintro e w1 ⟨A1,rfl,fr,hl1,hfr,hb1⟩
   have HA := HP.out.all hb1 (ow_rw8 hl1) rfl hfr
   obtain ⟨vs0,hpc,hov,_⟩ := HP.out
   have hl8 : vs0.length = 8 := owL_len hov
   have hpc1 := hpc.of_block (hb1.block _ hpc.lt) hb1.size
   have cc : ∀ j,j < 8 → ∃ u,w1.cell? ⟨w.heap.size,k * 8 + j,none⟩ = some u ∧ w1.frozen? ⟨w.heap.size,k * 8 + j,none⟩ = false := fun j hj => ⟨_,(hpc1.cell j (by omega)).trans (List.getElem?_eq_getElem (by omega)),hpc1.free j (by omega)⟩
   obtain ⟨u0,e0,f0⟩ := cc 0 (by omega)
   obtain ⟨u1,e1,f1'⟩ := cc 1 (by omega)
   obtain ⟨u2,e2,f2⟩ := cc 2 (by omega)
   obtain ⟨u3,e3,f3⟩ := cc 3 (by omega)
   obtain ⟨u4,e4,f4⟩ := cc 4 (by omega)
   obtain ⟨u5,e5,f5⟩ := cc 5 (by omega)
   obtain ⟨u6,e6,f6⟩ := cc 6 (by omega)
   obtain ⟨u7,e7,f7⟩ := cc 7 (by omega)
   simp only [Nat.add_zero] at e0 f0
   obtain ⟨fp',hN1,hN2,hN3⟩ := HPut.out _ HA
   have HN1 : Hid (Cel.ow _ (lcl 8 rw8 (prR R (k + 1))) (.slice (some ⟨w.heap.size,0,none⟩) R.length R.length) fp') := hN1
   have HN3 : Hid (Wrt fp wr _) := hN3
   have HN2 : Hid (∀ b,fp' b → fp b ∨ wr.heap.size ≤ b) := hN2
   have hsz := HB.out.size
   clear d0 d1 d2 d3 d4 d5 d6 d7 hC hb1 hl1 hN1 hN2 hN3 HA cc hpc1 hov hpc
   unfold rwV rwC
   go_wp2
   go_roundw
   case rel => exact ⟨k + 1,fp',by omega,by go_num,HN1.out,fun b hb => by have := HFP.out b;rcases HN2.out b hb with h | h;exact this h;omega,HN3.out.below HB.out hsz HFP.out⟩
   case measure => simp [intOf];omega
  ·obtain rfl : k = R.length := by omega
   have k1 : ¬ ((R.length : Int) < (R.length : Int)) := by omega
   have HE : Hid (NewO w wr (lcl 8 rw8 R) (.slice (some ⟨w.heap.size,0,none⟩) R.length R.length)) := by rw [prR_all] at ho;exact ⟨fp,ho,hfp,hb⟩
   clear ho hb
   go_wp2
   go_ret
   exact ⟨_,_,rfl,HE.out⟩
end Go.Proofs.Ytlnmdfgcpfbleaa
namespace Go.Proofs.Ytlnmdfgcpfbleaa
set_option linter.unusedVariables false
set_option linter.unusedSimpArgs false
open Go.RowKit Go.Sort
structure TM (w X : World) (S O : Array Value) (cs : List Cel) (vs : List Value) (fp : Fp) : Prop where
 src : Bx X w.heap.size 134 S
 res : Bx X (w.heap.size + 1) 103 #[.int .i64 0,.int .i64 0,.slice none 0 0,.slice none 0 0,.bool false]
 out : Bx X (w.heap.size + 1 + 1) 103 O
 own : owL X cs vs fp
 fpl : ∀ b,fp b → w.heap.size + 1 + 1 < b
 below : Below w.heap.size w X
theorem TM.set {w X : World} {S O : Array Value} {cs : List Cel} {vs : List Value} {fp : Fp} (h : TM w X S O cs vs fp) (i : Nat) (v : Value) : TM w (X.setCell ⟨w.heap.size + 1 + 1,i,none⟩ v) S (O.setIfInBounds i v) cs vs fp :=
 ⟨h.src.far (by omega) v,h.res.far (by omega) v,h.out.setC i v,owL_wrt h.own (Wrt.set X (w.heap.size + 1 + 1) i v) (fun b hb e => by have := h.fpl b hb;omega),h.fpl,h.below.setCell (p := ⟨w.heap.size + 1 + 1,i,none⟩) (show w.heap.size ≤ w.heap.size + 1 + 1 by omega) v⟩
theorem TM.add {w X X' : World} {S O : Array Value} {cs : List Cel} {vs : List Value} {fp : Fp} (h : TM w X S O cs vs fp) {c : Cel} {v : Value} (hN : NewO X X' c v) : ∃ fp',TM w X' S O (cs ++ [c]) (vs ++ [v]) fp' := by
 obtain ⟨f,ho,hf,hb⟩ := hN
 have hol := h.out.lt
 refine ⟨fun b => fp b ∨ f b,h.src.below hb,h.res.below hb,h.out.below hb,owL_append (owL_below h.own hb) (owL_one.2 ho) (fun b h1 h2 => ?_),fun b hb => ?_,h.below.trans (hb.mono h.below.size)⟩
 ·have := owL_lt h.own b h1
  have := hf b h2
  omega
 ·rcases hb with hb | hb
  ·exact h.fpl b hb
  ·have := hf b hb;omega
set_option maxRecDepth 100000 in
set_option maxHeartbeats 3200000 in
theorem toMb_any (A : Ma) (m : Mb) (w : World) (hv : MbS w A m) (hs : szMb m ≤ 1048576) :
  Calls Try.prog 125 #[mbV A m] w fun e w' => AnsMb w w' e m := by
 have HR : Hid (∀ X,Below w.heap.size w X → Calls Try.prog 135 #[.slice A.ra m.rows.length A.rc] X fun e w' => ∃ a' c',e = .returned (.slice a' m.rows.length c') ∧ NewO X w' (lcl 8 rw8 m.rows) (.slice a' m.rows.length c')) := fun X h => toRs_any A.ra A.rc m.rows X (hv.below h).rows hv.fit (by unfold szMb at hs;omega)
 have HG : Hid (∀ X,Below w.heap.size w X → Calls Try.prog 88 #[.slice A.sa m.sung.length A.sc] X fun e w' => ∃ a' c',e = .returned (.slice a' m.sung.length c') ∧ NewO X w' (icl m.sung) (.slice a' m.sung.length c')) := fun X h => toI16 A.sa A.sc m.sung X (hv.below h).sung (by unfold szMb at hs;omega)
 obtain ⟨id,n,rows,sung,done⟩ := m
 obtain ⟨ra,rc,sa,sc⟩ := A
 simp only at HR HG
 have T0 : TM w (((w.alloc (.cells #[.int .i64 id,.int .i64 n,.slice ra rows.length rc,.slice sa sung.length sc,.bool done] 134)).alloc (.cells #[.int .i64 0,.int .i64 0,.slice none 0 0,.slice none 0 0,.bool false] 103)).alloc (.cells #[.int .i64 id,.int .i64 n,.slice none 0 0,.slice none 0 0,.bool false] 103)) #[.int .i64 id,.int .i64 n,.slice ra rows.length rc,.slice sa sung.length sc,.bool done] #[.int .i64 id,.int .i64 n,.slice none 0 0,.slice none 0 0,.bool false] [] [] (fun _ => False) := by
  have x0 := ((Bx.new w 134 #[.int .i64 id,.int .i64 n,.slice ra rows.length rc,.slice sa sung.length sc,.bool done]).alloc (.cells #[.int .i64 0,.int .i64 0,.slice none 0 0,.slice none 0 0,.bool false] 103)).alloc (.cells #[.int .i64 id,.int .i64 n,.slice none 0 0,.slice none 0 0,.bool false] 103)
  have x1 := (Bx.new (w.alloc (.cells #[.int .i64 id,.int .i64 n,.slice ra rows.length rc,.slice sa sung.length sc,.bool done] 134)) 103 #[.int .i64 0,.int .i64 0,.slice none 0 0,.slice none 0 0,.bool false]).alloc (.cells #[.int .i64 id,.int .i64 n,.slice none 0 0,.slice none 0 0,.bool false] 103)
  have x2 := Bx.new ((w.alloc (.cells #[.int .i64 id,.int .i64 n,.slice ra rows.length rc,.slice sa sung.length sc,.bool done] 134)).alloc (.cells #[.int .i64 0,.int .i64 0,.slice none 0 0,.slice none 0 0,.bool false] 103)) 103 #[.int .i64 id,.int .i64 n,.slice none 0 0,.slice none 0 0,.bool false]
  simp only [World.size_alloc] at x1 x2
  exact ⟨x0,x1,x2,⟨rfl,fun _ h => h⟩,fun b h => h.elim,((Below.refl _ _).alloc (Nat.le_refl _) _).alloc (by simp) _ |>.alloc (by simp only [World.size_alloc];omega) _⟩
 have hC1 := HR.out _ T0.below
 have HT0 : Hid (TM w (((w.alloc (.cells #[.int .i64 id,.int .i64 n,.slice ra rows.length rc,.slice sa sung.length sc,.bool done] 134)).alloc (.cells #[.int .i64 0,.int .i64 0,.slice none 0 0,.slice none 0 0,.bool false] 103)).alloc (.cells #[.int .i64 id,.int .i64 n,.slice none 0 0,.slice none 0 0,.bool false] 103)) #[.int .i64 id,.int .i64 n,.slice ra rows.length rc,.slice sa sung.length sc,.bool done] #[.int .i64 id,.int .i64 n,.slice none 0 0,.slice none 0 0,.bool false] [] [] (fun _ => False)) := T0
 unfold mbV mbC
 simp only
 clear hv T0
 go_enter Try.func125,Try.ntmps125
 go_wp2_with fail
 refine hC1.mono ?_
 rintro e w1 ⟨a1,c1,rfl,hN1⟩
 obtain ⟨fp1,T1⟩ := HT0.out.add hN1
 obtain ⟨s0,s1,s2,s3,s4⟩ := Bx.r5 T1.src
 obtain ⟨o0,o1,o2,o3,o4⟩ := Bx.r5 (show Bx _ _ _ #[.int .i64 id,.int .i64 n,.slice none 0 0,.slice none 0 0,.bool false] from T1.out)
 obtain ⟨f0,f1,f2,f3,f4⟩ := T1.out.f5
 have T1s := T1.set 2 (.slice a1 rows.length c1)
 have T1' : TM w (w1.setCell ⟨w.heap.size + 1 + 1,2,none⟩ (.slice a1 rows.length c1)) #[.int .i64 id,.int .i64 n,.slice ra rows.length rc,.slice sa sung.length sc,.bool done] #[.int .i64 id,.int .i64 n,.slice a1 rows.length c1,.slice none 0 0,.bool false] ([] ++ [lcl 8 rw8 rows]) ([] ++ [.slice a1 rows.length c1]) fp1 := by simpa using T1s
 have hC2 := HG.out _ T1'.below
 have HT1 : Hid (TM w (w1.setCell ⟨w.heap.size + 1 + 1,2,none⟩ (.slice a1 rows.length c1)) #[.int .i64 id,.int .i64 n,.slice ra rows.length rc,.slice sa sung.length sc,.bool done] #[.int .i64 id,.int .i64 n,.slice a1 rows.length c1,.slice none 0 0,.bool false] ([] ++ [lcl 8 rw8 rows]) ([] ++ [.slice a1 rows.length c1]) fp1) := T1'
 have x0 : (w1.setCell ⟨w.heap.size + 1 + 1,2,none⟩ (.slice a1 rows.length c1)).cell? ⟨w.heap.size,3,none⟩ = some (.slice sa sung.length sc) := T1'.src.at 3 rfl
 clear hN1 T1 T1s T1' hC1 HT0
 go_wp2_with fail
 refine hC2.mono ?_
 rintro e w2 ⟨a2,c2,rfl,hN2⟩
 clear s0 s1 s2 s3 s4 o0 o1 o2 o3 o4 f0 f1 f2 f3 f4 x0
 obtain ⟨fp2,T2⟩ := HT1.out.add hN2
 have p0 := (show Bx _ _ _ #[.int .i64 id,.int .i64 n,.slice a1 rows.length c1,.slice none 0 0,.bool false] from T2.out).at 3 rfl
 have q0 := T2.out.f 3
 have T2as := T2.set 3 (.slice a2 sung.length c2)
 have T2a : TM w (w2.setCell ⟨w.heap.size + 1 + 1,3,none⟩ (.slice a2 sung.length c2)) #[.int .i64 id,.int .i64 n,.slice ra rows.length rc,.slice sa sung.length sc,.bool done] #[.int .i64 id,.int .i64 n,.slice a1 rows.length c1,.slice a2 sung.length c2,.bool false] (([] ++ [lcl 8 rw8 rows]) ++ [icl sung]) (([] ++ [.slice a1 rows.length c1]) ++ [.slice a2 sung.length c2]) fp2 := by simpa using T2as
 have s4 : (w2.setCell ⟨w.heap.size + 1 + 1,3,none⟩ (.slice a2 sung.length c2)).cell? ⟨w.heap.size,4,none⟩ = _ := T2a.src.at 4 rfl
 have p4 := T2a.out.at 4 rfl
 have q4 := T2a.out.f 4
 have T2bs := T2a.set 4 (.bool done)
 have T2b : TM w ((w2.setCell ⟨w.heap.size + 1 + 1,3,none⟩ (.slice a2 sung.length c2)).setCell ⟨w.heap.size + 1 + 1,4,none⟩ (.bool done)) #[.int .i64 id,.int .i64 n,.slice ra rows.length rc,.slice sa sung.length sc,.bool done] #[.int .i64 id,.int .i64 n,.slice a1 rows.length c1,.slice a2 sung.length c2,.bool done] (([] ++ [lcl 8 rw8 rows]) ++ [icl sung]) (([] ++ [.slice a1 rows.length c1]) ++ [.slice a2 sung.length c2]) fp2 := by simpa using T2bs
 obtain ⟨o0,o1,o2,o3,o4⟩ := Bx.r5 (show Bx _ _ _ #[.int .i64 id,.int .i64 n,.slice a1 rows.length c1,.slice a2 sung.length c2,.bool done] from T2b.out)
 obtain ⟨r0,r1,r2,r3,r4⟩ := Bx.r5 T2b.res
 obtain ⟨f0,f1,f2,f3,f4⟩ := T2b.res.f5
 have HT3 : Hid (TM w ((w2.setCell ⟨w.heap.size + 1 + 1,3,none⟩ (.slice a2 sung.length c2)).setCell ⟨w.heap.size + 1 + 1,4,none⟩ (.bool done)) #[.int .i64 id,.int .i64 n,.slice ra rows.length rc,.slice sa sung.length sc,.bool done] #[.int .i64 id,.int .i64 n,.slice a1 rows.length c1,.slice a2 sung.length c2,.bool done] (([] ++ [lcl 8 rw8 rows]) ++ [icl sung]) (([] ++ [.slice a1 rows.length c1]) ++ [.slice a2 sung.length c2]) fp2) := T2b
 clear hN2 T2 T2as T2a T2bs T2b hC2 HT1
 go_wp2
 refine bodyPost_ret (v := .agg #[.int .i64 id,.int .i64 n,.slice a1 rows.length c1,.slice a2 sung.length c2,.bool done]) (by simp [results,Try.results125,go_sem, *]) rfl ?_
 refine ⟨⟨a1,c1,a2,c2⟩,rfl,fp2,owL_wrt HT3.out.own (wrt5 _ (w.heap.size + 1)) (fun b hb e => by have := HT3.out.fpl b hb;omega),fun b hb => by have := HT3.out.fpl b hb;omega,(wrt5 _ (w.heap.size + 1)).below HT3.out.below HT3.out.below.size (fun b e => by rw [e];omega)⟩
end Go.Proofs.Ytlnmdfgcpfbleaa
namespace Go.Proofs.Ytlnmdfgcpfbleaa
set_option linter.unusedVariables false
set_option linter.unusedSimpArgs false
open Go.RowKit Go.Sort
def zero5 : Array Value := #[.int .i64 0,.int .i64 0,.slice none 0 0,.slice none 0 0,.bool false]
def zero10 : Array Value := #[.int .i64 0,.int .i64 0,.int .i64 0,.slice none 0 0,.slice none 0 0,.slice none 0 0,.bool false,.bool false,.int .i64 0,.slice none 0 0]
theorem ow_zero5 (w : World) : owL w (mb5 zeroMb) zero5.toList (fun _ => False) := ow_mb5 (A := ⟨none,0,none,0⟩) (ow_mb0 w)
theorem ow_zero10 (w : World) : owL w (ml10 zeroMl) zero10.toList (fun _ => False) := owL_v (owL_v (ow_zero8 w))
theorem infoMb18 : (Try.prog.info? 103).map (fun i => (i.zero,i.size,i.bytes)) = some (some (.agg zero5),5,72) := by kernel_rfl
theorem infoMl18 : (Try.prog.info? 139).map (fun i => (i.zero,i.size,i.bytes)) = some (some (.agg zero10),10,136) := by kernel_rfl
theorem makeMs (n : Nat) (hn : n ≤ 1048576) (w : World) :
  (Instr.makeSlice 58 (.int .i64 (n : Int)) (.int .i64 (n : Int))).run Try.prog w = .ok (.slice (some ⟨w.heap.size,0,none⟩) n n) (w.alloc (.cells (madeCells zero5 (n * 5)) 103)) := by
 obtain ⟨i,hi,hz,hs,hb⟩ := info_parts2n infoMb18
 have hr := run_make (P := Try.prog) w 58 103 i _ Try.underlying58 hi hz .i64 .i64 n n (by omega) (Int.le_refl _) (by rw [hb];omega) (by omega)
 simp only [Int.toNat_natCast,hs] at hr
 exact hr
theorem madeMs (w : World) (n : Nat) (hn : n ≤ 1048576) : Cel.ow (w.alloc (.cells (madeCells zero5 (n * 5)) 103)) (lcl 5 mb5 (List.replicate n zeroMb)) (.slice (some ⟨w.heap.size,0,none⟩) n n) (fun b => b = w.heap.size) := by
 have h := osl_made w zero5 5 n 103 rfl (by omega) (by unfold maxLen;omega)
 unfold lcl
 rw [flat_rep,List.length_replicate]
 exact ⟨_,n,_,some w.heap.size,fun _ => False,rfl,OSo.of h,owL_zeros (ow_zero5 _) (fun b h => h) n,fun _ _ h => h,fun b => by simp [eq_comm]⟩
def prM (R : List Mb) (k : Nat) : List Mb := R.take k ++ List.replicate (R.length - k) zeroMb
theorem prM_len {R : List Mb} {k : Nat} (hk : k ≤ R.length) : (prM R k).length = R.length := by simp [prM];omega
theorem prM_at {R : List Mb} {k : Nat} (hk : k < R.length) : (prM R k)[k]? = some zeroMb := by
 have e2 : R.length - k = (R.length - (k + 1)) + 1 := by omega
 have e3 : (R.take k).length = k := by simp;omega
 rw [prM,List.getElem?_append_right (by omega),e2,List.replicate_succ,e3,Nat.sub_self]
 rfl
theorem prM_set {R : List Mb} {k : Nat} (hk : k < R.length) : (prM R k).set k (mbN R k) = prM R (k + 1) := by
 have e : mbN R k = R[k] := by simp [mbN,List.getD,hk]
 have e2 : R.length - k = (R.length - (k + 1)) + 1 := by omega
 have e3 : (R.take k).length = k := by simp;omega
 rw [prM,prM,e,e2,List.replicate_succ,List.set_append_right _ _ (by omega),List.take_succ_eq_append_getElem hk,e3,Nat.sub_self,List.set_cons_zero,List.append_assoc]
 rfl
theorem prM_all (R : List Mb) : prM R R.length = R := by simp [prM]
set_option maxRecDepth 100000 in
set_option maxHeartbeats 3200000 in
theorem toMs_any (a : Option Addr) (cap : Nat) (R : List Mb) (w : World) (hv : Cel.vw w (lcl 5 mb5 R) (.slice a R.length cap)) (hf : ∀ m ∈ R,FitM m) (hs : szMs R ≤ 1048576) :
  Calls Try.prog 95 #[.slice a R.length cap] w fun e w' => ∃ a' c',e = .returned (.slice a' R.length c') ∧ NewO w w' (lcl 5 mb5 R) (.slice a' R.length c') := by
 have HV : Hid (Cel.vw w (lcl 5 mb5 R) (.slice a R.length cap)) := hv
 have hl : R.length ≤ 1048576 := by unfold szMs at hs;omega
 have HSZ : Hid (∀ k,k < R.length → szMb (mbN R k) ≤ 1048576) := fun k hk => szMs_at hs hk
 have hmk := makeMs R.length hl
 have HS : Hid (Cel.ow (w.alloc (.cells (madeCells zero5 (R.length * 5)) 103)) (lcl 5 mb5 (prM R 0)) (.slice (some ⟨w.heap.size,0,none⟩) R.length R.length) (fun b => b = w.heap.size) ∧ Below w.heap.size w (w.alloc (.cells (madeCells zero5 (R.length * 5)) 103))) := by
  refine ⟨?_,oneA16 w _⟩
  have := madeMs w R.length hl
  have e : prM R 0 = List.replicate R.length zeroMb := by simp [prM]
  rw [e]
  exact this
 clear hv
 go_enter Try.func95,Try.ntmps95
 go_wp2_with fail
 clear hmk
 generalize w.alloc (.cells (madeCells zero5 (R.length * 5)) 103) = W0 at *
 go_loopw [4] (fun i wr => ∃ (k : Nat) (fp : Fp),k ≤ R.length ∧ i = .int .i64 k ∧ Cel.ow wr (lcl 5 mb5 (prM R k)) (.slice (some ⟨w.heap.size,0,none⟩) R.length R.length) fp ∧ (∀ b,fp b → w.heap.size ≤ b) ∧ Below w.heap.size w wr) (fun i _ => R.length - (intOf i).toNat)
 case atStart => exact ⟨0,_,Nat.zero_le _,rfl,HS.out.1,fun b h => by rw [h];exact Nat.le_refl _,HS.out.2⟩
 case round =>
  obtain ⟨k,fp,hk,rfl,ho,hfp,hb⟩ := hrel
  by_cases hlt : k < R.length
  ·have k1 : (k : Int) < (R.length : Int) := by omega
   have k0 : (0 : Int) ≤ (k : Int) := by omega
   have hmem : mbN R k ∈ R := List.mem_of_getElem? (mbN_at hlt)
   obtain ⟨g,off,hra,hpv⟩ := vw_elF mb5_len (Cel.vw_below HV.out hb) (mbN_at hlt)
   obtain ⟨Ak,⟨d0,d1,d2,d3,d4⟩,hrs⟩ := hpv.mem (hf _ hmem)
   subst hra
   have hz := HSZ.out k hlt
   have hC := toMb_any Ak (mbN R k) wr hrs hz
   unfold AnsMb mbV mbC at hC
   have hpl := prM_len hk
   rw [← hpl] at ho
   obtain ⟨g1,off1,f1,e1,hfg,hfs,hP,hglt,hput⟩ := ow_elF mb5_len (by omega) ho (prM_at hlt)
   cases e1
   have hput := fun w1 => hput w1 (mbN R k)
   rw [prM_set hlt,hpl] at hput
   simp only [Nat.zero_add] at hP hput
   have HPut : Hid (∀ w1 : World,Bcm wr w1 w.heap.size (k * 5) (mb5 (mbN R k)) f1 → ∃ fp',Cel.ow w1 (lcl 5 mb5 (prM R (k + 1))) (.slice (some ⟨w.heap.size,0,none⟩) R.length R.length) fp' ∧ (∀ b,fp' b → fp b ∨ wr.heap.size ≤ b) ∧ Wrt fp wr w1) := hput
   have HP : Hid (Plc wr w.heap.size (k * 5) (mb5 zeroMb) f1) := hP
   have HB : Hid (Below w.heap.size w wr) := hb
   have HFP : Hid (∀ b,fp b → w.heap.size ≤ b) := hfp
   generalize mbN R k = r at *
   clear hpv hb ho hput hP hz hpl hfs hmem hrs
   go_wp2_with fail
   refine hC.mono ?_
   rintro e w1 ⟨A1,rfl,fr,hl1,hfr,hb1⟩
   have HA := HP.out.all hb1 (ow_mb5 hl1) rfl hfr
   obtain ⟨vs0,hpc,hov,_⟩ := HP.out
   have hl8 : vs0.length = 5 := owL_len hov
   have hpc1 := hpc.of_block (hb1.block _ hpc.lt) hb1.size
   have cc : ∀ j,j < 5 → ∃ u,w1.cell? ⟨w.heap.size,k * 5 + j,none⟩ = some u ∧ w1.frozen? ⟨w.heap.size,k * 5 + j,none⟩ = false := fun j hj => ⟨_,(hpc1.cell j (by omega)).trans (List.getElem?_eq_getElem (by omega)),hpc1.free j (by omega)⟩
   obtain ⟨u0,e0,g0⟩ := cc 0 (by omega)
   obtain ⟨u1,e1,g1⟩ := cc 1 (by omega)
   obtain ⟨u2,e2,g2⟩ := cc 2 (by omega)
   obtain ⟨u3,e3,g3⟩ := cc 3 (by omega)
   obtain ⟨u4,e4,g4⟩ := cc 4 (by omega)
   simp only [Nat.add_zero] at e0 g0
   obtain ⟨fp',hN1,hN2,hN3⟩ := HPut.out _ HA
   have HN1 : Hid (Cel.ow _ (lcl 5 mb5 (prM R (k + 1))) (.slice (some ⟨w.heap.size,0,none⟩) R.length R.length) fp') := hN1
   have HN3 : Hid (Wrt fp wr _) := hN3
   have HN2 : Hid (∀ b,fp' b → fp b ∨ wr.heap.size ≤ b) := hN2
   have hsz := HB.out.size
   clear d0 d1 d2 d3 d4 hC hb1 hN1 hN2 hN3 HA cc hpc1 hov hpc
   try unfold mbV mbC
   go_wp2
   go_roundw
   case rel => exact ⟨k + 1,fp',by omega,by go_num,HN1.out,fun b hb => by have := HFP.out b;rcases HN2.out b hb with h | h;exact this h;omega,HN3.out.below HB.out hsz HFP.out⟩
   case measure => simp [intOf];omega
  ·obtain rfl : k = R.length := by omega
   have k1 : ¬ ((R.length : Int) < (R.length : Int)) := by omega
   have HE : Hid (NewO w wr (lcl 5 mb5 R) (.slice (some ⟨w.heap.size,0,none⟩) R.length R.length)) := by rw [prM_all] at ho;exact ⟨fp,ho,hfp,hb⟩
   clear ho hb
   go_wp2
   go_ret
   exact ⟨_,_,rfl,HE.out⟩
theorem wrt10 (w : World) (g : Nat) (a b c d e f h i j k : Value) : Wrt (fun x => x = g) w ((((((((((w.setCell ⟨g,0,none⟩ a).setCell ⟨g,1,none⟩ b).setCell ⟨g,2,none⟩ c).setCell ⟨g,3,none⟩ d).setCell ⟨g,4,none⟩ e).setCell ⟨g,5,none⟩ f).setCell ⟨g,6,none⟩ h).setCell ⟨g,7,none⟩ i).setCell ⟨g,8,none⟩ j).setCell ⟨g,9,none⟩ k) := Wrt.setCells g [a,b,c,d,e,f,h,i,j,k] 0 w
theorem Bx.f10 {w : World} {B : Nat} {T : TypeId} {cs : Array Value} (h : Bx w B T cs) : (w.frozen? ⟨B,0,none⟩ = false ∧ w.frozen? ⟨B,1,none⟩ = false) ∧ (w.frozen? ⟨B,2,none⟩ = false ∧ w.frozen? ⟨B,3,none⟩ = false ∧ w.frozen? ⟨B,4,none⟩ = false ∧ w.frozen? ⟨B,5,none⟩ = false) ∧ w.frozen? ⟨B,6,none⟩ = false ∧ w.frozen? ⟨B,7,none⟩ = false ∧ w.frozen? ⟨B,8,none⟩ = false ∧ w.frozen? ⟨B,9,none⟩ = false :=
 ⟨⟨h.f 0,h.f 1⟩,⟨h.f 2,h.f 3,h.f 4,h.f 5⟩,h.f 6,h.f 7,h.f 8,h.f 9⟩
set_option maxRecDepth 100000 in
set_option maxHeartbeats 3200000 in
theorem toMl_any (A : Ra) (x : Ml) (w : World) (hv : RwS w A x.row) (hz : szMl x ≤ 1048576) :
  Calls Try.prog 126 #[mlV A x] w fun e w' => ∃ A1 : Ra,e = .returned (mlV A1 x) ∧ NewL w w' (rwCels x.row) (rwVals A1 x.row) := by
 unfold szMl szRw at hz
 have hb0 : Below w.heap.size w (((w.alloc (.cells #[.int .i64 x.fr,.int .i64 x.to,.int .i64 x.row.ver,.slice A.ta x.row.txt.length A.tc,.slice A.ga x.row.got.length A.gc,.slice A.sa x.row.sus.length A.sc,.bool x.row.wed,.bool x.row.rdy,.int .i64 x.row.by_,.slice A.ma x.row.trm.length A.mc] 137)).alloc (.cells #[.int .i64 0,.int .i64 0,.int .i64 0,.slice none 0 0,.slice none 0 0,.slice none 0 0,.bool false,.bool false,.int .i64 0,.slice none 0 0] 139)).alloc (.cells #[.int .i64 x.fr,.int .i64 x.to,.int .i64 0,.slice none 0 0,.slice none 0 0,.slice none 0 0,.bool false,.bool false,.int .i64 0,.slice none 0 0] 139)) := ((Below.refl _ _).alloc (Nat.le_refl _) _).alloc (by simp) _ |>.alloc (by simp only [World.size_alloc];omega) _
 have x0 := ((Bx.new w 137 #[.int .i64 x.fr,.int .i64 x.to,.int .i64 x.row.ver,.slice A.ta x.row.txt.length A.tc,.slice A.ga x.row.got.length A.gc,.slice A.sa x.row.sus.length A.sc,.bool x.row.wed,.bool x.row.rdy,.int .i64 x.row.by_,.slice A.ma x.row.trm.length A.mc]).alloc (.cells #[.int .i64 0,.int .i64 0,.int .i64 0,.slice none 0 0,.slice none 0 0,.slice none 0 0,.bool false,.bool false,.int .i64 0,.slice none 0 0] 139)).alloc (.cells #[.int .i64 x.fr,.int .i64 x.to,.int .i64 0,.slice none 0 0,.slice none 0 0,.slice none 0 0,.bool false,.bool false,.int .i64 0,.slice none 0 0] 139)
 have x1 := (Bx.new (w.alloc (.cells #[.int .i64 x.fr,.int .i64 x.to,.int .i64 x.row.ver,.slice A.ta x.row.txt.length A.tc,.slice A.ga x.row.got.length A.gc,.slice A.sa x.row.sus.length A.sc,.bool x.row.wed,.bool x.row.rdy,.int .i64 x.row.by_,.slice A.ma x.row.trm.length A.mc] 137)) 139 #[.int .i64 0,.int .i64 0,.int .i64 0,.slice none 0 0,.slice none 0 0,.slice none 0 0,.bool false,.bool false,.int .i64 0,.slice none 0 0]).alloc (.cells #[.int .i64 x.fr,.int .i64 x.to,.int .i64 0,.slice none 0 0,.slice none 0 0,.slice none 0 0,.bool false,.bool false,.int .i64 0,.slice none 0 0] 139)
 have x2 := Bx.new ((w.alloc (.cells #[.int .i64 x.fr,.int .i64 x.to,.int .i64 x.row.ver,.slice A.ta x.row.txt.length A.tc,.slice A.ga x.row.got.length A.gc,.slice A.sa x.row.sus.length A.sc,.bool x.row.wed,.bool x.row.rdy,.int .i64 x.row.by_,.slice A.ma x.row.trm.length A.mc] 137)).alloc (.cells #[.int .i64 0,.int .i64 0,.int .i64 0,.slice none 0 0,.slice none 0 0,.slice none 0 0,.bool false,.bool false,.int .i64 0,.slice none 0 0] 139)) 139 #[.int .i64 x.fr,.int .i64 x.to,.int .i64 0,.slice none 0 0,.slice none 0 0,.slice none 0 0,.bool false,.bool false,.int .i64 0,.slice none 0 0]
 simp only [World.size_alloc] at x1 x2
 have hC := toRw_any A x.row _ (hv.below hb0) (by omega) (by omega) (by omega) (by omega)
 unfold mlV mlC
 unfold AnsRw rwV rwC at hC
 have hWW : ∃ W,((w.alloc (.cells #[.int .i64 x.fr,.int .i64 x.to,.int .i64 x.row.ver,.slice A.ta x.row.txt.length A.tc,.slice A.ga x.row.got.length A.gc,.slice A.sa x.row.sus.length A.sc,.bool x.row.wed,.bool x.row.rdy,.int .i64 x.row.by_,.slice A.ma x.row.trm.length A.mc] 137)).alloc (.cells #[.int .i64 0,.int .i64 0,.int .i64 0,.slice none 0 0,.slice none 0 0,.slice none 0 0,.bool false,.bool false,.int .i64 0,.slice none 0 0] 139)).alloc (.cells #[.int .i64 x.fr,.int .i64 x.to,.int .i64 0,.slice none 0 0,.slice none 0 0,.slice none 0 0,.bool false,.bool false,.int .i64 0,.slice none 0 0] 139) = W := ⟨_,rfl⟩
 obtain ⟨W,hWW⟩ := hWW
 rw [hWW] at hb0 x0 x1 x2 hC
 obtain ⟨⟨c0,c1⟩,⟨c2,c3,c4,c5⟩,c6,c7,c8,c9⟩ := Bx.r10 x0
 have HX1 : Hid (Bx W (w.heap.size + 1) 139 #[.int .i64 0,.int .i64 0,.int .i64 0,.slice none 0 0,.slice none 0 0,.slice none 0 0,.bool false,.bool false,.int .i64 0,.slice none 0 0]) := x1
 have HX2 : Hid (Bx W (w.heap.size + 1 + 1) 139 #[.int .i64 x.fr,.int .i64 x.to,.int .i64 0,.slice none 0 0,.slice none 0 0,.slice none 0 0,.bool false,.bool false,.int .i64 0,.slice none 0 0]) := x2
 have HB0 : Hid (Below w.heap.size w W) := hb0
 clear hv hb0 x0 x1 x2 hz
 go_enter Try.func126,Try.ntmps126
 go_upto_region 5 with (go_at_call 41;refine hC.mono ?_;rintro e w1 ⟨A1,rfl,fr,hl1,hfr,hb1⟩;clear c0 c1 c2 c3 c4 c5 c6 c7 c8 c9;have hx2 := (HX2.out.below hb1);obtain ⟨⟨c0,c1⟩,⟨c2,c3,c4,c5⟩,c6,c7,c8,c9⟩ := (Bx.r10 hx2);obtain ⟨⟨f0,f1⟩,⟨f2,f3,f4,f5⟩,f6,f7,f8,f9⟩ := hx2.f10)
 have hx3 := (((((((hx2.setC 2 (.int .i64 x.row.ver)).setC 3 (.slice A1.ta x.row.txt.length A1.tc)).setC 4 (.slice A1.ga x.row.got.length A1.gc)).setC 5 (.slice A1.sa x.row.sus.length A1.sc)).setC 6 (.bool x.row.wed)).setC 7 (.bool x.row.rdy)).setC 8 (.int .i64 x.row.by_)).setC 9 (.slice A1.ma x.row.trm.length A1.mc)
 have hw3 : Wrt (fun b => b = w.heap.size + 1 + 1) w1 _ := Wrt.setCells (w.heap.size + 1 + 1) [.int .i64 x.row.ver,.slice A1.ta x.row.txt.length A1.tc,.slice A1.ga x.row.got.length A1.gc,.slice A1.sa x.row.sus.length A1.sc,.bool x.row.wed,.bool x.row.rdy,.int .i64 x.row.by_,.slice A1.ma x.row.trm.length A1.mc] 2 w1
 have hs1 := HB0.out.size
 have hs2 := hb1.size
 have hlo := HX2.out.lt
 have hl3 := owL_wrt hl1 hw3 (fun b hb e => by have := hfr b hb;omega)
 have hb3 := hw3.below (HB0.out.trans (hb1.mono HB0.out.size)) (by omega) (fun b e => by omega)
 have hx4 := (HX1.out.below hb1).wrt hw3 (by omega)
 simp only [World.setCells] at hl3 hb3 hx4
 clear c0 c1 c2 c3 c4 c5 c6 c7 c8 c9 f0 f1 f2 f3 f4 f5 f6 f7 f8 f9 hx2 hw3 hC
 generalize ((((((((w1.setCell ⟨w.heap.size + 1 + 1,2,none⟩ (.int .i64 x.row.ver)).setCell ⟨w.heap.size + 1 + 1,3,none⟩ (.slice A1.ta x.row.txt.length A1.tc)).setCell ⟨w.heap.size + 1 + 1,4,none⟩ (.slice A1.ga x.row.got.length A1.gc)).setCell ⟨w.heap.size + 1 + 1,5,none⟩ (.slice A1.sa x.row.sus.length A1.sc)).setCell ⟨w.heap.size + 1 + 1,6,none⟩ (.bool x.row.wed)).setCell ⟨w.heap.size + 1 + 1,7,none⟩ (.bool x.row.rdy)).setCell ⟨w.heap.size + 1 + 1,8,none⟩ (.int .i64 x.row.by_)).setCell ⟨w.heap.size + 1 + 1,9,none⟩ (.slice A1.ma x.row.trm.length A1.mc)) = W5 at *
 have hx5 : Bx W5 (w.heap.size + 1 + 1) 139 #[.int .i64 x.fr,.int .i64 x.to,.int .i64 x.row.ver,.slice A1.ta x.row.txt.length A1.tc,.slice A1.ga x.row.got.length A1.gc,.slice A1.sa x.row.sus.length A1.sc,.bool x.row.wed,.bool x.row.rdy,.int .i64 x.row.by_,.slice A1.ma x.row.trm.length A1.mc] := by simpa using hx3
 obtain ⟨⟨c0,c1⟩,⟨c2,c3,c4,c5⟩,c6,c7,c8,c9⟩ := Bx.r10 hx5
 obtain ⟨⟨d0,d1⟩,⟨d2,d3,d4,d5⟩,d6,d7,d8,d9⟩ := Bx.r10 hx4
 obtain ⟨⟨f0,f1⟩,⟨f2,f3,f4,f5⟩,f6,f7,f8,f9⟩ := hx4.f10
 have HN : Hid (∀ (a b c d e f h i j k : Value),NewL w ((((((((((W5.setCell ⟨w.heap.size + 1,0,none⟩ a).setCell ⟨w.heap.size + 1,1,none⟩ b).setCell ⟨w.heap.size + 1,2,none⟩ c).setCell ⟨w.heap.size + 1,3,none⟩ d).setCell ⟨w.heap.size + 1,4,none⟩ e).setCell ⟨w.heap.size + 1,5,none⟩ f).setCell ⟨w.heap.size + 1,6,none⟩ h).setCell ⟨w.heap.size + 1,7,none⟩ i).setCell ⟨w.heap.size + 1,8,none⟩ j).setCell ⟨w.heap.size + 1,9,none⟩ k) (rwCels x.row) (rwVals A1 x.row)) := fun a b c d e f h i j k => ⟨fr,owL_wrt hl3 (wrt10 W5 _ a b c d e f h i j k) (fun b hb e => by have := hfr b hb;omega),fun b hb => by have := hfr b hb;omega,(wrt10 W5 _ a b c d e f h i j k).below hb3 hb3.size (fun b e => by omega)⟩
 clear hx3 hx4 hx5 hl1 hl3 hb1 hb3 hfr
 go_wp2
 refine bodyPost_ret (v := .agg #[.int .i64 x.fr,.int .i64 x.to,.int .i64 x.row.ver,.slice A1.ta x.row.txt.length A1.tc,.slice A1.ga x.row.got.length A1.gc,.slice A1.sa x.row.sus.length A1.sc,.bool x.row.wed,.bool x.row.rdy,.int .i64 x.row.by_,.slice A1.ma x.row.trm.length A1.mc]) (by simp [results,Try.results126,go_sem, *]) rfl ?_
 exact ⟨A1,rfl,HN.out _ _ _ _ _ _ _ _ _ _⟩
theorem makeLs (n : Nat) (hn : n ≤ 1048576) (w : World) :
  (Instr.makeSlice 59 (.int .i64 (n : Int)) (.int .i64 (n : Int))).run Try.prog w = .ok (.slice (some ⟨w.heap.size,0,none⟩) n n) (w.alloc (.cells (madeCells zero10 (n * 10)) 139)) := by
 obtain ⟨i,hi,hz,hs,hb⟩ := info_parts2n infoMl18
 have hr := run_make (P := Try.prog) w 59 139 i _ Try.underlying59 hi hz .i64 .i64 n n (by omega) (Int.le_refl _) (by rw [hb];omega) (by omega)
 simp only [Int.toNat_natCast,hs] at hr
 exact hr
theorem madeLs (w : World) (n : Nat) (hn : n ≤ 1048576) : Cel.ow (w.alloc (.cells (madeCells zero10 (n * 10)) 139)) (lcl 10 ml10 (List.replicate n zeroMl)) (.slice (some ⟨w.heap.size,0,none⟩) n n) (fun b => b = w.heap.size) := by
 have h := osl_made w zero10 10 n 139 rfl (by omega) (by unfold maxLen;omega)
 unfold lcl
 rw [flat_rep,List.length_replicate]
 exact ⟨_,n,_,some w.heap.size,fun _ => False,rfl,OSo.of h,owL_zeros (ow_zero10 _) (fun b h => h) n,fun _ _ h => h,fun b => by simp [eq_comm]⟩
def prL (R : List Ml) (k : Nat) : List Ml := R.take k ++ List.replicate (R.length - k) zeroMl
theorem prL_len {R : List Ml} {k : Nat} (hk : k ≤ R.length) : (prL R k).length = R.length := by simp [prL];omega
theorem prL_at {R : List Ml} {k : Nat} (hk : k < R.length) : (prL R k)[k]? = some zeroMl := by
 have e2 : R.length - k = (R.length - (k + 1)) + 1 := by omega
 have e3 : (R.take k).length = k := by simp;omega
 rw [prL,List.getElem?_append_right (by omega),e2,List.replicate_succ,e3,Nat.sub_self]
 rfl
theorem prL_set {R : List Ml} {k : Nat} (hk : k < R.length) : (prL R k).set k (mlN R k) = prL R (k + 1) := by
 have e : mlN R k = R[k] := by simp [mlN,List.getD,hk]
 have e2 : R.length - k = (R.length - (k + 1)) + 1 := by omega
 have e3 : (R.take k).length = k := by simp;omega
 rw [prL,prL,e,e2,List.replicate_succ,List.set_append_right _ _ (by omega),List.take_succ_eq_append_getElem hk,e3,Nat.sub_self,List.set_cons_zero,List.append_assoc]
 rfl
theorem prL_all (R : List Ml) : prL R R.length = R := by simp [prL]
set_option maxRecDepth 100000 in
set_option maxHeartbeats 3200000 in
theorem toLs_any (a : Option Addr) (cap : Nat) (R : List Ml) (w : World) (hv : Cel.vw w (lcl 10 ml10 R) (.slice a R.length cap)) (hf : ∀ x ∈ R,FitR x.row) (hs : szLs R ≤ 1048576) :
  Calls Try.prog 97 #[.slice a R.length cap] w fun e w' => ∃ a' c',e = .returned (.slice a' R.length c') ∧ NewO w w' (lcl 10 ml10 R) (.slice a' R.length c') := by
 have HV : Hid (Cel.vw w (lcl 10 ml10 R) (.slice a R.length cap)) := hv
 have hl : R.length ≤ 1048576 := by unfold szLs at hs;omega
 have HSZ : Hid (∀ k,k < R.length → szMl (mlN R k) ≤ 1048576) := fun k hk => szLs_at hs hk
 have hmk := makeLs R.length hl
 have HS : Hid (Cel.ow (w.alloc (.cells (madeCells zero10 (R.length * 10)) 139)) (lcl 10 ml10 (prL R 0)) (.slice (some ⟨w.heap.size,0,none⟩) R.length R.length) (fun b => b = w.heap.size) ∧ Below w.heap.size w (w.alloc (.cells (madeCells zero10 (R.length * 10)) 139))) := by
  refine ⟨?_,oneA16 w _⟩
  have := madeLs w R.length hl
  have e : prL R 0 = List.replicate R.length zeroMl := by simp [prL]
  rw [e]
  exact this
 clear hv
 go_enter Try.func97,Try.ntmps97
 go_wp2_with fail
 clear hmk
 generalize w.alloc (.cells (madeCells zero10 (R.length * 10)) 139) = W0 at *
 go_loopw [4] (fun i wr => ∃ (k : Nat) (fp : Fp),k ≤ R.length ∧ i = .int .i64 k ∧ Cel.ow wr (lcl 10 ml10 (prL R k)) (.slice (some ⟨w.heap.size,0,none⟩) R.length R.length) fp ∧ (∀ b,fp b → w.heap.size ≤ b) ∧ Below w.heap.size w wr) (fun i _ => R.length - (intOf i).toNat)
 case atStart => exact ⟨0,_,Nat.zero_le _,rfl,HS.out.1,fun b h => by rw [h];exact Nat.le_refl _,HS.out.2⟩
 case round =>
  obtain ⟨k,fp,hk,rfl,ho,hfp,hb⟩ := hrel
  by_cases hlt : k < R.length
  ·have k1 : (k : Int) < (R.length : Int) := by omega
   have k0 : (0 : Int) ≤ (k : Int) := by omega
   have hmem : mlN R k ∈ R := List.mem_of_getElem? (mlN_at hlt)
   obtain ⟨g,off,hra,hpv⟩ := vw_elF ml10_len (Cel.vw_below HV.out hb) (mlN_at hlt)
   obtain ⟨Ak,⟨d0,d1⟩,⟨d2,d3,d4,d5⟩,d6,d7,d8,d9,hrs⟩ := hpv.mlr (hf _ hmem)
   subst hra
   have hz := HSZ.out k hlt
   have hC := toMl_any Ak (mlN R k) wr hrs hz
   unfold mlV mlC at hC
   have hpl := prL_len hk
   rw [← hpl] at ho
   obtain ⟨g1,off1,f1,e1,hfg,hfs,hP,hglt,hput⟩ := ow_elF ml10_len (by omega) ho (prL_at hlt)
   cases e1
   have hput := fun w1 => hput w1 (mlN R k)
   rw [prL_set hlt,hpl] at hput
   simp only [Nat.zero_add] at hP hput
   have HPut : Hid (∀ w1 : World,Bcm wr w1 w.heap.size (k * 10) (ml10 (mlN R k)) f1 → ∃ fp',Cel.ow w1 (lcl 10 ml10 (prL R (k + 1))) (.slice (some ⟨w.heap.size,0,none⟩) R.length R.length) fp' ∧ (∀ b,fp' b → fp b ∨ wr.heap.size ≤ b) ∧ Wrt fp wr w1) := hput
   have HP : Hid (Plc wr w.heap.size (k * 10) (ml10 zeroMl) f1) := hP
   have HB : Hid (Below w.heap.size w wr) := hb
   have HFP : Hid (∀ b,fp b → w.heap.size ≤ b) := hfp
   generalize mlN R k = r at *
   clear hpv hb ho hput hP hz hpl hfs hmem hrs
   go_wp2_with fail
   refine hC.mono ?_
   rintro e w1 ⟨A1,rfl,fr,hl1,hfr,hb1⟩
   have HA := HP.out.all hb1 (ow_ml10 hl1) rfl hfr
   obtain ⟨vs0,hpc,hov,_⟩ := HP.out
   have hl8 : vs0.length = 10 := owL_len hov
   have hpc1 := hpc.of_block (hb1.block _ hpc.lt) hb1.size
   have cc : ∀ j,j < 10 → ∃ u,w1.cell? ⟨w.heap.size,k * 10 + j,none⟩ = some u ∧ w1.frozen? ⟨w.heap.size,k * 10 + j,none⟩ = false := fun j hj => ⟨_,(hpc1.cell j (by omega)).trans (List.getElem?_eq_getElem (by omega)),hpc1.free j (by omega)⟩
   obtain ⟨u0,e0,g0⟩ := cc 0 (by omega)
   obtain ⟨u1,e1,g1⟩ := cc 1 (by omega)
   obtain ⟨u2,e2,g2⟩ := cc 2 (by omega)
   obtain ⟨u3,e3,g3⟩ := cc 3 (by omega)
   obtain ⟨u4,e4,g4⟩ := cc 4 (by omega)
   obtain ⟨u5,e5,g5⟩ := cc 5 (by omega)
   obtain ⟨u6,e6,g6⟩ := cc 6 (by omega)
   obtain ⟨u7,e7,g7⟩ := cc 7 (by omega)
   obtain ⟨u8,e8,g8⟩ := cc 8 (by omega)
   obtain ⟨u9,e9,g9⟩ := cc 9 (by omega)
   simp only [Nat.add_zero] at e0 g0
   obtain ⟨fp',hN1,hN2,hN3⟩ := HPut.out _ HA
   have HN1 : Hid (Cel.ow _ (lcl 10 ml10 (prL R (k + 1))) (.slice (some ⟨w.heap.size,0,none⟩) R.length R.length) fp') := hN1
   have HN3 : Hid (Wrt fp wr _) := hN3
   have HN2 : Hid (∀ b,fp' b → fp b ∨ wr.heap.size ≤ b) := hN2
   have hsz := HB.out.size
   clear d0 d1 d2 d3 d4 d5 d6 d7 d8 d9 hC hb1 hN1 hN2 hN3 HA cc hpc1 hov hpc
   try unfold mlV mlC
   go_wp2
   go_roundw
   case rel => exact ⟨k + 1,fp',by omega,by go_num,HN1.out,fun b hb => by have := HFP.out b;rcases HN2.out b hb with h | h;exact this h;omega,HN3.out.below HB.out hsz HFP.out⟩
   case measure => simp [intOf];omega
  ·obtain rfl : k = R.length := by omega
   have k1 : ¬ ((R.length : Int) < (R.length : Int)) := by omega
   have HE : Hid (NewO w wr (lcl 10 ml10 R) (.slice (some ⟨w.heap.size,0,none⟩) R.length R.length)) := by rw [prL_all] at ho;exact ⟨fp,ho,hfp,hb⟩
   clear ho hb
   go_wp2
   go_ret
   exact ⟨_,_,rfl,HE.out⟩
attribute [local irreducible] sv
structure TG (w X : World) (S O : Array Value) (cs : List Cel) (vs : List Value) (fp : Fp) : Prop where
 src : Bx X w.heap.size 55 S
 res : Bx X (w.heap.size + 1) 61 #[.slice none 0 0,.slice none 0 0,.slice none 0 0]
 out : Bx X (w.heap.size + 1 + 1) 61 O
 own : owL X cs vs fp
 fpl : ∀ b,fp b → w.heap.size + 1 + 1 < b
 below : Below w.heap.size w X
theorem TG.set {w X : World} {S O : Array Value} {cs : List Cel} {vs : List Value} {fp : Fp} (h : TG w X S O cs vs fp) (i : Nat) (v : Value) : TG w (X.setCell ⟨w.heap.size + 1 + 1,i,none⟩ v) S (O.setIfInBounds i v) cs vs fp :=
 ⟨h.src.far (by omega) v,h.res.far (by omega) v,h.out.setC i v,owL_wrt h.own (Wrt.set X (w.heap.size + 1 + 1) i v) (fun b hb e => by have := h.fpl b hb;omega),h.fpl,h.below.setCell (p := ⟨w.heap.size + 1 + 1,i,none⟩) (show w.heap.size ≤ w.heap.size + 1 + 1 by omega) v⟩
theorem TG.add {w X X' : World} {S O : Array Value} {cs : List Cel} {vs : List Value} {fp : Fp} (h : TG w X S O cs vs fp) {c : Cel} {v : Value} (hN : NewO X X' c v) : ∃ fp',TG w X' S O (cs ++ [c]) (vs ++ [v]) fp' := by
 obtain ⟨f,ho,hf,hb⟩ := hN
 have hol := h.out.lt
 refine ⟨fun b => fp b ∨ f b,h.src.below hb,h.res.below hb,h.out.below hb,owL_append (owL_below h.own hb) (owL_one.2 ho) (fun b h1 h2 => ?_),fun b hb => ?_,h.below.trans (hb.mono h.below.size)⟩
 ·have := owL_lt h.own b h1
  have := hf b h2
  omega
 ·rcases hb with hb | hb
  ·exact h.fpl b hb
  ·have := hf b hb;omega
set_option maxRecDepth 100000 in
set_option maxHeartbeats 3200000 in
theorem toGr_any (A : Ga) (g : Gr) (w : World) (hv : GrS w A g) (hs : szGr g ≤ 1048576) :
  Calls Try.prog 45 #[grV A g] w fun e w' => AnsGr w w' e g := by
 unfold szGr at hs
 have HM : Hid (∀ X,Below w.heap.size w X → Calls Try.prog 95 #[.slice A.ma g.mem.length A.mc] X fun e w' => ∃ a' c',e = .returned (.slice a' g.mem.length c') ∧ NewO X w' (lcl 5 mb5 g.mem) (.slice a' g.mem.length c')) := fun X h => toMs_any A.ma A.mc g.mem X (hv.below h).mem hv.fit.1 (by omega)
 have HU : Hid (∀ X,Below w.heap.size w X → Calls Try.prog 96 #[.slice A.ua g.up.length A.uc] X fun e w' => ∃ a' c',e = .returned (.slice a' g.up.length c') ∧ NewO X w' (ocl g.up) (.slice a' g.up.length c')) := fun X h => toF_any A.ua A.uc g.up X (hv.below h).up (by omega)
 have HL : Hid (∀ X,Below w.heap.size w X → Calls Try.prog 97 #[.slice A.la g.mail.length A.lc] X fun e w' => ∃ a' c',e = .returned (.slice a' g.mail.length c') ∧ NewO X w' (lcl 10 ml10 g.mail) (.slice a' g.mail.length c')) := fun X h => toLs_any A.la A.lc g.mail X (hv.below h).mail hv.fit.2 (by omega)
 have T0 : TG w (((w.alloc (.cells #[.slice A.ma g.mem.length A.mc,.slice A.ua g.up.length A.uc,.slice A.la g.mail.length A.lc] 55)).alloc (.cells #[.slice none 0 0,.slice none 0 0,.slice none 0 0] 61)).alloc (.cells #[.slice none 0 0,.slice none 0 0,.slice none 0 0] 61)) #[.slice A.ma g.mem.length A.mc,.slice A.ua g.up.length A.uc,.slice A.la g.mail.length A.lc] #[.slice none 0 0,.slice none 0 0,.slice none 0 0] [] [] (fun _ => False) := by
  have x0 := ((Bx.new w 55 #[.slice A.ma g.mem.length A.mc,.slice A.ua g.up.length A.uc,.slice A.la g.mail.length A.lc]).alloc (.cells #[.slice none 0 0,.slice none 0 0,.slice none 0 0] 61)).alloc (.cells #[.slice none 0 0,.slice none 0 0,.slice none 0 0] 61)
  have x1 := (Bx.new (w.alloc (.cells #[.slice A.ma g.mem.length A.mc,.slice A.ua g.up.length A.uc,.slice A.la g.mail.length A.lc] 55)) 61 #[.slice none 0 0,.slice none 0 0,.slice none 0 0]).alloc (.cells #[.slice none 0 0,.slice none 0 0,.slice none 0 0] 61)
  have x2 := Bx.new ((w.alloc (.cells #[.slice A.ma g.mem.length A.mc,.slice A.ua g.up.length A.uc,.slice A.la g.mail.length A.lc] 55)).alloc (.cells #[.slice none 0 0,.slice none 0 0,.slice none 0 0] 61)) 61 #[.slice none 0 0,.slice none 0 0,.slice none 0 0]
  simp only [World.size_alloc] at x1 x2
  exact ⟨x0,x1,x2,⟨rfl,fun _ h => h⟩,fun b h => h.elim,((Below.refl _ _).alloc (Nat.le_refl _) _).alloc (by simp) _ |>.alloc (by simp only [World.size_alloc];omega) _⟩
 have hWW : ∃ W,((w.alloc (.cells #[.slice A.ma g.mem.length A.mc,.slice A.ua g.up.length A.uc,.slice A.la g.mail.length A.lc] 55)).alloc (.cells #[.slice none 0 0,.slice none 0 0,.slice none 0 0] 61)).alloc (.cells #[.slice none 0 0,.slice none 0 0,.slice none 0 0] 61) = W := ⟨_,rfl⟩
 obtain ⟨W,hWW⟩ := hWW
 rw [hWW] at T0
 have hC1 := HM.out _ T0.below
 obtain ⟨s0,s1,s2⟩ := Bx.g3 T0.src
 have HT0 : Hid (TG w W #[.slice A.ma g.mem.length A.mc,.slice A.ua g.up.length A.uc,.slice A.la g.mail.length A.lc] #[.slice none 0 0,.slice none 0 0,.slice none 0 0] [] [] (fun _ => False)) := T0
 unfold grV grC
 clear hv T0 hs
 go_enter Try.func45,Try.ntmps45
 go_wp2_with fail
 refine hC1.mono ?_
 rintro e w1 ⟨a1,c1,rfl,hN1⟩
 obtain ⟨fp1,T1⟩ := HT0.out.add hN1
 clear s0 s1 s2
 have o0 := T1.out.at 0 rfl
 have z0 := T1.out.f 0
 have T1s := T1.set 0 (.slice a1 g.mem.length c1)
 have T1' : TG w (w1.setCell ⟨w.heap.size + 1 + 1,0,none⟩ (.slice a1 g.mem.length c1)) #[.slice A.ma g.mem.length A.mc,.slice A.ua g.up.length A.uc,.slice A.la g.mail.length A.lc] #[.slice a1 g.mem.length c1,.slice none 0 0,.slice none 0 0] ([] ++ [lcl 5 mb5 g.mem]) ([] ++ [.slice a1 g.mem.length c1]) fp1 := by simpa using T1s
 have hC2 := HU.out _ T1'.below
 have HT1 : Hid (TG w (w1.setCell ⟨w.heap.size + 1 + 1,0,none⟩ (.slice a1 g.mem.length c1)) #[.slice A.ma g.mem.length A.mc,.slice A.ua g.up.length A.uc,.slice A.la g.mail.length A.lc] #[.slice a1 g.mem.length c1,.slice none 0 0,.slice none 0 0] ([] ++ [lcl 5 mb5 g.mem]) ([] ++ [.slice a1 g.mem.length c1]) fp1) := T1'
 have t1 := T1'.src.at 1 rfl
 clear hN1 T1 T1s T1' hC1 HT0
 go_wp2_with fail
 refine hC2.mono ?_
 rintro e w2 ⟨a2,c2,rfl,hN2⟩
 clear o0 z0 t1
 obtain ⟨fp2,T2⟩ := HT1.out.add hN2
 have o1 := (show Bx _ _ _ #[.slice a1 g.mem.length c1,.slice none 0 0,.slice none 0 0] from T2.out).at 1 rfl
 have z1 := T2.out.f 1
 have T2s := T2.set 1 (.slice a2 g.up.length c2)
 have T2' : TG w (w2.setCell ⟨w.heap.size + 1 + 1,1,none⟩ (.slice a2 g.up.length c2)) #[.slice A.ma g.mem.length A.mc,.slice A.ua g.up.length A.uc,.slice A.la g.mail.length A.lc] #[.slice a1 g.mem.length c1,.slice a2 g.up.length c2,.slice none 0 0] (([] ++ [lcl 5 mb5 g.mem]) ++ [ocl g.up]) (([] ++ [.slice a1 g.mem.length c1]) ++ [.slice a2 g.up.length c2]) fp2 := by simpa using T2s
 have hC3 := HL.out _ T2'.below
 have HT2 : Hid (TG w (w2.setCell ⟨w.heap.size + 1 + 1,1,none⟩ (.slice a2 g.up.length c2)) #[.slice A.ma g.mem.length A.mc,.slice A.ua g.up.length A.uc,.slice A.la g.mail.length A.lc] #[.slice a1 g.mem.length c1,.slice a2 g.up.length c2,.slice none 0 0] (([] ++ [lcl 5 mb5 g.mem]) ++ [ocl g.up]) (([] ++ [.slice a1 g.mem.length c1]) ++ [.slice a2 g.up.length c2]) fp2) := T2'
 have t2 := T2'.src.at 2 rfl
 clear hN2 T2 T2s T2' hC2 HT1
 go_wp2_with fail
 refine hC3.mono ?_
 rintro e w3 ⟨a3,c3,rfl,hN3⟩
 clear o1 z1 t2
 obtain ⟨fp3,T3⟩ := HT2.out.add hN3
 have o2 := (show Bx _ _ _ #[.slice a1 g.mem.length c1,.slice a2 g.up.length c2,.slice none 0 0] from T3.out).at 2 rfl
 have z2 := T3.out.f 2
 have T3s := T3.set 2 (.slice a3 g.mail.length c3)
 have T3' : TG w (w3.setCell ⟨w.heap.size + 1 + 1,2,none⟩ (.slice a3 g.mail.length c3)) #[.slice A.ma g.mem.length A.mc,.slice A.ua g.up.length A.uc,.slice A.la g.mail.length A.lc] #[.slice a1 g.mem.length c1,.slice a2 g.up.length c2,.slice a3 g.mail.length c3] ((([] ++ [lcl 5 mb5 g.mem]) ++ [ocl g.up]) ++ [lcl 10 ml10 g.mail]) ((([] ++ [.slice a1 g.mem.length c1]) ++ [.slice a2 g.up.length c2]) ++ [.slice a3 g.mail.length c3]) fp3 := by simpa using T3s
 obtain ⟨y0,y1,y2⟩ := Bx.g3 T3'.out
 obtain ⟨r0,r1,r2⟩ := Bx.g3 T3'.res
 obtain ⟨f0,f1,f2⟩ := T3'.res.f3
 have HT3 : Hid (TG w (w3.setCell ⟨w.heap.size + 1 + 1,2,none⟩ (.slice a3 g.mail.length c3)) #[.slice A.ma g.mem.length A.mc,.slice A.ua g.up.length A.uc,.slice A.la g.mail.length A.lc] #[.slice a1 g.mem.length c1,.slice a2 g.up.length c2,.slice a3 g.mail.length c3] ((([] ++ [lcl 5 mb5 g.mem]) ++ [ocl g.up]) ++ [lcl 10 ml10 g.mail]) ((([] ++ [.slice a1 g.mem.length c1]) ++ [.slice a2 g.up.length c2]) ++ [.slice a3 g.mail.length c3]) fp3) := T3'
 clear hN3 T3 T3s T3' hC3 HT2
 go_wp2
 refine bodyPost_ret (v := .agg #[.slice a1 g.mem.length c1,.slice a2 g.up.length c2,.slice a3 g.mail.length c3]) (by simp [results,Try.results45,go_sem, *]) rfl ?_
 refine ⟨⟨a1,c1,a2,c2,a3,c3⟩,rfl,fp3,owL_wrt HT3.out.own (wrtG3 _ (w.heap.size + 1)) (fun b hb e => by have := HT3.out.fpl b hb;omega),fun b hb => by have := HT3.out.fpl b hb;omega,(wrtG3 _ (w.heap.size + 1)).below HT3.out.below HT3.out.below.size (fun b e => by rw [e];omega)⟩
end Go.Proofs.Ytlnmdfgcpfbleaa