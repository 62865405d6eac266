/-
  Texts in one: Drt Rdw Rdr Rds Mci.
-/
import Derived.Test.YtidnfdobljihoaaGreatJab
import Derived.Test.YtidnfdobljihoaaGreatJai
import Derived.Test.YtidnfdobljihoaaGreatJae
import Derived.Test.YtidnfdobljihoaaGreatJad
import Derived.Deep.CutRange
import Derived.Deep.Cut
import Derived.Deep.RegionHeld3
namespace Go.Proofs.YtidnfdobljihoaaGreat
set_option linter.unusedSimpArgs false
set_option linter.unusedVariables false
open Go.RowKit Go.Sort
def bys (l : List UInt8) : List Value := l.map (fun b => Value.int .u8 (b.toNat : Int))
theorem bys_app (a b : List UInt8) : bys (a ++ b) = bys a ++ bys b := by simp [bys]
theorem bys_len (l : List UInt8) : (bys l).length = l.length := by simp [bys]
def OBy (w : World) (g off n cap : Nat) (l : List UInt8) : Prop := OSl w 1 g off n cap (bys l)
theorem OBy.length {w : World} {g off n cap : Nat} {l : List UInt8} (h : OBy w g off n cap l) : l.length = n := by have := h.len;rw [bys_len] at this;omega
theorem OBy.cellAt {w : World} {g off n cap : Nat} {l : List UInt8} (h : OBy w g off n cap l) {i : Nat} (hi : i < l.length) : w.cell? ⟨g,off + i,none⟩ = some (.int .u8 (l[i].toNat : Int)) := by
 have hl := h.length
 rw [h.cell i (by omega)]
 simp [bys,hi]
theorem oby_empty (w : World) (T : TypeId) : OBy (w.alloc (.cells #[] T)) w.heap.size 0 0 0 [] :=
 ⟨rfl,Nat.le_refl _,Nat.zero_le _,by simp,fun i hi => by omega,fun i hi => by omega,fun i hi => by omega⟩
theorem oby_app {w : World} {g off n m cap : Nat} {l r : List UInt8} (h : OSl w 1 g off (n + m) cap (bys l ++ bys r)) : OBy w g off (n + m) cap (l ++ r) := by unfold OBy;rw [bys_app];exact h
theorem OBy.set {w : World} {g off n cap : Nat} {l : List UInt8} (h : OBy w g off n cap l) {i : Nat} (hi : i < n) (b : UInt8) : OBy (w.setCell ⟨g,off + i,none⟩ (.int .u8 (b.toNat : Int))) g off n cap (l.set i b) := by
 have hl := h.length
 have hc := h.cellAt (i := i) (by omega)
 refine ⟨by rw [bys_len];simp [hl],h.le,h.max,by simp [World.setCell];exact h.blk,fun j hj => ?_,fun j hj => ?_,fun j hj => by rw [World.frozen?_setCell];exact h.free j hj⟩
 ·by_cases e : i = j
  ·subst e
   rw [World.cell?_setCell_same _ _ _ hc]
   simp [bys,show i < l.length by omega]
  ·rw [World.cell?_setCell_other _ _ _ _ (by simp [e]),h.cell j hj]
   simp [bys,e]
 ·by_cases e : i = j
  ·subst e
   rw [World.cell?_setCell_same _ _ _ hc];rfl
  ·rw [World.cell?_setCell_other _ _ _ _ (by simp [e])];exact h.some j hj
theorem OBy.str {w : World} {g off cap : Nat} {l : List UInt8} (h : OBy w g off l.length cap l) : (convert 22 9 (.slice (some ⟨g,off,none⟩) l.length cap)).run Tryz.prog w = .ok (.string (sv l)) w :=
 run_convert_bytes_back (P := Tryz.prog) w 22 9 5 ⟨g,off,none⟩ cap l Tryz.underlying22 Tryz.underlying5 Tryz.underlying9 (fun j hj => by rw [add_lit0];exact h.cellAt hj)
structure Lb (w wr : World) (p : Nat) (a : Option Addr) (len cap g f c : Nat) (l : List UInt8) : Prop where
 out : OBy wr g f l.length c l
 new : w.heap.size ≤ g
 cur : CurAt wr p a len cap
 grown : w.grownBy wr (some p)
theorem Lb.step {w wr wx : World} {p : Nat} {a : Option Addr} {len cap g f c : Nat} {l : List UInt8} (h : Lb w wr p a len cap g f c l) (hpl : p < w.heap.size) (hc : CurAt wx p a len cap) (hg : wr.grownBy wx (some p)) : Lb w wx p a len cap g f c l :=
 ⟨OSl.grown h.out hg (by have := h.new;simp;omega),h.new,hc,grown_trans h.grown hg⟩
theorem Lb.bvec {w wr : World} {p : Nat} {a : Option Addr} {len cap g f c : Nat} {l : List UInt8} {bs : Nat → Int} (h : Lb w wr p a len cap g f c l) (hv : BVec w a len bs) (hp : OffB a len p) : BVec wr a len bs := hv.grown h.grown hp
theorem Lb.push {w wr w6 : World} {p : Nat} {a : Option Addr} {len cap g f c g6 f6 c6 : Nat} {l r : List UInt8} (h : Lb w wr p a len cap g f c l) (hpl : p < w.heap.size) (o : Obj) (hO : OSl w6 1 g6 f6 (l.length + r.length) c6 (bys l ++ bys r)) (hg : (wr.alloc o).grownBy w6 (some g)) (hat : g6 = g ∨ g6 = (wr.alloc o).heap.size) : Lb w w6 p a len cap g6 f6 c6 (l ++ r) := by
 have hs := h.grown.size
 have hn := h.new
 refine ⟨by rw [List.length_append];exact oby_app hO, ?_, ?_, ?_⟩
 ·rcases hat with e | e
  ·rw [e];exact h.new
  ·rw [e];simp;omega
 ·exact (h.cur.alloc o).grown hg (by simp;omega)
 ·exact grown_more (grown_more h.grown (World.grownBy_alloc wr o none) (by simp)) hg (fun k hk => by cases hk;exact h.new)
theorem Lb.set {w wr : World} {p : Nat} {a : Option Addr} {len cap g f c i : Nat} {l : List UInt8} (h : Lb w wr p a len cap g f c l) (hpl : p < w.heap.size) (hi : i < l.length) (b : UInt8) : Lb w (wr.setCell ⟨g,f + i,none⟩ (.int .u8 (b.toNat : Int))) p a len cap g f c (l.set i b) :=
 ⟨by rw [List.length_set];exact h.out.set hi b,h.new,h.cur.set (by have := h.new;omega) _ _,grown_setOwn h.grown h.new _ _⟩
theorem u8_of {x : Int} (h0 : 0 ≤ x) (h1 : x ≤ 255) : ((UInt8.ofNat x.toNat).toNat : Int) = x := by rw [UInt8.toNat_ofNat'];omega
attribute [local irreducible] sv
set_option maxRecDepth 100000 in
set_option maxHeartbeats 1600000 in
theorem drawText_any (p : Nat) (a : Option Addr) (len cap : Nat) (bs : Nat → Int) (most : Nat) (w : World) (hcur : CurAt w p a len cap) (hv : BVec w a len bs) (hp : OffB a len p) (hl : len ≤ 4096) (hmost : most ≤ 1000) :
  Calls Tryz.prog 118 #[.pointer (some ⟨p,0,none⟩),.int .i64 (most : Int)] w fun e w' => ∃ l : List UInt8,l.length ≤ most ∧ e = .returned (.string (sv l)) ∧ CurAt w' p a len cap ∧ w.grownBy w' (some p) := by
 obtain ⟨i0,hi0,hz0,hz1,hz2⟩ := info_parts Tryz.info5
 have hpl := hcur.lt
 have L0 : Lb w (w.alloc (.cells #[] 5)) p a len cap w.heap.size 0 0 [] := ⟨oby_empty w 5,Nat.le_refl _,hcur.alloc _,World.grownBy_alloc w _ _⟩
 go_enter Tryz.func118,Tryz.ntmps118
 go_wp2_with fail
 refine (below_any p a len cap bs ((most : Int) + 1) _ L0.cur (L0.bvec hv hp) hp hl (by omega)).mono ?_
 rintro e w1 ⟨x,rfl,hx0,hx1,_,hc1,hg1⟩
 have hxm := hx1 (by omega)
 obtain ⟨N,hN⟩ : ∃ N : Nat,x = (N : Int) := ⟨x.toNat,by omega⟩
 subst hN
 have HL1 : Hid (Lb w w1 p a len cap w.heap.size 0 0 []) := L0.step hpl hc1 hg1
 clear L0 hx0 hx1 hc1 hg1
 go_wp2
 go_loopw [5,6] (fun b n wr => ∃ (l : List UInt8) (g f c M : Nat),n = .int .i64 (M : Nat) ∧ b = .slice (some ⟨g,f,none⟩) l.length c ∧ l.length + M ≤ most ∧ Lb w wr p a len cap g f c l) (fun _ n _ => (intOf n).toNat)
 case atStart => exact ⟨[],w.heap.size,0,0,N,rfl,rfl,by simp;omega,HL1.out⟩
 case round =>
  obtain ⟨l,g,f,c,M,rfl,rfl,hlm,hL⟩ := hrel
  have KL : Hid (Lb w wr p a len cap g f c l) := hL
  clear hL HL1
  rcases Nat.eq_zero_or_pos M with h0 | hpos
  ·subst h0
   go_wp2_with fail
   refine (once_any p a len cap bs 7 wr KL.out.cur (KL.out.bvec hv hp) hp hl (by omega)).mono ?_
   rintro e w2 ⟨x,rfl,hc2,hg2⟩
   have K2 : Hid (Lb w w2 p a len cap g f c l) := KL.out.step hpl hc2 hg2
   clear hc2 hg2
   by_cases hx : x = true ∧ 0 < l.length
   ·obtain ⟨rfl,hlp⟩ := hx
    have hli : (0 : Int) < (l.length : Int) := by omega
    go_wp2_with fail
    refine (below_any p a len cap bs (l.length : Int) w2 K2.out.cur (K2.out.bvec hv hp) hp hl (by omega)).mono ?_
    rintro e w3 ⟨y,rfl,hy0,hy1,_,hc3,hg3⟩
    have hyl := hy1 (by omega)
    obtain ⟨k,hk⟩ : ∃ k : Nat,y = (k : Int) := ⟨y.toNat,by omega⟩
    subst hk
    have K3 : Hid (Lb w w3 p a len cap g f c l) := K2.out.step hpl hc3 hg3
    clear hy0 hy1 hc3 hg3
    go_wp2_with fail
    refine (byte_any p a len cap bs w3 K3.out.cur (K3.out.bvec hv hp) hp hl).mono ?_
    rintro e w4 ⟨z,rfl,hz00,hz255,hc4,hg4⟩
    have K4 : Hid (Lb w w4 p a len cap g f c l) := K3.out.step hpl hc4 hg4
    have hkl : k < l.length := by omega
    have c1 := K4.out.out.cellAt hkl
    have f1 := K4.out.out.free k (by have := K4.out.out.le;omega)
    have K5 := K4.out.set hpl hkl (UInt8.ofNat z.toNat)
    rw [u8_of hz00 hz255] at K5
    have hstr := K5.out.str
    rw [List.length_set] at hstr
    have hyi : (0 : Int) ≤ (k : Int) := by omega
    have K5' : Hid (CurAt (w4.setCell ⟨g,f + k,none⟩ (.int .u8 z)) p a len cap ∧ w.grownBy (w4.setCell ⟨g,f + k,none⟩ (.int .u8 z)) (some p)) := ⟨K5.cur,K5.grown⟩
    clear hc4 hg4 K5
    go_wp2
    go_ret
    exact ⟨l.set k (UInt8.ofNat z.toNat),by rw [List.length_set];omega,rfl,K5'.out.1,K5'.out.2⟩
   ·have hstr := K2.out.out.str
    have K2' : Hid (CurAt w2 p a len cap ∧ w.grownBy w2 (some p)) := ⟨K2.out.cur,K2.out.grown⟩
    cases x
    ·clear hx
     go_wp2
     go_ret
     exact ⟨l,by omega,rfl,K2'.out.1,K2'.out.2⟩
    ·have hli : l.length = 0 := by
      rcases Nat.eq_zero_or_pos l.length with h | h
      ·exact h
      ·exact absurd ⟨rfl,h⟩ hx
     rw [hli] at hstr
     rw [hli]
     clear hx
     go_wp2
     go_ret
     exact ⟨l,by omega,rfl,K2'.out.1,K2'.out.2⟩
  ·have hMi : (0 : Int) < (M : Int) := by omega
   go_wp2_with fail
   refine (below_any p a len cap bs 3 wr KL.out.cur (KL.out.bvec hv hp) hp hl (by omega)).mono ?_
   rintro e w2 ⟨x,rfl,hx0,hx1,_,hc2,hg2⟩
   have hx3 := hx1 (by omega)
   have K2 : Hid (Lb w w2 p a len cap g f c l) := KL.out.step hpl hc2 hg2
   have hu := u8_of (x := 97 + x) (by omega) (by omega)
   have hO1 : OSl (w2.alloc (.cells #[.int .u8 (97 + x)] 5)) 1 g f l.length c (bys l) := OSl.below K2.out.out ((Below.refl _ _).alloc (Nat.le_refl _) _) K2.out.out.blk
   clear hx1 hc2 hg2
   go_wp2_with (at_builtin;refine wpList_append_os _ rfl _ _ 22 rfl 5 i0 _ 1 1 Tryz.underlying22 hi0 hz0 hz1 hz2 rfl (by omega) g f l.length c _ rfl hO1 ⟨w2.heap.size,0,none⟩ 1 1 [.int .u8 (97 + x)] rfl rfl (World.news_of_block (cs := #[.int .u8 (97 + x)]) (t := 5) (fr := (0,0)) (heap_alloc_new _ _)) (by simp [Value.oneCell']) (by unfold maxLen;omega) (by omega) ?_;intro g6 f6 c6 w6 hO6 hg6 hat6)
   have hO7 : OSl w6 1 g6 f6 (l.length + [UInt8.ofNat (97 + x).toNat].length) c6 (bys l ++ bys [UInt8.ofNat (97 + x).toNat]) := by
    have e : bys [UInt8.ofNat (97 + x).toNat] = [.int .u8 (97 + x)] := by simp only [bys,List.map_cons,List.map_nil,hu]
    rw [e];exact hO6
   have K7 := K2.out.push hpl _ hO7 hg6 hat6
   go_roundw
   case rel => exact ⟨l ++ [UInt8.ofNat (97 + x).toNat],g6,f6,c6,M - 1,by go_num,by rw [List.length_append];rfl,by rw [List.length_append];simp;omega,K7⟩
   case measure => simp [intOf];omega
end Go.Proofs.YtidnfdobljihoaaGreat
namespace Go.Proofs.YtidnfdobljihoaaGreat
set_option linter.unusedVariables false
set_option linter.unusedSimpArgs false
open Go.RowKit Go.Sort
theorem textR (most : Nat) (n : Int) (hn : n = (most : Int)) (hm : most ≤ 1000) {w X : World} {p : Nat} {a : Option Addr} {len cap : Nat} {bs : Nat → Int} (h : Cc w X p a len cap bs) :
  Calls Tryz.prog 118 #[.pointer (some ⟨p,0,none⟩),.int .i64 n] X fun e w' => ∃ l : List UInt8,e = .returned (.string (sv l)) ∧ l.length ≤ most ∧ Cc w w' p a len cap bs ∧ X.grownBy w' (some p) := by
 subst hn
 refine (drawText_any p a len cap bs most X h.cur h.bvec h.off h.hl hm).mono ?_
 rintro e w' ⟨l,h1,rfl,hc,hg⟩
 exact ⟨l,rfl,h1,h.drawn hg hc,hg⟩
theorem snoc_short {T : List (List UInt8)} {s : List UInt8} {n : Nat} (h : (∀ i,i < T.length → (T.getD i []).length ≤ n)) (hs : s.length ≤ n) : ∀ i,i < (T ++ [s]).length → ((T ++ [s]).getD i []).length ≤ n := fun i hi => by
 rw [List.length_append,List.length_singleton] at hi
 by_cases e : i < T.length
 ·have := h i e
  simpa [List.getD_eq_getElem?_getD,List.getElem?_append_left e] using this
 ·obtain rfl : i = T.length := by omega
  simpa [List.getD_eq_getElem?_getD] using hs
theorem make_byR (n : Nat) (hn : n ≤ 1048576) (w : World) :
  (Instr.makeSlice 22 (.int .i64 (n : Int)) (.int .i64 (n : Int))).run Tryz.prog w = .ok (.slice (some ⟨w.heap.size,0,none⟩) n n) (w.alloc (.cells (madeCells #[.int .u8 0] n) 5)) := by
 obtain ⟨i,hi,hz,hs,hb⟩ := info_parts9 Tryz.info5
 have hr := run_make (P := Tryz.prog) w 22 5 i _ Tryz.underlying22 hi hz .i64 .i64 n n (by omega) (Int.le_refl _) (by rw [hb];omega) (by omega)
 simp only [Int.toNat_natCast,hs,Nat.mul_one] at hr
 exact hr
theorem conv_byR (w : World) (n : Nat) (hn : n ≤ 1048576) : (convert 22 9 (.slice (some ⟨w.heap.size,0,none⟩) n n)).run Tryz.prog (w.alloc (.cells (madeCells #[.int .u8 0] n) 5)) = .ok (.string (sv (List.replicate n 0))) (w.alloc (.cells (madeCells #[.int .u8 0] n) 5)) := by
 have h := osl_made w #[.int .u8 0] 1 n 5 rfl (by omega) (by unfold maxLen;omega)
 have e : bys (List.replicate n 0) = (List.replicate n (#[Value.int .u8 0] : Array Value).toList).flatten := by
  simp only [bys,List.map_replicate]
  clear h hn
  induction n with
  | zero => rfl
  | succ n ih => rw [List.replicate_succ,List.replicate_succ,List.flatten_cons,← ih];rfl
 rw [← e,Nat.mul_one] at h
 have h2 : OBy (w.alloc (.cells (madeCells #[.int .u8 0] n) 5)) w.heap.size 0 (List.replicate n (0 : UInt8)).length n (List.replicate n 0) := by rw [List.length_replicate];exact h
 have h3 := h2.str
 rw [List.length_replicate] at h3
 exact h3
theorem put_len (xs : List Int) (n : Int) : (putL xs n).length ≤ xs.length + 1 := by
 induction xs with
 | nil => simp [putL]
 | cons x l ih =>
  unfold putL
  split
  ·simp;omega
  ·split
   ·simp
   ·simp
theorem put_fits {xs : List Int} {n : Int} (h : Fits xs) (hn : -9223372036854775808 ≤ n ∧ n ≤ 9223372036854775807) : Fits (putL xs n) := fun x hx => by
 rcases mem_putL.1 hx with e | e
 ·rw [e];exact hn
 ·exact h x e
theorem newRw_sus (n : Int) : (newRw n).sus.length = 0 := by
 unfold newRw
 split <;> rfl
theorem newRw_sm (n : Int) : SmR (newRw n) ∧ (newRw n).txt.length = 0 := by
 unfold newRw
 split
 ·rename_i h
  have := inB7.1 h
  exact ⟨⟨by simp,by simp,fun i hi => by simp at hi,by simp;omega,fun x hx => by have := List.eq_of_mem_replicate hx;omega,by simp,fun x hx => absurd hx List.not_mem_nil,by simp,fun x hx => absurd hx List.not_mem_nil,by simp⟩,rfl⟩
 ·exact ⟨⟨by simp [zeroRw],by simp [zeroRw],fun i hi => by simp [zeroRw] at hi,by simp [zeroRw],fun x hx => absurd hx List.not_mem_nil,by simp [zeroRw],fun x hx => absurd hx List.not_mem_nil,by simp [zeroRw],fun x hx => absurd hx List.not_mem_nil,by simp [zeroRw]⟩,rfl⟩
attribute [local irreducible] sv
set_option maxRecDepth 100000 in
set_option maxHeartbeats 12800000 in
theorem drawRw_any (N : Nat) (n : Int) (hN : n = (N : Int)) (hN5 : N ≤ 5) {w X : World} {p : Nat} {a : Option Addr} {len cap : Nat} {bs : Nat → Int} (h : Cc w X p a len cap bs) :
  Calls Tryz.prog 117 #[.pointer (some ⟨p,0,none⟩),.int .i64 n] X fun e X' => ∃ (A : Ra) (r : Rw) (fp : Fp),e = .returned (rwV A r) ∧ SmR r ∧ owL X' (rwCels r) (rwVals A r) fp ∧ (∀ b,fp b → X.heap.size ≤ b) ∧ Cc w X' p a len cap bs ∧ X.grownBy X' (some p) := by
 subst hN
 have hmix : Tryz.prog.follows .mixedOrders = true := by kernel_rfl
 obtain ⟨i0,hi0,hz0,hz1,hz2⟩ := info_parts9 Tryz.info9
 have b1 := oneA16 X (.cells #[.int .i64 0,.slice none 0 0,.slice none 0 0,.slice none 0 0,.bool false,.bool false,.int .i64 0,.slice none 0 0] 37)
 have c1 := h.step b1
 have HR : Hid (Bx (X.alloc (.cells #[.int .i64 0,.slice none 0 0,.slice none 0 0,.slice none 0 0,.bool false,.bool false,.int .i64 0,.slice none 0 0] 37)) X.heap.size 37 #[.int .i64 0,.slice none 0 0,.slice none 0 0,.slice none 0 0,.bool false,.bool false,.int .i64 0,.slice none 0 0]) := Bx.new _ _ _
 have hpl := h.lt
 have hC := nrwS_any (N : Int) (X.alloc (.cells #[.int .i64 0,.slice none 0 0,.slice none 0 0,.slice none 0 0,.bool false,.bool false,.int .i64 0,.slice none 0 0] 37))
 obtain ⟨hsm,ht0⟩ := newRw_sm (N : Int)
 have hu0 := newRw_sus (N : Int)
 generalize newRw (N : Int) = r0 at *
 have HT0 : Hid (r0.txt.length = 0 ∧ r0.sus.length = 0) := ⟨ht0,hu0⟩
 clear ht0 hu0
 unfold AnsRw rwV rwC at hC
 have HC1 : Hid (Cc w _ p a len cap bs) := c1
 have HB1 : Hid (Below X.heap.size X _) := b1
 clear c1 b1
 go_enter Tryz.func117,Tryz.ntmps117
 go_wp2_with fail
 refine hC.mono ?_
 rintro e X2 ⟨A0,rfl,fp0,ho0,hf0,hb0⟩
 have R0 : RD w X (X2.alloc (.cells #[.int .i64 r0.ver,.slice A0.ta r0.txt.length A0.tc,.slice A0.ga r0.got.length A0.gc,.slice A0.sa r0.sus.length A0.sc,.bool r0.wed,.bool r0.rdy,.int .i64 r0.by_,.slice A0.ma r0.trm.length A0.mc] 37)) p a len cap bs X2.heap.size zeroRc A0 r0 fp0 := by
  have hs2 := hb0.size
  rw [World.size_alloc] at hs2
  have hb3 := oneA16 X2 (.cells (rwC A0 r0) 37)
  exact ⟨(HC1.out.step hb0).step hb3,(HR.out.below hb0).below hb3,Bx.new _ _ _,owL_below ho0 hb3,fun b hb => ⟨by have := hf0 b hb;rw [World.size_alloc] at this;omega,by have := owL_lt ho0 b hb;omega⟩,hpl,by omega,grown_trans (World.grownBy_alloc X _ _) (grown_trans ⟨hb0.os,hb0.tape,hb0.output,hb0.size,fun x hx _ => hb0.block x hx⟩ (World.grownBy_alloc _ _ _))⟩
 have hB1 := belowC 6 6 rfl R0.cc (by omega) (by omega)
 have HR0 : Hid (RD w X (X2.alloc (.cells #[.int .i64 r0.ver,.slice A0.ta r0.txt.length A0.tc,.slice A0.ga r0.got.length A0.gc,.slice A0.sa r0.sus.length A0.sc,.bool r0.wed,.bool r0.rdy,.int .i64 r0.by_,.slice A0.ma r0.trm.length A0.mc] 37)) p a len cap bs X2.heap.size zeroRc A0 r0 fp0) := R0
 clear R0 hC HC1 HB1 HR ho0 hf0 hb0
 go_wp2_with fail
 refine hB1.mono ?_
 rintro e Y1 ⟨v,rfl,hv,c2,g1⟩
 have R1 := HR0.out.drawn g1 c2
 obtain ⟨⟨x0,_⟩,_⟩ := R1.c8
 have x1 := R1.fo 0
 have R2 := R1.ver (v : Int)
 have hB2 := belowC 4 4 rfl R2.cc (by omega) (by omega)
 obtain ⟨r1,hr1⟩ : ∃ r1 : Rw,Hid (r1 = { r0 with ver := (v : Int) }) := ⟨_,rfl⟩
 have HR2 : Hid (RD w X (Y1.setCell ⟨X2.heap.size,0,none⟩ (.int .i64 (v : Int))) p a len cap bs X2.heap.size zeroRc A0 r1 fp0) := by rw [hr1.out];exact R2
 have HS2 : Hid (SmR r1) := by rw [hr1.out];exact ⟨by simp only;omega,hsm.tl,hsm.ts,hsm.gl,hsm.gf,hsm.sl,hsm.sf,hsm.ml,hsm.mf,hsm.bys⟩
 have HT2 : Hid (r1.txt.length = 0 ∧ r1.sus.length = 0) := by rw [hr1.out];exact HT0.out
 clear R1 R2 hB1 c2 g1 HR0 hsm HT0
 go_wp2_with fail
 refine hB2.mono ?_
 rintro e Y2 ⟨m,rfl,hm,c3,g2⟩
 have HR3 : Hid (RD w X Y2 p a len cap bs X2.heap.size zeroRc A0 r1 fp0) := HR2.out.drawn g2 c3
 clear hB2 c3 g2 HR2 x0 x1
 clear hr1
 generalize X2.heap.size = o at *
 go_wp2_with fail
 go_loopw [6] (fun i wr => ∃ (k : Nat) (A : Ra) (r : Rw) (fp : Fp),k ≤ m ∧ i = .int .i64 k ∧ RD w X wr p a len cap bs o zeroRc A r fp ∧ SmR r ∧ r.txt.length + k ≤ 3 ∧ r.sus.length = 0) (fun i _ => (intOf i).toNat)
 case atStart => exact ⟨m,A0,r1,fp0,Nat.le_refl _,rfl,HR3.out,HS2.out,by have := HT2.out.1;omega,HT2.out.2⟩
 case round =>
  obtain ⟨k,A,r,fp,hk,rfl,hR,hS,hTk,hU⟩ := hrel
  have HS : Hid (SmR r) := hS
  have HU : Hid (r.sus.length = 0) := hU
  clear hS hU
  by_cases hlt : 0 < k
  ·have k0 : (0 : Int) < (k : Int) := by omega
   have hR1 := hR.drewN 1
   have hT := textR 3 3 rfl (by omega) hR1.cc
   have x1 := hR.c8.1.2.1
   have hlen : r.txt.length ≤ 1000 := by omega
   have HR : Hid (RD w X (wr.drewN 1) p a len cap bs o zeroRc A r fp) := hR1
   clear hR hR1
   go_wp2_with fail
   refine gt_begin (S := fun X : World => X.cell? ⟨o,1,none⟩ = some (.slice A.ta r.txt.length A.tc)) 7 hmix (by kernel_rfl) ?_
   have hHeld : (fun X : World => X.cell? ⟨o,1,none⟩ = some (.slice A.ta r.txt.length A.tc)) wr.drew := x1
   refine gt_take (i := 0) (v := ?_) rfl (by kernel_rfl) (by kernel_rfl) (by kernel_rfl) (by kernel_rfl) (fun _ _ _ h => h) (Or.inl ⟨by rfl, ?_⟩) hHeld ?_
   rotate_left
   ·(intro X hSX;(try dsimp only at hSX);have g0 := hSX;go_simp;try with_reducible rfl)
   try simp only [Act.put,List.setIfInBounds_toArray,List.set_cons_zero,List.set_cons_succ]
   refine gt_take (i := 1) (v := ?_) rfl (by kernel_rfl) (by kernel_rfl) (by kernel_rfl) (by kernel_rfl) (fun _ _ _ h => h) (Or.inl ⟨by rfl, ?_⟩) hHeld ?_
   rotate_left
   ·(intro X hSX;(try dsimp only at hSX);have g0 := hSX;go_simp;try with_reducible rfl)
   try simp only [Act.put,List.setIfInBounds_toArray,List.set_cons_zero,List.set_cons_succ]
   refine gt_pure (i := 2) (v := ?_) rfl (by kernel_rfl) (by kernel_rfl) (by kernel_rfl) (fun _ _ _ h => h) (Or.inl ⟨by rfl, ?_⟩) ?_
   rotate_left
   ·(intro X;go_simp;try with_reducible rfl)
   try simp only [Act.put,List.setIfInBounds_toArray,List.set_cons_zero,List.set_cons_succ]
   refine gt_one (i := 3) rfl (by kernel_rfl) (by kernel_rfl) (fun K hK => ?_)
   go_simp
   go_at_call 118
   refine hT.mono ?_
   rintro e Y3 ⟨s,rfl,hs,c4,g4⟩
   have R3 := HR.out.drawn g4 c4
   refine hK.out _ _ R3.c8.1.2.1 (fun hHeld2 => ?_)
   clear hK hHeld
   have hHeld := hHeld2
   try simp only [Act.put,List.setIfInBounds_toArray,List.set_cons_zero,List.set_cons_succ]
   refine gt_one (i := 4) rfl (by kernel_rfl) (by kernel_rfl) (fun K hK => ?_)
   go_simp
   refine hK.out _ _ (R3.step (oneA16 Y3 (.cells #[.string (sv s)] 9))).c8.1.2.1 (fun hHeld3 => ?_)
   clear hK hHeld
   have hHeld := hHeld3
   try simp only [Act.put,List.setIfInBounds_toArray,List.set_cons_zero,List.set_cons_succ]
   refine gt_one (i := 5) rfl (by kernel_rfl) (by kernel_rfl) (fun K hK => ?_)
   refine step_append_of (by rfl) _ _ _ _ (by rfl) (.slice A.ta r.txt.length A.tc) _ (by rfl) (by rfl) (R3.app i0 hi0 hz0 hz1 hz2 s hlen) ⟨rfl,rfl,rfl,rfl⟩ ?_
   rintro v' w4 ⟨a',c',rfl,q1,q2,fp',hRn⟩
   refine hK.out _ _ q1 (fun hHeld4 => ?_)
   clear hK hHeld
   have hHeld := hHeld4
   try simp only [Act.put,List.setIfInBounds_toArray,List.set_cons_zero,List.set_cons_succ]
   refine gt_take (i := 6) (v := ?_) rfl (by kernel_rfl) (by kernel_rfl) (by kernel_rfl) (by kernel_rfl) (fun _ _ _ h => h) (Or.inl ⟨by rfl, ?_⟩) hHeld ?_
   rotate_left
   ·(intro X hSX;(try dsimp only at hSX);have g0 := hSX;go_simp;try with_reducible rfl)
   try simp only [Act.put,List.setIfInBounds_toArray,List.set_cons_zero,List.set_cons_succ]
   have HRn : Hid (RD w X (w4.setCell ⟨o,1,none⟩ (.slice a' (r.txt.length + 1) c')) p a len cap bs o zeroRc { A with ta := a',tc := c' } { r with txt := r.txt ++ [s] } fp') := hRn
   clear R3 hRn c4 g4 hT
   refine gt_last rfl (by kernel_rfl) (by kernel_rfl) (fun K hK => ?_)
   go_simp
   refine hK.out _ _ ?_
   go_wp2
   go_roundw
   case rel => exact ⟨k - 1,_,_,fp',by omega,by go_num,HRn.out,⟨HS.out.ver,by simp;omega,snoc_short HS.out.ts (by omega),HS.out.gl,HS.out.gf,HS.out.sl,HS.out.sf,HS.out.ml,HS.out.mf,HS.out.bys⟩,by simp;omega,HU.out⟩
   case measure => simp [intOf];omega
  ·obtain rfl : k = 0 := by omega
   have HR : Hid (RD w X wr p a len cap bs o zeroRc A r fp) := hR
   have HTL : Hid (r.txt.length ≤ 3) := by rw [Hid];omega
   obtain ⟨G,hG⟩ : ∃ G,Hid (r.got.length = G) := ⟨_,rfl⟩
   have hG16 : G ≤ 16 := by have := hG.out;have := HS.out.gl;omega
   clear hR hTk hlt hk
   go_wp2_with fail
   go_loopw [7] (fun i wx => ∃ (k : Nat) (A : Ra) (r : Rw) (fp : Fp),k ≤ G ∧ i = .int .i64 k ∧ RD w X wx p a len cap bs o zeroRc A r fp ∧ SmR r ∧ (r.txt.length ≤ 3 ∧ r.sus.length = 0) ∧ r.got.length = G) (fun i _ => G - (intOf i).toNat)
   case atStart => exact ⟨0,A,r,fp,Nat.zero_le _,rfl,HR.out,HS.out,⟨HTL.out,HU.out⟩,hG.out⟩
   case round =>
    clear HR HS HTL hG HU
    obtain ⟨k,A,r,fp,hk,rfl,hR,hS,⟨hT3,hU⟩,hGl⟩ := hrel
    have HU : Hid (r.sus.length = 0) := hU
    clear hU
    have HS : Hid (SmR r) := hS
    have HT3 : Hid (r.txt.length ≤ 3) := hT3
    have HGl : Hid (r.got.length = G) := hGl
    clear hS hT3
    by_cases hlt : k < G
    ·have k1 : (k : Int) < (r.got.length : Int) := by omega
     have k0 : (0 : Int) ≤ (k : Int) := by omega
     have hR1 := hR.drewN 1
     have hB := belowC 4 4 rfl hR1.cc (by omega) (by omega)
     have x1 := hR.c8.1.2.2.1
     have HR : Hid (RD w X (wr.drewN 1) p a len cap bs o zeroRc A r fp) := hR1
     obtain ⟨ta,tc,ga,gc,sa,sc,ma,mc⟩ := A
     obtain ⟨g,off,hga,_⟩ := hR.gotAt (show k < r.got.length by omega)
     simp only at hga
     subst hga
     clear hR hR1 hGl
     simp only at x1
     go_wp2_with fail
     refine gt_begin (S := fun X : World => X.cell? ⟨o,2,none⟩ = some (.slice (some ⟨g,off,none⟩) r.got.length gc)) 6 hmix (by kernel_rfl) ?_
     have hHeld : (fun X : World => X.cell? ⟨o,2,none⟩ = some (.slice (some ⟨g,off,none⟩) r.got.length gc)) wr.drew := x1
     refine gt_take (i := 0) (v := ?_) rfl (by kernel_rfl) (by kernel_rfl) (by kernel_rfl) (by kernel_rfl) (fun _ _ _ h => h) (Or.inl ⟨by rfl, ?_⟩) hHeld ?_
     rotate_left
     ·(intro X hSX;(try dsimp only at hSX);have g0 := hSX;go_simp;try with_reducible rfl)
     try simp only [Act.put,List.setIfInBounds_toArray,List.set_cons_zero,List.set_cons_succ]
     refine gt_take (i := 1) (v := ?_) rfl (by kernel_rfl) (by kernel_rfl) (by kernel_rfl) (by kernel_rfl) (fun _ _ _ h => h) (Or.inl ⟨by rfl, ?_⟩) hHeld ?_
     rotate_left
     ·(intro X hSX;(try dsimp only at hSX);have g0 := hSX;go_simp;try with_reducible rfl)
     try simp only [Act.put,List.setIfInBounds_toArray,List.set_cons_zero,List.set_cons_succ]
     refine gt_pure (i := 2) (v := ?_) rfl (by kernel_rfl) (by kernel_rfl) (by kernel_rfl) (fun _ _ _ h => h) (Or.inl ⟨by rfl, ?_⟩) ?_
     rotate_left
     ·(intro X;go_simp;try with_reducible rfl)
     try simp only [Act.put,List.setIfInBounds_toArray,List.set_cons_zero,List.set_cons_succ]
     refine gt_pure (i := 3) (v := ?_) rfl (by kernel_rfl) (by kernel_rfl) (by kernel_rfl) (fun _ _ _ h => h) (Or.inl ⟨by rfl, ?_⟩) ?_
     rotate_left
     ·(intro X;go_simp;try with_reducible rfl)
     try simp only [Act.put,List.setIfInBounds_toArray,List.set_cons_zero,List.set_cons_succ]
     refine gt_one (i := 4) rfl (by kernel_rfl) (by kernel_rfl) (fun K hK => ?_)
     go_simp
     go_at_call 55
     refine hB.mono ?_
     rintro e Y3 ⟨z,rfl,hz,c4,g4⟩
     have R3 := HR.out.drawn g4 c4
     refine hK.out _ _ R3.c8.1.2.2.1 (fun hHeld2 => ?_)
     clear hK hHeld
     have hHeld := hHeld2
     try simp only [Act.put,List.setIfInBounds_toArray,List.set_cons_zero,List.set_cons_succ]
     obtain ⟨g2,off2,hga2,⟨y1,y2⟩,hput⟩ := R3.gotAt (i := k) (by have := HGl.out;omega)
     simp only at hga2
     cases hga2
     obtain ⟨fp2,hRn⟩ := hput (z : Int)
     have HRn : Hid (RD w X (Y3.setCell ⟨g,off + k,none⟩ (.int .i64 (z : Int))) p a len cap bs o zeroRc ⟨ta,tc,some ⟨g,off,none⟩,gc,sa,sc,ma,mc⟩ { r with got := r.got.set k (z : Int) } fp2) := hRn
     clear hRn hput R3 c4 g4 hB HR
     refine gt_pure (i := 5) (v := ?_) rfl (by kernel_rfl) (by kernel_rfl) (by kernel_rfl) (fun _ _ _ h => h) (Or.inl ⟨by rfl, ?_⟩) ?_
     rotate_left
     ·(intro X;go_simp;try with_reducible rfl)
     try simp only [Act.put,List.setIfInBounds_toArray,List.set_cons_zero,List.set_cons_succ]
     refine gt_last rfl (by kernel_rfl) (by kernel_rfl) (fun K hK => ?_)
     go_simp
     refine hK.out _ _ ?_
     go_wp2
     go_roundw
     case rel => (repeat apply Exists.intro);exact ⟨⟨k + 1,_,_,fp2,by omega,by go_num,HRn.out,⟨HS.out.ver,HS.out.tl,HS.out.ts,by simp only [List.length_set];exact HS.out.gl,fits_set HS.out.gf k (by omega),HS.out.sl,HS.out.sf,HS.out.ml,HS.out.mf,HS.out.bys⟩,⟨HT3.out,HU.out⟩,by simp only [List.length_set];exact HGl.out⟩,rfl⟩
     case measure => simp [intOf];omega
    ·obtain rfl : k = G := by omega
     have x2 := hR.c8.1.2.2.1
     have kn : ¬ ((k : Int) < (r.got.length : Int)) := by omega
     have hO := onceC 3 hR.cc (by omega)
     have HR : Hid (RD w X wr p a len cap bs o zeroRc A r fp) := hR
     clear hR hGl hlt hk hG16
     go_upto_region 11 with fail
     go_cut [44] from 39 to 44 (fun s44 wx => ∃ b : Bool,s44 = .bool b ∧ (b = true → 0 < N) ∧ RD w X wx p a len cap bs o zeroRc A r fp)
     case first =>
      go_wp2_with fail
      refine hO.mono ?_
      rintro e Y4 ⟨t,rfl,c5,g5⟩
      have HR4 : Hid (RD w X Y4 p a len cap bs o zeroRc A r fp) := HR.out.drawn g5 c5
      clear hO c5 g5 HR x2 kn
      cases t with
      | false =>
       go_wp2
       go_meet
       case rel => exact ⟨false,rfl,fun h => (by cases h),HR4.out⟩
      | true =>
       by_cases hNp : 0 < N
       ·have hNi : (0 : Int) < (N : Int) := by omega
        go_wp2
        go_meet
        case rel => exact ⟨true,rfl,fun _ => hNp,HR4.out⟩
       ·have hNi : ¬ ((0 : Int) < (N : Int)) := by omega
        go_wp2
        go_meet
        case rel => exact ⟨false,rfl,fun h => (by cases h),HR4.out⟩
     case rest =>
      obtain ⟨bb,rfl,hbN,hR4⟩ := hcut
      have HR4 : Hid (RD w X wc p a len cap bs o zeroRc A r fp) := hR4
      have HBN : Hid (bb = true → 0 < N) := hbN
      clear hR4 hbN HR hO x2 kn
      generalize wc = Y4 at *
      go_upto_if 44 with fail
      go_cut [44] from 45 to 64 (fun _ wx => ∃ (A : Ra) (r : Rw) (fp : Fp),RD w X wx p a len cap bs o zeroRc A r fp ∧ SmR r ∧ r.txt.length ≤ 3)
      case first =>
       cases bb with
       | false =>
        go_wp2
        go_meet
        case rel => exact ⟨A,r,fp,HR4.out,HS.out,HT3.out⟩
       | true =>
        have hNp : 0 < N := HBN.out rfl
        have hNi : (0 : Int) < (N : Int) := by omega
        have y0 := HR4.out.c8.2.1
        have y1 := HR4.out.fo 4
        have R5 := HR4.out.wed true
        have R6 := R5.drewN 1
        have hB := belowC N (N : Int) rfl R6.cc (by omega) (by omega)
        have z1 := R5.c8.1.2.2.2
        have HR6 : Hid (RD w X ((Y4.setCell ⟨o,4,none⟩ (.bool true)).drewN 1) p a len cap bs o zeroRc A { r with wed := true } fp) := R6
        clear R5 R6
        go_wp2_with fail
        refine gt_begin (S := fun X : World => X.cell? ⟨o,3,none⟩ = some (.slice A.sa r.sus.length A.sc)) 7 hmix (by kernel_rfl) ?_
        have hHeld : (fun X : World => X.cell? ⟨o,3,none⟩ = some (.slice A.sa r.sus.length A.sc)) ((Y4.setCell ⟨o,4,none⟩ (.bool true)).drew) := z1
        refine gt_take (i := 0) (v := ?_) rfl (by kernel_rfl) (by kernel_rfl) (by kernel_rfl) (by kernel_rfl) (fun _ _ _ h => h) (Or.inl ⟨by rfl, ?_⟩) hHeld ?_
        rotate_left
        ·(intro X hSX;(try dsimp only at hSX);have g0 := hSX;go_simp;try with_reducible rfl)
        try simp only [Act.put,List.setIfInBounds_toArray,List.set_cons_zero,List.set_cons_succ]
        refine gt_take (i := 1) (v := ?_) rfl (by kernel_rfl) (by kernel_rfl) (by kernel_rfl) (by kernel_rfl) (fun _ _ _ h => h) (Or.inl ⟨by rfl, ?_⟩) hHeld ?_
        rotate_left
        ·(intro X hSX;(try dsimp only at hSX);have g0 := hSX;go_simp;try with_reducible rfl)
        try simp only [Act.put,List.setIfInBounds_toArray,List.set_cons_zero,List.set_cons_succ]
        refine gt_pure (i := 2) (v := ?_) rfl (by kernel_rfl) (by kernel_rfl) (by kernel_rfl) (fun _ _ _ h => h) (Or.inl ⟨by rfl, ?_⟩) ?_
        rotate_left
        ·(intro X;go_simp;try with_reducible rfl)
        try simp only [Act.put,List.setIfInBounds_toArray,List.set_cons_zero,List.set_cons_succ]
        refine gt_pure (i := 3) (v := ?_) rfl (by kernel_rfl) (by kernel_rfl) (by kernel_rfl) (fun _ _ _ h => h) (Or.inl ⟨by rfl, ?_⟩) ?_
        rotate_left
        ·(intro X;go_simp;try with_reducible rfl)
        try simp only [Act.put,List.setIfInBounds_toArray,List.set_cons_zero,List.set_cons_succ]
        refine gt_one (i := 4) rfl (by kernel_rfl) (by kernel_rfl) (fun K hK => ?_)
        go_simp
        go_at_call 55
        refine hB.mono ?_
        rintro e Y5 ⟨u,rfl,hu,c6,g6⟩
        have R7 := HR6.out.drawn g6 c6
        have hPut := R7.putS HS.out.sf (by have := HS.out.sl;simp only;omega) (u : Int)
        simp only at hPut
        refine hK.out _ _ R7.c8.1.2.2.2 (fun hHeld2 => ?_)
        clear hK hHeld
        have hHeld := hHeld2
        try simp only [Act.put,List.setIfInBounds_toArray,List.set_cons_zero,List.set_cons_succ]
        refine gt_one (i := 5) rfl (by kernel_rfl) (by kernel_rfl) (fun K hK => ?_)
        go_simp
        go_at_call 151
        refine hPut.mono ?_
        rintro e Y6 ⟨a6,c6b,rfl,hb6,fp6,R8⟩
        have R7b := R7.step hb6
        refine hK.out _ _ R7b.c8.1.2.2.2 (fun hHeld3 => ?_)
        clear hK hHeld
        have hHeld := hHeld3
        try simp only [Act.put,List.setIfInBounds_toArray,List.set_cons_zero,List.set_cons_succ]
        have q1 := R7b.c8.1.2.2.2
        have q2 := R7b.fo 3
        refine gt_take (i := 6) (v := ?_) rfl (by kernel_rfl) (by kernel_rfl) (by kernel_rfl) (by kernel_rfl) (fun _ _ _ h => h) (Or.inl ⟨by rfl, ?_⟩) hHeld ?_
        rotate_left
        ·(intro X hSX;(try dsimp only at hSX);have g0 := hSX;go_simp;try with_reducible rfl)
        try simp only [Act.put,List.setIfInBounds_toArray,List.set_cons_zero,List.set_cons_succ]
        have HR8 : Hid (RD w X (Y6.setCell ⟨o,3,none⟩ (.slice a6 (putL r.sus (u : Int)).length c6b)) p a len cap bs o zeroRc { A with sa := a6,sc := c6b } { r with wed := true,sus := putL r.sus (u : Int) } fp6) := R8
        have HS8 : Hid (SmR { r with wed := true,sus := putL r.sus (u : Int) }) := ⟨HS.out.ver,HS.out.tl,HS.out.ts,HS.out.gl,HS.out.gf,by have := put_len r.sus (u : Int);have := HU.out;simp only;omega,put_fits HS.out.sf (by omega),HS.out.ml,HS.out.mf,HS.out.bys⟩
        clear R7 R7b hB hPut R8 c6 g6 hb6 HR6
        refine gt_last rfl (by kernel_rfl) (by kernel_rfl) (fun K hK => ?_)
        go_simp
        refine hK.out _ _ ?_
        have hO := onceC 2 HR8.out.cc (by omega)
        clear hK hHeld z1 y0 y1 q1 q2
        generalize (Y6.setCell ⟨o,3,none⟩ (.slice a6 (putL r.sus (u : Int)).length c6b)) = Y7 at *
        obtain ⟨A7,r7,hR7,hS7,HT8⟩ : ∃ (A7 : Ra) (r7 : Rw),RD w X Y7 p a len cap bs o zeroRc A7 r7 fp6 ∧ SmR r7 ∧ Hid (r7.txt.length ≤ 3) := ⟨_,_,HR8.out,HS8.out,HT3.out⟩
        clear HR8 HS8
        have HR8 : Hid (RD w X Y7 p a len cap bs o zeroRc A7 r7 fp6) := hR7
        have HS8 : Hid (SmR r7) := hS7
        clear hR7 hS7
        go_wp2_with fail
        refine hO.mono ?_
        rintro e Y8 ⟨t2,rfl,c7,g7⟩
        have HR9 : Hid (RD w X Y8 p a len cap bs o zeroRc A7 r7 fp6) := HR8.out.drawn g7 c7
        clear hO c7 g7 HR8
        cases t2 with
        | false =>
         go_wp2
         go_meet
         case rel => exact ⟨_,_,_,HR9.out,HS8.out,HT8.out⟩
        | true =>
         have y0 := HR9.out.c8.2.2.1
         have y1 := HR9.out.fo 5
         have R10 := HR9.out.rdy true
         have hB := belowC N (N : Int) rfl R10.cc (by omega) (by omega)
         have HR10 : Hid (RD w X (Y8.setCell ⟨o,5,none⟩ (.bool true)) p a len cap bs o zeroRc A7 { r7 with rdy := true } fp6) := R10
         clear R10 HR9
         go_wp2_with fail
         refine hB.mono ?_
         rintro e Y9 ⟨u2,rfl,hu2,c8,g8⟩
         obtain ⟨i2,hi2,hw0,hw1,hw2⟩ := info_parts2n Tryz.info2n
         have R11 := HR10.out.drawn g8 c8
         have z0 := R11.c8.2.2.2.1
         have z1 := R11.fo 6
         have R12 := R11.by_ (u2 : Int)
         clear hB HR10 R11 c8 g8 y0 y1
         go_upto_region 17 with fail
         clear z0 z1
         generalize Y9.setCell ⟨o,6,none⟩ (.int .i64 (u2 : Int)) = Y10 at *
         have hA := R12.copyT HS8.out.gf (by have := HS8.out.gl;simp only;omega) i2 hi2 hw0 hw1 hw2
         have z2 := R12.c8.1.2.2.1
         have R13 := R12.step (oneA16 _ (.cells #[] 2))
         have z3 := R13.c8.1.2.2.1
         clear R12 R13
         simp only at hA z2 z3
         go_wp2_with (at_builtin;refine wpList_append_of (by rfl) _ _ _ _ (by rfl) _ _ (by rfl) (by rfl) hA ⟨rfl,rfl,rfl,rfl⟩ ?_;rintro v14 w14 ⟨a14,c14,rfl,q1,q2,fp14,hR14⟩;have HR14 : Hid (∃ (A : Ra) (r : Rw) (fp : Fp),RD w X (w14.setCell ⟨o,7,none⟩ (.slice a14 r7.got.length c14)) p a len cap bs o zeroRc A r fp ∧ SmR r ∧ r.txt.length ≤ 3) := ⟨_,_,_,hR14,⟨HS8.out.ver,HS8.out.tl,HS8.out.ts,HS8.out.gl,HS8.out.gf,HS8.out.sl,HS8.out.sf,HS8.out.gl,HS8.out.gf,by simp only;omega⟩,HT8.out⟩;clear hR14 hA z2 z3)
         go_meet
         case rel => exact HR14.out
      case rest =>
       clear HS HT3 HU HGl HR4 HBN
       obtain ⟨A,r,fp,hR,hS,hT⟩ := hcut
       have HS : Hid (SmR r) := hS
       have HT : Hid (r.txt.length ≤ 3) := hT
       have hO := onceC 12 hR.cc (by omega)
       have HR : Hid (RD w X wc p a len cap bs o zeroRc A r fp) := hR
       clear hR hS hT
       go_wp2_with fail
       refine hO.mono ?_
       rintro e Z1 ⟨t,rfl,c5,g5⟩
       have HR1 : Hid (RD w X Z1 p a len cap bs o zeroRc A r fp) := HR.out.drawn g5 c5
       clear hO c5 g5 HR
       go_upto_if 66 with fail
       go_cut [66] from 67 to 112 (fun _ wx => ∃ (A : Ra) (r : Rw) (fp : Fp),RD w X wx p a len cap bs o zeroRc A r fp ∧ SmR r)
       case first =>
        cases t with
        | false =>
         go_wp2
         go_meet
         case rel => exact ⟨A,r,fp,HR1.out,HS.out⟩
        | true =>
         have hB := belowC 6 6 rfl HR1.out.cc (by omega) (by omega)
         go_wp2_with fail
         refine hB.mono ?_
         rintro e Z2 ⟨y,rfl,hy,c6,g6⟩
         have R2 := HR1.out.drawn g6 c6
         clear hB c6 g6 HR1
         obtain rfl | rfl | rfl | rfl | rfl | rfl : y = 0 ∨ y = 1 ∨ y = 2 ∨ y = 3 ∨ y = 4 ∨ y = 5 := by omega
         ·have R3 := R2.step (oneA16 Z2 (.cells #[.int .i64 (-1),.int .i64 1000000,.int .i64 1000001] 2))
          have hB3 := belowC 3 3 rfl R3.cc (by omega) (by omega)
          have hq := Bx.new Z2 2 #[.int .i64 (-1),.int .i64 1000000,.int .i64 1000001]
          have hpZ : p < Z2.heap.size := R2.cc.lt
          have HR3 : Hid (RD w X (Z2.alloc (.cells #[.int .i64 (-1),.int .i64 1000000,.int .i64 1000001] 2)) p a len cap bs o zeroRc A r fp) := R3
          clear R2 R3
          go_wp2_with fail
          refine hB3.mono ?_
          rintro e Z3 ⟨z,rfl,hz,c7,g7⟩
          have R4 := HR3.out.drawn g7 c7
          have hq7 := hq.grown g7 (by simp;omega)
          have d0 := R4.c8.1.1
          have d2 := R4.fo 0
          have HR4 : Hid (RD w X Z3 p a len cap bs o zeroRc A r fp) := R4
          clear hB3 c7 g7 HR3 hq R4
          obtain rfl | rfl | rfl : z = 0 ∨ z = 1 ∨ z = 2 := by omega
          ·have hqc : Z3.cell? ⟨Z2.heap.size,0,none⟩ = some (.int .i64 (-1)) := hq7.at 0 rfl
           clear hq7
           go_wp2
           go_meet
           case rel => exact ⟨A,_,fp,HR4.out.ver (-1),⟨by simp only;omega,HS.out.tl,HS.out.ts,HS.out.gl,HS.out.gf,HS.out.sl,HS.out.sf,HS.out.ml,HS.out.mf,HS.out.bys⟩⟩
          ·have hqc : Z3.cell? ⟨Z2.heap.size,1,none⟩ = some (.int .i64 1000000) := hq7.at 1 rfl
           clear hq7
           go_wp2
           go_meet
           case rel => exact ⟨A,_,fp,HR4.out.ver 1000000,⟨by simp only;omega,HS.out.tl,HS.out.ts,HS.out.gl,HS.out.gf,HS.out.sl,HS.out.sf,HS.out.ml,HS.out.mf,HS.out.bys⟩⟩
          ·have hqc : Z3.cell? ⟨Z2.heap.size,2,none⟩ = some (.int .i64 1000001) := hq7.at 2 rfl
           clear hq7
           go_wp2
           go_meet
           case rel => exact ⟨A,_,fp,HR4.out.ver 1000001,⟨by simp only;omega,HS.out.tl,HS.out.ts,HS.out.gl,HS.out.gf,HS.out.sl,HS.out.sf,HS.out.ml,HS.out.mf,HS.out.bys⟩⟩
         ·have R3 := R2.drewN 1
          have hB5 := belowC 2 2 rfl R3.cc (by omega) (by omega)
          have x1 := R2.c8.1.2.1
          have hlen : r.txt.length ≤ 1000 := by have := HT.out;omega
          have HR3 : Hid (RD w X (Z2.drewN 1) p a len cap bs o zeroRc A r fp) := R3
          clear R2 R3
          go_wp2_with fail
          refine gt_begin (S := fun X : World => X.cell? ⟨o,1,none⟩ = some (.slice A.ta r.txt.length A.tc)) 10 hmix (by kernel_rfl) ?_
          have hHeld : (fun X : World => X.cell? ⟨o,1,none⟩ = some (.slice A.ta r.txt.length A.tc)) Z2.drew := x1
          refine gt_take (i := 0) (v := ?_) rfl (by kernel_rfl) (by kernel_rfl) (by kernel_rfl) (by kernel_rfl) (fun _ _ _ h => h) (Or.inl ⟨by rfl, ?_⟩) hHeld ?_
          rotate_left
          ·(intro X hSX;(try dsimp only at hSX);have g0 := hSX;go_simp;try with_reducible rfl)
          try simp only [Act.put,List.setIfInBounds_toArray,List.set_cons_zero,List.set_cons_succ]
          refine gt_take (i := 1) (v := ?_) rfl (by kernel_rfl) (by kernel_rfl) (by kernel_rfl) (by kernel_rfl) (fun _ _ _ h => h) (Or.inl ⟨by rfl, ?_⟩) hHeld ?_
          rotate_left
          ·(intro X hSX;(try dsimp only at hSX);have g0 := hSX;go_simp;try with_reducible rfl)
          try simp only [Act.put,List.setIfInBounds_toArray,List.set_cons_zero,List.set_cons_succ]
          refine gt_pure (i := 2) (v := ?_) rfl (by kernel_rfl) (by kernel_rfl) (by kernel_rfl) (fun _ _ _ h => h) (Or.inl ⟨by rfl, ?_⟩) ?_
          rotate_left
          ·(intro X;go_simp;try with_reducible rfl)
          try simp only [Act.put,List.setIfInBounds_toArray,List.set_cons_zero,List.set_cons_succ]
          refine gt_one (i := 3) rfl (by kernel_rfl) (by kernel_rfl) (fun K hK => ?_)
          go_simp
          go_at_call 55
          refine hB5.mono ?_
          rintro e Y6 ⟨z,rfl,hz,c7,g7⟩
          have L7 := HR3.out.drawn g7 c7
          refine hK.out _ _ L7.c8.1.2.1 (fun hHeld2 => ?_)
          clear hK hHeld
          have hHeld := hHeld2
          try simp only [Act.put,List.setIfInBounds_toArray,List.set_cons_zero,List.set_cons_succ]
          obtain ⟨MM,hM⟩ : ∃ MM : Nat,20 + z = MM := ⟨_,rfl⟩
          have hMi : IntKind.i64.wrap ((20 : Int) + (z : Int)) = (MM : Int) := by rw [IntKind.wrap_i64];omega
          have hmk := make_byR MM (by omega)
          have hst := conv_byR Y6 MM (by omega)
          have hml : (List.replicate MM (0 : UInt8)).length ≤ 21 := by rw [List.length_replicate];omega
          generalize List.replicate MM (0 : UInt8) = s at *
          refine gt_pure (i := 4) (v := ?_) rfl (by kernel_rfl) (by kernel_rfl) (by kernel_rfl) (fun _ _ _ h => h) (Or.inl ⟨by rfl, ?_⟩) ?_
          rotate_left
          ·(intro X;go_simp;try with_reducible rfl)
          try simp only [Act.put,List.setIfInBounds_toArray,List.set_cons_zero,List.set_cons_succ]
          refine gt_one (i := 5) rfl (by kernel_rfl) (by kernel_rfl) (fun K hK => ?_)
          go_simp
          have L8 := L7.step (oneA16 Y6 (.cells (madeCells #[.int .u8 0] MM) 5))
          refine hK.out _ _ L8.c8.1.2.1 (fun hHeld3 => ?_)
          clear hK hHeld
          have hHeld := hHeld3
          try simp only [Act.put,List.setIfInBounds_toArray,List.set_cons_zero,List.set_cons_succ]
          refine gt_one (i := 6) rfl (by kernel_rfl) (by kernel_rfl) (fun K hK => ?_)
          go_simp
          refine hK.out _ _ L8.c8.1.2.1 (fun hHeld4 => ?_)
          clear hK hHeld
          have hHeld := hHeld4
          try simp only [Act.put,List.setIfInBounds_toArray,List.set_cons_zero,List.set_cons_succ]
          refine gt_one (i := 7) rfl (by kernel_rfl) (by kernel_rfl) (fun K hK => ?_)
          go_simp
          refine hK.out _ _ (L8.step (oneA16 _ (.cells #[.string (sv s)] 9))).c8.1.2.1 (fun hHeld5 => ?_)
          clear hK hHeld
          have hHeld := hHeld5
          try simp only [Act.put,List.setIfInBounds_toArray,List.set_cons_zero,List.set_cons_succ]
          have hA := L8.app i0 hi0 hz0 hz1 hz2 s hlen
          rw [World.size_alloc] at hA
          refine gt_one (i := 8) rfl (by kernel_rfl) (by kernel_rfl) (fun K hK => ?_)
          refine step_append_of (by rfl) _ _ _ _ (by rfl) (.slice A.ta r.txt.length A.tc) _ (by rfl) (by rfl) hA ⟨rfl,rfl,rfl,rfl⟩ ?_
          rintro v' w4 ⟨a',c',rfl,q1,q2,fp',hRn⟩
          refine hK.out _ _ q1 (fun hHeld6 => ?_)
          clear hK hHeld
          have hHeld := hHeld6
          try simp only [Act.put,List.setIfInBounds_toArray,List.set_cons_zero,List.set_cons_succ]
          refine gt_take (i := 9) (v := ?_) rfl (by kernel_rfl) (by kernel_rfl) (by kernel_rfl) (by kernel_rfl) (fun _ _ _ h => h) (Or.inl ⟨by rfl, ?_⟩) hHeld ?_
          rotate_left
          ·(intro X hSX;(try dsimp only at hSX);have g0 := hSX;go_simp;try with_reducible rfl)
          try simp only [Act.put,List.setIfInBounds_toArray,List.set_cons_zero,List.set_cons_succ]
          have HRn : Hid (∃ (A : Ra) (r : Rw) (fp : Fp),RD w X _ p a len cap bs o zeroRc A r fp ∧ SmR r) := ⟨_,_,fp',hRn,⟨HS.out.ver,by have := HT.out;simp;omega,snoc_short HS.out.ts hml,HS.out.gl,HS.out.gf,HS.out.sl,HS.out.sf,HS.out.ml,HS.out.mf,HS.out.bys⟩⟩
          clear L7 L8 hRn hA c7 g7 hB5
          refine gt_last rfl (by kernel_rfl) (by kernel_rfl) (fun K hK => ?_)
          go_simp
          refine hK.out _ _ ?_
          go_wp2
          go_meet
          case rel => exact HRn.out
         ·have hV := vecCO N (N : Int) rfl (by omega) R2.cc
          have HR2 : Hid (RD w X Z2 p a len cap bs o zeroRc A r fp) := R2
          clear R2
          go_wp2_with fail
          refine hV.mono ?_
          rintro e Z3 ⟨a',c',zs,f',rfl,ho',hf',hfz,hz16,c7,g7⟩
          have R3 := HR2.out.drawn g7 c7
          have hs7 := g7.size
          have hol := HR2.out.own.lt
          have hXo := HR2.out.ho
          have d1 := R3.c8.1.2.2.1
          have d2 := R3.fo 2
          obtain ⟨fp',R4⟩ := R3.got ho' (fun b hb => by have := hf' b hb;omega) (fun b hb hfp => by have := hf' b hb;have := owL_lt HR2.out.ls b hfp;omega)
          have HR4 : Hid (∃ (A : Ra) (r : Rw) (fp : Fp),RD w X (Z3.setCell ⟨o,2,none⟩ (.slice a' zs.length c')) p a len cap bs o zeroRc A r fp ∧ SmR r) := ⟨_,_,fp',R4,⟨HS.out.ver,HS.out.tl,HS.out.ts,hz16,hfz,HS.out.sl,HS.out.sf,HS.out.ml,HS.out.mf,HS.out.bys⟩⟩
          clear R3 R4 hV ho' hf' hfz c7 g7 HR2
          go_wp2
          go_meet
          case rel => exact HR4.out
         ·have d1 := R2.c8.2.2.1
          have d2 := R2.fo 5
          have HR2 : Hid (RD w X Z2 p a len cap bs o zeroRc A r fp) := R2
          clear R2
          go_wp2
          go_meet
          case rel => exact ⟨A,_,fp,HR2.out.rdy (!r.rdy),⟨HS.out.ver,HS.out.tl,HS.out.ts,HS.out.gl,HS.out.gf,HS.out.sl,HS.out.sf,HS.out.ml,HS.out.mf,HS.out.bys⟩⟩
         ·have hF := fromC (-1) 7 (by omega) (by omega) (by omega) R2.cc
          have HR2 : Hid (RD w X Z2 p a len cap bs o zeroRc A r fp) := R2
          clear R2
          go_wp2_with fail
          refine hF.mono ?_
          rintro e Z3 ⟨x,rfl,hx0,hx1,c7,g7⟩
          have R3 := HR2.out.drawn g7 c7
          have d1 := R3.c8.2.2.2.1
          have d2 := R3.fo 6
          have HR3 : Hid (RD w X Z3 p a len cap bs o zeroRc A r fp) := R3
          clear R3 hF c7 g7 HR2
          go_wp2
          go_meet
          case rel => exact ⟨A,_,fp,HR3.out.by_ x,⟨HS.out.ver,HS.out.tl,HS.out.ts,HS.out.gl,HS.out.gf,HS.out.sl,HS.out.sf,HS.out.ml,HS.out.mf,⟨hx0,hx1⟩⟩⟩
         ·have hB5 := belowC 2 2 rfl R2.cc (by omega) (by omega)
          have HR2 : Hid (RD w X Z2 p a len cap bs o zeroRc A r fp) := R2
          clear R2
          go_wp2_with fail
          refine hB5.mono ?_
          rintro e Z3 ⟨z,rfl,hz,c7,g7⟩
          have R3 := HR2.out.drawn g7 c7
          have hoY : o < Z3.heap.size := R3.own.lt
          have hXo := R3.ho
          obtain ⟨MM,hM⟩ : ∃ MM : Nat,12 + z = MM := ⟨_,rfl⟩
          obtain ⟨T',hT'l,hOS,hsm⟩ : ∃ T' : List (List UInt8),T'.length = MM ∧ OS (Z3.alloc (.cells (madeCells #[.string ⟨#[]⟩] MM) 9)) Z3.heap.size 0 MM MM T' ∧ ∀ i,i < T'.length → (T'.getD i []).length ≤ 21 := ⟨List.replicate MM [],by simp,made_os Z3 MM (by unfold maxLen;omega),fun i hi => by simp [List.getD_eq_getElem?_getD,List.getElem?_replicate];split <;> simp⟩
          subst hT'l
          have hmk := run_make_row' (P := Tryz.prog) 32 9 (.string ⟨#[]⟩) 16 Tryz.underlying32 Tryz.info9 rfl .i64 .i64 T'.length (by omega) (by omega)
          have hMi : (12 : Int) + (z : Int) = (T'.length : Int) := by omega
          have hwm : wrap64 (T'.length : Int) = (T'.length : Int) := by unfold wrap64;omega
          have HM1 : Hid ((12 : Int) + (z : Int) = (T'.length : Int)) := hMi
          have HM2 : Hid (wrap64 (T'.length : Int) = (T'.length : Int)) := hwm
          clear hMi hwm
          have R4 := R3.step (oneA16 Z3 (.cells (madeCells #[.string ⟨#[]⟩] T'.length) 9))
          have d1 := R4.c8.1.2.1
          have d2 := R4.fo 1
          obtain ⟨fp',R5⟩ := R4.txt (a' := some ⟨Z3.heap.size,0,none⟩) (c' := T'.length) (Z := T') (f' := fun b => b = Z3.heap.size) (ow_scl.2 ⟨_,_,some Z3.heap.size,rfl,OSo.of hOS,fun b => by simp [eq_comm]⟩) (fun b hb => by omega) (fun b hb hfp => by have := owL_lt R3.ls b hfp;omega)
          have HR5 : Hid (∃ (A : Ra) (r : Rw) (fp : Fp),RD w X ((Z3.alloc (.cells (madeCells #[.string ⟨#[]⟩] T'.length) 9)).setCell ⟨o,1,none⟩ (.slice (some ⟨Z3.heap.size,0,none⟩) T'.length T'.length)) p a len cap bs o zeroRc A r fp ∧ SmR r) := ⟨_,_,fp',R5,⟨HS.out.ver,by simp only;omega,hsm,HS.out.gl,HS.out.gf,HS.out.sl,HS.out.sf,HS.out.ml,HS.out.mf,HS.out.bys⟩⟩
          clear hB5 c7 g7 HR2 R3 R4 R5 hOS hsm hM hz
          generalize hVV : Z3.alloc (.cells (madeCells #[.string ⟨#[]⟩] T'.length) 9) = V at *
          have hMi := HM1.out
          have hwm := HM2.out
          go_wp2
          go_meet
          case rel => exact HR5.out
       case rest =>
        clear HS HT HR1
        obtain ⟨A,r,fp,hR,hS⟩ := hcut
        have HS : Hid (SmR r) := hS
        clear hS
        obtain ⟨⟨e0,e1,e2,e3⟩,e4,e5,e6,e7⟩ := hR.c8
        obtain ⟨⟨r0b,r1b,r2b,r3b⟩,r4b,r5b,r6b,r7b⟩ := hR.r8
        obtain ⟨⟨f0,f1,f2,f3⟩,f4,f5,f6,f7⟩ := hR.f8
        have HR : Hid (RD w X wc p a len cap bs o zeroRc A r fp) := hR
        clear hR
        go_wp2
        refine bodyPost_ret (v := .agg #[.int .i64 r.ver,.slice A.ta r.txt.length A.tc,.slice A.ga r.got.length A.gc,.slice A.sa r.sus.length A.sc,.bool r.wed,.bool r.rdy,.int .i64 r.by_,.slice A.ma r.trm.length A.mc]) (by simp [results,Tryz.results117,go_sem, *]) rfl ?_
        exact ⟨A,r,fp,rfl,HS.out,HR.out.ans⟩
end Go.Proofs.YtidnfdobljihoaaGreat
namespace Go.Proofs.YtidnfdobljihoaaGreat
set_option linter.unusedVariables false
set_option linter.unusedSimpArgs false
open Go.RowKit Go.Sort
theorem totS_le {T : List (List UInt8)} {m : Nat} (h : ∀ i,i < T.length → (T.getD i []).length ≤ m) : ∀ k,k ≤ T.length → totS T k ≤ k * m
 | 0,_ => by simp [totS]
 | k + 1,hk => by
  have := totS_le h k (by omega)
  have := h k (by omega)
  rw [totS,Nat.add_mul]
  omega
theorem SmR.sz {r : Rw} (h : SmR r) : szRw r ≤ 1048576 := by
 have h1 := totS_le h.ts r.txt.length (Nat.le_refl _)
 have := h.tl
 have := h.gl
 have := h.sl
 have := h.ml
 have h2 : r.txt.length * 21 ≤ 20 * 21 := Nat.mul_le_mul_right 21 h.tl
 unfold szRw
 omega
theorem SmR.fit {r : Rw} (h : SmR r) : FitR r := ⟨h.gf,h.sf,h.mf⟩
theorem owL_it {w : World} {cs : List Cel} {vs : List Value} {fp : Fp} (h : owL w cs vs fp) {lo : Nat} (hl : ∀ b,fp b → lo ≤ b) : It w cs vs lo w.heap.size := ⟨fp,h,fun b hb => ⟨hl b hb,owL_lt h b hb⟩⟩
end Go.Proofs.YtidnfdobljihoaaGreat
namespace Go.Proofs.YtidnfdobljihoaaGreat
set_option linter.unusedVariables false
set_option linter.unusedSimpArgs false
open Go.RowKit Go.Sort
theorem bx_set8 {w : World} {B : Nat} {T : TypeId} {y0 y1 y2 y3 y4 y5 y6 y7 x0 x1 x2 x3 x4 x5 x6 x7 : Value} (h : Bx w B T #[y0,y1,y2,y3,y4,y5,y6,y7]) : Bx ((((((((w.setCell ⟨B,0,none⟩ x0).setCell ⟨B,1,none⟩ x1).setCell ⟨B,2,none⟩ x2).setCell ⟨B,3,none⟩ x3).setCell ⟨B,4,none⟩ x4).setCell ⟨B,5,none⟩ x5).setCell ⟨B,6,none⟩ x6).setCell ⟨B,7,none⟩ x7) B T #[x0,x1,x2,x3,x4,x5,x6,x7] := by
 have := (((((((h.setC 0 x0).setC 1 x1).setC 2 x2).setC 3 x3).setC 4 x4).setC 5 x5).setC 6 x6).setC 7 x7
 simpa using this
end Go.Proofs.YtidnfdobljihoaaGreat
namespace Go.Proofs.YtidnfdobljihoaaGreat
set_option linter.unusedVariables false
set_option linter.unusedSimpArgs false
open Go.RowKit Go.Sort
def gotP (R : List Rw) (o : Rw) (n j : Nat) : List Int := (List.range n).map (fun k => if k < j then max (el o.got k) ((rowN R k).txt.length : Int) else el o.got k)
theorem gotP_len (R : List Rw) (o : Rw) (n j : Nat) : (gotP R o n j).length = n := by simp [gotP]
theorem el_gotP {R : List Rw} {o : Rw} {n j k : Nat} (hk : k < n) : el (gotP R o n j) k = if k < j then max (el o.got k) ((rowN R k).txt.length : Int) else el o.got k := by
 unfold gotP el
 simp [hk]
theorem gotP_zero {R : List Rw} {o : Rw} {n : Nat} (h : o.got.length = n) : gotP R o n 0 = o.got := by
 refine List.ext_getElem (by rw [gotP_len,h]) (fun k h1 h2 => ?_)
 simp [gotP,el,h2]
theorem gotP_all {R : List Rw} {o : Rw} {n : Nat} : gotP R o n n = gotUp R o n := by
 unfold gotP gotUp
 refine List.map_congr_left (fun k hk => ?_)
 rw [if_pos (List.mem_range.1 hk)]
theorem gotP_next {R : List Rw} {o : Rw} {n j : Nat} (hj : j < n) : (gotP R o n j).set j (max (el o.got j) ((rowN R j).txt.length : Int)) = gotP R o n (j + 1) := by
 refine List.ext_getElem (by simp [gotP_len]) (fun k h1 h2 => ?_)
 rw [gotP_len] at h2
 rw [List.getElem_set]
 by_cases e : j = k
 ·subst e
  simp [gotP]
 ·rw [if_neg e]
  simp only [gotP,List.getElem_map,List.getElem_range]
  by_cases hk : k < j
  ·rw [if_pos hk,if_pos (by omega)]
  ·rw [if_neg hk,if_neg (by omega)]
structure Stg (m : Mb) (i n : Nat) : Prop where
 e1 : mo1 m = learn m.rows i (rowN m.rows i) (leftN n (rowN m.rows i).sus)
 ok1 : OkM { m with rows := m.rows.set i (mo1 m) } i n
 uw : (mo1 m).wed = false → mo2 m = { mo1 m with got := gotUp m.rows (mo1 m) n } ∧ OkM { m with rows := m.rows.set i (mo2 m) } i n ∧ moS m = sing (m.rows.set i (mo2 m)) n (60 - m.sung.length) m.sung
 wd : (mo1 m).wed = true → mo2 m = mo1 m ∧ moS m = m.sung
 ok2 : OkM { m with rows := m.rows.set i (mo2 m),sung := moS m } i n
 ok3 : OkM { m with rows := m.rows.set i (mo3 m),sung := moS m } i n
 ok4 : OkM { m with rows := m.rows.set i (mo4 m),sung := moS m } i n
 wed3 : (mo3 m).wed = (mo2 m).wed
 eL : moL m = leftN n (mo2 m).sus
 mem : i ∈ moL m
 e3 : mo3 m = if (mo2 m).wed = true ∧ n < 2 * (moL m).length ∧ (moL m).head? = some i then lead (m.rows.set i (mo2 m)) i (mo2 m) (moL m) else mo2 m
 e4 : mo4 m = if (mo3 m).wed = true ∧ (moL m).head? ≠ some i then adopt (m.rows.set i (mo3 m)) i (mo3 m) ((moL m).headD 0) else mo3 m
 eE : moE m = ((mo4 m).rdy && (decide (n < 2 * (moL m).length) && ends (m.rows.set i (mo4 m)) i (mo4 m) (moL m)))
 e5 : mo5 m = if sameRw (rowN m.rows i) (mo4 m) = true then mo4 m else { mo4 m with ver := (mo4 m).ver + 1 }
 ver : (mo4 m).ver = (rowN m.rows i).ver
set_option maxHeartbeats 1600000 in
theorem step_stg {m : Mb} {i n : Nat} (M : OkM m i n) (hd : m.done = false) : Stg m i n := by
 have hi := M.i
 have hk := M.k
 have hown := M.own
 have hlt := M.lt
 have ok := M.ok i hlt
 have hov := ok.ver
 have hlen : i < m.rows.length := by rw [M.len];exact hlt
 have hs0 : ∀ q,q < m.sung.length → el m.sung q = (q : Int) := fun q hq => (M.sg q hq).2 hd
 have e1 : mo1 m = learn m.rows i (rowN m.rows i) (leftN n (rowN m.rows i).sus) := by rw [mo1,hi,hk,hown]
 have L1 : Lrn (rowN m.rows i) (mo1 m) := by rw [e1];exact learn_lrn _ _ _ _
 have hsus1 : ∀ x ∈ (mo1 m).sus,(0 ≤ x ∧ x < (n : Int)) ∧ x ≠ (i : Int) := fun x hx => by
  rw [e1] at hx
  rcases learn_sus _ _ _ _ hx with hx | ⟨k,k1,k2,k3,k4⟩
  ·exact ⟨ok.sus x hx,fun e => M.self (e ▸ hx)⟩
  ·exact ⟨(M.ok k (mem_leftN.1 k1).1).sus x k3,k4⟩
 have ok1 : OkR (mo1 m) n := ⟨ok.n5,by rw [L1.ver];exact ok.ver,by rw [L1.txt];exact ok.tl,by rw [L1.txt];exact ok.ts,by rw [L1.got];exact ok.got,by rw [L1.got];exact ok.gl,by rw [L1.got];exact ok.g12,fun x hx => (hsus1 x hx).1,ris_iff.2 (by rw [e1];exact learn_ris _ _ _ _ (ris_iff.1 ok.ris)),fun hr => by
  rw [L1.rdy] at hr
  obtain ⟨a1,a2⟩ := ok.rdy hr
  rw [L1.by_,L1.trm]
  exact ⟨L1.wed a1,a2⟩,fun hr => by rw [L1.rdy] at hr;rw [L1.by_,L1.trm];exact ok.not hr⟩
 have self1 : (i : Int) ∉ (mo1 m).sus := fun hx => (hsus1 _ hx).2 rfl
 have toM : ∀ (o : Rw),OkR o n → (i : Int) ∉ o.sus → el o.got i = (o.txt.length : Int) → OkM { m with rows := m.rows.set i o } i n := fun o h1 h2 h3 => by
  have := M.to (o' := o) (sung' := m.sung) (done' := m.done) h1 h2 h3 M.sl M.ris M.sg (fun h => (by rw [hd] at h;cases h))
  exact this
 have gown1 : el (mo1 m).got i = ((mo1 m).txt.length : Int) := by rw [L1.got,L1.txt];exact M.gown
 have okM1 := toM (mo1 m) ok1 self1 gown1
 cases hw1 : (mo1 m).wed with
 | false =>
  have hr1 := ok1.unr hw1
  have e2 : mo2 m = { mo1 m with got := gotUp m.rows (mo1 m) n } := by rw [mo2,if_neg (by rw [hw1];simp),hk]
  have hg2 : ∀ j,j < n → el (mo2 m).got j = max (el (rowN m.rows i).got j) ((rowN m.rows j).txt.length : Int) := fun j hj => by rw [e2];simp only;rw [el_gotUp hj,L1.got]
  have hgl2 : (mo2 m).got.length = n := by rw [e2];simp [gotUp]
  have hr2 : (mo2 m).rdy = false := by rw [e2];exact hr1
  have hw2 : (mo2 m).wed = false := by rw [e2];exact hw1
  have ht2 : (mo2 m).txt = (rowN m.rows i).txt := by rw [e2];exact L1.txt
  have hsm := (small_iff ok.n5 hgl2).2 (fun j hj => by rw [hg2 j hj];have := ok.g j hj;have := (M.ok j hj).tl;omega)
  have ok2 : OkR (mo2 m) n := ⟨ok.n5,by rw [e2];exact ok1.ver,by rw [e2];exact ok1.tl,by rw [e2];exact ok1.ts,hsm.1,hgl2,hsm.2,by rw [e2];exact ok1.sus,by rw [e2];exact ok1.ris,fun h => (by rw [hr2] at h;cases h),fun _ => by rw [e2];exact ok1.not hr1⟩
  have self2 : (i : Int) ∉ (mo2 m).sus := by rw [e2];exact self1
  have gown2 : el (mo2 m).got i = ((mo2 m).txt.length : Int) := by rw [hg2 i hlt,ht2,M.gown];omega
  have e3 : mo3 m = mo2 m := by rw [mo3,if_neg (by rw [hw2];simp)]
  have e4 : mo4 m = mo2 m := by rw [mo4,e3,if_neg (by rw [hw2];simp)]
  have eS : moS m = sing (m.rows.set i (mo2 m)) n (60 - m.sung.length) m.sung := by rw [moS,if_neg (by rw [hw1];simp),hi,hk]
  obtain ⟨s1,s2⟩ : (moS m).length ≤ 60 ∧ (∀ q,q < (moS m).length → el (moS m) q = (q : Int)) := by
   rw [eS]
   have := M.sl
   obtain ⟨q1,q2,q3,q4⟩ := sing_spec (m.rows.set i (mo2 m)) n (60 - m.sung.length) m.sung hs0
   exact ⟨by omega,q3⟩
  have okS : OkM { m with rows := m.rows.set i (mo2 m),sung := moS m } i n := by
   have := M.to (o' := mo2 m) (sung' := moS m) (done' := m.done) ok2 self2 gown2 s1 (upto_rises s2) (fun q hq => ⟨by rw [s2 q hq];omega,fun _ => s2 q hq⟩) (fun h => (by rw [hd] at h;cases h))
   exact this
  exact ⟨e1,okM1,fun _ => ⟨e2,toM _ ok2 self2 gown2,eS⟩,fun h => (by rw [hw1] at h;cases h),okS,by rw [e3];exact okS,by rw [e4];exact okS,by rw [e3],by rw [moL,hk],by rw [moL,hk];exact mem_leftN.2 ⟨hlt,self2⟩,by rw [mo3,hi,hk],by rw [mo4,hi],by rw [moE,hi,hk],by rw [mo5,hown],by rw [e4,e2];exact L1.ver⟩
 | true =>
  have e2 : mo2 m = mo1 m := by rw [mo2,if_pos hw1]
  have eL : moL m = leftN n (mo1 m).sus := by rw [moL,e2,hk]
  have eS : moS m = m.sung := by rw [moS,if_pos hw1]
  have hiL : i ∈ leftN n (mo1 m).sus := mem_leftN.2 ⟨hlt,self1⟩
  have hneL : leftN n (mo1 m).sus ≠ [] := fun e => by rw [e] at hiL;cases hiL
  have hrow : ∀ {o : Rw},OkR o n → ∀ j,j < n → OkR (rowN (m.rows.set i o) j) n := fun {o} ho j hj => by
   rw [rowN_set hlen]
   split
   ·exact ho
   ·exact M.ok j hj
  obtain ⟨ok3,k1,k2,k3,k4,k5⟩ : OkR (mo3 m) n ∧ (mo3 m).sus = (mo1 m).sus ∧ (mo3 m).wed = true ∧ (mo3 m).got = (mo1 m).got ∧ (mo3 m).txt = (mo1 m).txt ∧ (mo3 m).ver = (mo1 m).ver := by
   by_cases c : (mo2 m).wed = true ∧ m.k < 2 * (moL m).length ∧ (moL m).head? = some m.i
   ·have e3 : mo3 m = lead (m.rows.set i (mo1 m)) i (mo1 m) (leftN n (mo1 m).sus) := by rw [mo3,if_pos c,e2,eL,hi]
    obtain ⟨a1,a2,a3,a4,a5⟩ := lead_keep (m.rows.set i (mo1 m)) i (mo1 m) (leftN n (mo1 m).sus)
    obtain ⟨b1,b2⟩ := lead_loc (R := m.rows.set i (mo1 m)) ok1 hw1 hlt hneL (fun k hk => hrow ok1 k (mem_leftN.1 hk).1)
    rw [e3]
    exact ⟨b1,a1,by rw [a2];exact hw1,a3,a4,a5⟩
   ·have e3 : mo3 m = mo1 m := by rw [mo3,if_neg c,e2]
    rw [e3]
    exact ⟨ok1,rfl,hw1,rfl,rfl,rfl⟩
  obtain ⟨ok4,l1,l2,l3,l4,l5⟩ : OkR (mo4 m) n ∧ (mo4 m).sus = (mo1 m).sus ∧ (mo4 m).wed = true ∧ (mo4 m).got = (mo1 m).got ∧ (mo4 m).txt = (mo1 m).txt ∧ (mo4 m).ver = (mo1 m).ver := by
   by_cases c : (mo3 m).wed = true ∧ (moL m).head? ≠ some m.i
   ·have e4 : mo4 m = adopt (m.rows.set i (mo3 m)) i (mo3 m) ((leftN n (mo1 m).sus).headD 0) := by rw [mo4,if_pos c,eL,hi]
    have hf : (leftN n (mo1 m).sus).headD 0 < n := by
     cases eh : leftN n (mo1 m).sus with
     | nil => exact absurd eh hneL
     | cons f t => exact (mem_leftN.1 (show f ∈ leftN n (mo1 m).sus by rw [eh];exact List.mem_cons_self)).1
    obtain ⟨a1,a2,a3,a4,a5⟩ := adopt_keep (m.rows.set i (mo3 m)) i (mo3 m) ((leftN n (mo1 m).sus).headD 0)
    obtain ⟨b1,b2⟩ := adopt_loc (i := i) (R := m.rows.set i (mo3 m)) ok3 k2 hf (hrow ok3 _ hf)
    rw [e4]
    exact ⟨b1,a1.trans k1,a2.trans k2,a3.trans k3,a4.trans k4,a5.trans k5⟩
   ·have e4 : mo4 m = mo3 m := by rw [mo4,if_neg c]
    rw [e4]
    exact ⟨ok3,k1,k2,k3,k4,k5⟩
  exact ⟨e1,okM1,fun h => (by rw [hw1] at h;cases h),fun _ => ⟨e2,eS⟩,by rw [e2,eS];exact okM1,by rw [eS];exact toM _ ok3 (by rw [k1];exact self1) (by rw [k3,k4];exact gown1),by rw [eS];exact toM _ ok4 (by rw [l1];exact self1) (by rw [l3,l4];exact gown1),by rw [k2,e2,hw1],by rw [eL,e2],by rw [eL];exact hiL,by rw [mo3,hi,hk],by rw [mo4,hi],by rw [moE,hi,hk],by rw [mo5,hown],by rw [l5];exact L1.ver⟩
theorem head_getD {L : List Nat} {i : Nat} (h : i ∈ L) : 0 < L.length ∧ (L.head? = some i ↔ L.getD 0 0 = i) ∧ L.headD 0 = L.getD 0 0 ∧ L.getD 0 0 ∈ L := by
 cases L with
 | nil => cases h
 | cons x t => simp
end Go.Proofs.YtidnfdobljihoaaGreat