/-
  Texts in one: Gmk Gml Qtl Mbg Mbd Mbh Gmh Mbl Plo Mbi Mbj Mbz Mba Ear Mbr Mbb Mbe Rns Rwo Mca Sdk Dvo Rdk Drt Rdw Rdr Rds Mci Mcj Gmi Gmj Mcc Gmm Gmn Mcg Gna Mch Rps Rnr Rtn Rhv Rhm Fns Fnb Gnb Mcl Mcm Gnc Mcn.
-/
import Derived.Test.YthioodpmgifomaaJac
import Derived.Test.YthioodpmgifomaaJaa
import Derived.Test.YthioodpmgifomaaJab
import Derived.StillTail
import Derived.Deep.Quiet
import Derived.BigQuiet
import Derived.Deep.LoopGhost
import Derived.Deep.CutRange
import Derived.Deep.Cut
import Derived.Deep.RegionHeld3
namespace Go.Proofs.Ythioodpmgifomaa
set_option linter.unusedVariables false
set_option linter.unusedSimpArgs false
open Go.RowKit Go.Sort
theorem Try.infoMb : (Try.prog.info? 39).map (fun i => (i.zero,i.size,i.bytes)) = some (some (.agg #[.int .i64 0,.int .i64 0,.slice none 0 0,.slice none 0 0,.bool false]),5,72) := by kernel_rfl
theorem Try.infoBo : (Try.prog.info? 4).map (fun i => (i.zero,i.size,i.bytes)) = some (some (.bool false),1,1) := by kernel_rfl
def bo1 (b : Bool) : List Cel := [.v (.bool b)]
theorem bo1_len (b : Bool) : (bo1 b).length = 1 := rfl
theorem bo1_one (b : Bool) : ∀ c ∈ bo1 b,c.one := by
 intro c hc
 rw [List.mem_singleton.1 hc]
 rfl
theorem ocl_lcl (L : List Bool) : ocl L = lcl 1 bo1 L := by
 unfold ocl lcl
 congr 1
 induction L with
 | nil => rfl
 | cons b L ih =>
  rw [List.flatMap_cons,← ih]
  rfl
structure GO (w X : World) (o : Nat) (A : Ga) (g : Gr) (fp : Fp) : Prop where
 own : Bx X o 66 (grC A g)
 ls : owL X (gr3 g) (grVals A g) fp
 fpl : ∀ b,fp b → w.heap.size + 2 ≤ b ∧ b ≠ o
 lo : w.heap.size ≤ o
 sz : w.heap.size + 2 ≤ X.heap.size
 below : Below w.heap.size w X
theorem GO.step {w X X' : World} {o : Nat} {A : Ga} {g : Gr} {fp : Fp} (h : GO w X o A g fp) (hb : Below X.heap.size X X') : GO w X' o A g fp := ⟨h.own.below hb,owL_below h.ls hb,h.fpl,h.lo,Nat.le_trans h.sz hb.size,h.below.trans (hb.mono h.below.size)⟩
theorem GO.put {w X : World} {o : Nat} {A : Ga} {g : Gr} {fp : Fp} (h : GO w X o A g fp) {j : Nat} {c : Cel} (hj : (gr3 g)[j]? = some c) : ∃ u f,(grVals A g)[j]? = some u ∧ Cel.ow X c u f ∧ (∀ b,f b → (w.heap.size + 2 ≤ b ∧ b ≠ o) ∧ b < X.heap.size) ∧
  ∀ (X1 : World) (c' : Cel) (u' : Value) (f' : Fp) (A' : Ga) (g' : Gr),Wrt f X X1 → Cel.ow X1 c' u' f' → (∀ b,f' b → f b ∨ X.heap.size ≤ b) → (gr3 g).set j c' = gr3 g' → (grVals A g).set j u' = grVals A' g' → (grC A g).setIfInBounds j u' = grC A' g' →
   Bx X1 o 66 (grC A g) ∧ ((∀ b,b < w.heap.size + 2 → b ≠ o → X1.heap[b]? = X.heap[b]?) ∧ Below w.heap.size w X1) ∧ (∀ b,b < w.heap.size + 2 → b ≠ o → (X1.setCell ⟨o,j,none⟩ u').heap[b]? = X.heap[b]?) ∧ ∃ fp',GO w (X1.setCell ⟨o,j,none⟩ u') o A' g' fp' := by
 obtain ⟨u,f,hu,hc,hs,hp⟩ := owL_at h.ls hj
 have hlt := owL_lt h.ls
 have hol := h.own.lt
 have hsz := h.sz
 have hlo := h.lo
 have hfo : ∀ b,f b → (w.heap.size + 2 ≤ b ∧ b ≠ o) ∧ b < X.heap.size := fun b hb => ⟨h.fpl b (hs b hb),hlt b (hs b hb)⟩
 refine ⟨u,f,hu,hc,hfo,fun X1 c' u' f' A' g' hw hc' hf' e1 e2 e3 => ?_⟩
 have ho1 : Bx X1 o 66 (grC A g) := h.own.wrt hw (fun hb => (hfo o hb).1.2 rfl)
 have hw2 := Wrt.set X1 o j u'
 have hws := hw.size
 have hw2s := hw2.size
 have hf'o : ∀ b,f' b → w.heap.size + 2 ≤ b ∧ b ≠ o := fun b hb => by
  rcases hf' b hb with k | k
  ·exact (hfo b k).1
  ·omega
 have k1 := hp (X1.setCell ⟨o,j,none⟩ u') c' u' f' (Nat.le_trans hw.size hw2.size) (Cel.ow_wrt hc' hw2 (fun b hb e => (hf'o b hb).2 e)) (fun b hb hn => (hw2.block b (Nat.lt_of_lt_of_le (hlt b hb) hw.size) (h.fpl b hb).2).trans (hw.block b (hlt b hb) hn)) (fun b hb hb2 => by
  rcases hf' b hb with k | k
  ·exact k
  ·have := hlt b hb2;omega)
 rw [e1,e2] at k1
 have hb1 : Below w.heap.size w X1 := hw.below h.below h.below.size (fun b hb => by have := (hfo b hb).1.1;omega)
 refine ⟨ho1,⟨fun b hb hne => hw.block b (by omega) (fun k => by have := (hfo b k).1.1;omega),hb1⟩,fun b hb hne => (hw2.block b (by omega) hne).trans (hw.block b (by omega) (fun k => by have := (hfo b k).1.1;omega)),_, ?_,k1,fun b hb => ?_,h.lo,by omega, ?_⟩
 ·have := ho1.setC j u'
  rw [e3] at this
  exact this
 ·rcases hb with hb | hb
  ·exact hf'o b hb
  ·exact h.fpl b hb.1
 ·exact hw2.below hb1 (by omega) (fun b e => by rw [e];exact hlo)
theorem GO.pushM {w X X1 : World} {o : Nat} {A : Ga} {g : Gr} {fp : Fp} (h : GO w X o A g fp) (hb : Below X.heap.size X X1) {m : Mb} {Am : Ma} {fr : Fp} (hr : owL X1 (mbCels m) (mbVals Am m) fr) (hfr : ∀ b,fr b → X.heap.size ≤ b) (hl : g.mem.length ≤ 1000000) :
  ∀ Y,Same Y (X1.alloc (.cells (mbC Am m) 39)) → ∃ v' w4,(Builtin.append_ #[63,63] 63 #[.slice A.ma g.mem.length A.mc,.slice (some ⟨X1.heap.size,0,none⟩) 1 1]).run Try.prog Y = .ok v' w4 ∧
   ∃ a' c',v' = .slice a' (g.mem.length + 1) c' ∧ Bx w4 o 66 (grC A g) ∧ ((∀ b,b < w.heap.size + 2 → b ≠ o → w4.heap[b]? = X.heap[b]?) ∧ Below w.heap.size w w4) ∧ (∀ b,b < w.heap.size + 2 → b ≠ o → (w4.setCell ⟨o,0,none⟩ (.slice a' (g.mem.length + 1) c')).heap[b]? = X.heap[b]?) ∧ ∃ fp',GO w (w4.setCell ⟨o,0,none⟩ (.slice a' (g.mem.length + 1) c')) o ⟨a',c',A.ua,A.uc,A.la,A.lc⟩ { g with mem := g.mem ++ [m] } fp' := by
 intro Y hY
 have hbY : Below X1.heap.size X1 Y := (oneA16 X1 _).trans (hY.below.mono (oneA16 X1 _).size)
 have hXY : Below X.heap.size X Y := hb.trans (hbY.mono hb.size)
 have hXs := hb.size
 obtain ⟨u,f,hu,hc,hfo,hput⟩ := h.put (j := 0) (c := lcl 5 mb5 g.mem) rfl
 have hu' : u = .slice A.ma g.mem.length A.mc := (Option.some.inj hu).symm
 subst hu'
 have hrY := ow_mb5 (owL_below hr hbY)
 obtain ⟨a',c',w4,fp',k1,k2,k3,k4⟩ := ow_pushF (P := Try.prog) mb5_len (w := Y) 63 63 39 _ 72 Try.underlying63 Try.infoMb rfl (by omega) (x := m) (Cel.ow_below hc hXY) hrY (fun b h1 h2 => by have := (hfo b h1).2;have := hfr b h2;omega) (owL_ones hrY (mb5_one m)) X1.heap.size 39 (by rw [hY.heap];exact heap_alloc_new X1 _) (by unfold maxLen;omega) (by omega)
 have hw : Wrt f X w4 := (Wrt.of_below (f := f) hXY).trans k3 (fun _ _ h => h)
 obtain ⟨q1,q2,q3,q4⟩ := hput w4 (lcl 5 mb5 (g.mem ++ [m])) (.slice a' (g.mem.length + 1) c') fp' ⟨a',c',A.ua,A.uc,A.la,A.lc⟩ { g with mem := g.mem ++ [m] } hw k2 (fun b hb1 => by
  rcases k4 b hb1 with k | k | k
  ·exact .inl k
  ·exact .inr (hfr b k)
  ·right;have := hXY.size;omega) rfl (by simp [grVals]) (by simp [grC])
 exact ⟨_,w4,k1,a',c',rfl,q1,q2,q3,q4⟩
theorem GO.pushU {w X X1 : World} {o : Nat} {A : Ga} {g : Gr} {fp : Fp} (h : GO w X o A g fp) (hb : Below X.heap.size X X1) (b : Bool) (hl : g.up.length ≤ 1000000) :
  ∀ Y,Same Y (X1.alloc (.cells #[.bool b] 4)) → ∃ v' w4,(Builtin.append_ #[57,57] 57 #[.slice A.ua g.up.length A.uc,.slice (some ⟨X1.heap.size,0,none⟩) 1 1]).run Try.prog Y = .ok v' w4 ∧
   ∃ a' c',v' = .slice a' (g.up.length + 1) c' ∧ Bx w4 o 66 (grC A g) ∧ ((∀ b,b < w.heap.size + 2 → b ≠ o → w4.heap[b]? = X.heap[b]?) ∧ Below w.heap.size w w4) ∧ (∀ b,b < w.heap.size + 2 → b ≠ o → (w4.setCell ⟨o,1,none⟩ (.slice a' (g.up.length + 1) c')).heap[b]? = X.heap[b]?) ∧ ∃ fp',GO w (w4.setCell ⟨o,1,none⟩ (.slice a' (g.up.length + 1) c')) o ⟨A.ma,A.mc,a',c',A.la,A.lc⟩ { g with up := g.up ++ [b] } fp' := by
 intro Y hY
 have hbY : Below X1.heap.size X1 Y := (oneA16 X1 _).trans (hY.below.mono (oneA16 X1 _).size)
 have hXY : Below X.heap.size X Y := hb.trans (hbY.mono hb.size)
 have hXs := hb.size
 obtain ⟨u,f,hu,hc,hfo,hput⟩ := h.put (j := 1) (c := ocl g.up) rfl
 have hu' : u = .slice A.ua g.up.length A.uc := (Option.some.inj hu).symm
 subst hu'
 rw [ocl_lcl] at hc
 have hrY : owL Y (bo1 b) [.bool b] (fun _ => False) := owL_v ⟨rfl,fun _ h => h⟩
 obtain ⟨a',c',w4,fp',k1,k2,k3,k4⟩ := ow_pushF (P := Try.prog) bo1_len (w := Y) 57 57 4 _ 1 Try.underlying57 Try.infoBo rfl (by omega) (x := b) (Cel.ow_below hc hXY) hrY (fun b h1 h2 => h2) (owL_ones hrY (bo1_one b)) X1.heap.size 4 (by rw [hY.heap];exact heap_alloc_new X1 _) (by unfold maxLen;omega) (by omega)
 have hw : Wrt f X w4 := (Wrt.of_below (f := f) hXY).trans k3 (fun _ _ h => h)
 rw [← ocl_lcl] at k2
 obtain ⟨q1,q2,q3,q4⟩ := hput w4 (ocl (g.up ++ [b])) (.slice a' (g.up.length + 1) c') fp' ⟨A.ma,A.mc,a',c',A.la,A.lc⟩ { g with up := g.up ++ [b] } hw k2 (fun b hb1 => by
  rcases k4 b hb1 with k | k | k
  ·exact .inl k
  ·exact k.elim
  ·right;have := hXY.size;omega) rfl (by simp [grVals]) (by simp [grC])
 exact ⟨_,w4,k1,a',c',rfl,q1,q2,q3,q4⟩
def AnsGf (w w' : World) (e : Ending) (g : Gr) (b : Bool) : Prop := ∃ A : Ga,e = .returned (.tuple #[grV A g,.bool b]) ∧ NewL w w' (gr3 g) (grVals A g)
theorem ow_gr0 (w : World) : owL w (gr3 zeroGr) (grVals ⟨none,0,none,0,none,0⟩ zeroGr) (fun _ => False) :=
 owL_congr (owL_c (ow_lcl0 w 5 mb5) (owL_c (by rw [show ocl zeroGr.up = lcl 1 bo1 [] from ocl_lcl []];exact ow_lcl0 w 1 bo1) (owL_c (ow_lcl0 w 10 ml10) (⟨rfl,fun _ h => h⟩ : owL w [] [] (fun _ => False)) (fun _ _ h => h)) (fun _ h => absurd h id)) (fun _ h => absurd h id)) (fun b => by simp)
theorem ansG_zero {w w' : World} (hb : Below w.heap.size w w') : NewL w w' (gr3 zeroGr) (grVals ⟨none,0,none,0,none,0⟩ zeroGr) := ⟨_,ow_gr0 w',fun b h => absurd h id,hb⟩
theorem wrtG3 (w : World) (g : Nat) {a b c : Value} : Wrt (fun x => x = g) w (((w.setCell ⟨g,0,none⟩ a).setCell ⟨g,1,none⟩ b).setCell ⟨g,2,none⟩ c) :=
 ((Wrt.set w g 0 a).trans (Wrt.set _ g 1 b) (fun _ _ h => h)).trans (Wrt.set _ g 2 c) (fun _ _ h => h)
theorem Bx.f3 {w : World} {B : Nat} {T : TypeId} {cs : Array Value} (h : Bx w B T cs) : w.frozen? ⟨B,0,none⟩ = false ∧ w.frozen? ⟨B,1,none⟩ = false ∧ w.frozen? ⟨B,2,none⟩ = false := ⟨h.f 0,h.f 1,h.f 2⟩
theorem GO.ans {w X : World} {o r : Nat} {A : Ga} {g : Gr} {fp : Fp} (h : GO w X o A g fp) (hr : w.heap.size ≤ r) (hro : r < w.heap.size + 2) {a b c : Value} :
  NewL w (((X.setCell ⟨r,0,none⟩ a).setCell ⟨r,1,none⟩ b).setCell ⟨r,2,none⟩ c) (gr3 g) (grVals A g) :=
 ⟨fp,owL_wrt h.ls (wrtG3 X r) (fun b hb e => by have := (h.fpl b hb).1;omega),fun b hb => by have := (h.fpl b hb).1;omega,(wrtG3 X r).below h.below h.below.size (fun b e => by omega)⟩
theorem gr_start (w : World) : GO w ((w.alloc (.cells #[.slice none 0 0,.slice none 0 0,.slice none 0 0] 66)).alloc (.cells #[.slice none 0 0,.slice none 0 0,.slice none 0 0] 66)) (w.heap.size + 1) ⟨none,0,none,0,none,0⟩ zeroGr (fun _ => False) := by
 have x1 := Bx.new (w.alloc (.cells #[.slice none 0 0,.slice none 0 0,.slice none 0 0] 66)) 66 #[.slice none 0 0,.slice none 0 0,.slice none 0 0]
 rw [World.size_alloc] at x1
 exact ⟨x1,ow_gr0 _,fun b h => h.elim,by omega,by simp only [World.size_alloc];omega,(oneA16 w _).trans ((oneA16 _ _).mono (oneA16 w _).size)⟩
def newK (n : Int) (k : Nat) : Gr := ⟨(List.range k).map (fun (i : Nat) => (newMb (i : Int) n).1),List.replicate k true,[]⟩
theorem newK_more (n : Int) (k : Nat) : newK n (k + 1) = ⟨(newK n k).mem ++ [(newMb (k : Int) n).1],(newK n k).up ++ [true],[]⟩ := by
 unfold newK
 simp only [List.range_succ,List.map_append,List.map_cons,List.map_nil,List.replicate_succ']
set_option maxRecDepth 100000 in
set_option maxHeartbeats 3200000 in
theorem ngrS_any (n : Int) (w : World) :
  Calls Try.prog 44 #[.int .i64 n] w fun e w' => AnsGf w w' e (newGr n).1 (newGr n).2 := by
 have hb0 := oneA16 w (.cells #[.slice none 0 0,.slice none 0 0,.slice none 0 0] 66)
 have hx := Bx.new w 66 #[.slice none 0 0,.slice none 0 0,.slice none 0 0]
 have T0 := gr_start w
 cases e1 : inB n 1 5 with
 | false =>
  have HZ : Hid (newGr n = (zeroGr,false)) := by rw [Hid,newGr,e1];rfl
  generalize hW : w.alloc (.cells #[.slice none 0 0,.slice none 0 0,.slice none 0 0] 66) = W at *
  have HB0 : Hid (Below w.heap.size w W) := hb0
  obtain ⟨c0,c1,c2⟩ := Bx.g3 hx
  obtain ⟨f0,f1,f2⟩ := hx.f3
  clear hx hb0 T0
  go_enter Try.func44,Try.ntmps44
  go_wp2_with (go_at_call 65;refine (l1In_any _ _ _ _).mono ?_;rintro e w' ⟨rfl,hw'⟩;rw [hw'];clear hw')
  refine bodyPost_ret (v := .tuple #[grV ⟨none,0,none,0,none,0⟩ zeroGr,.bool false]) (by simp [results,Try.results44,go_sem,grV,grC,zeroGr, *]) rfl ?_
  rw [HZ.out]
  exact ⟨_,rfl,ansG_zero ((wrtG3 W w.heap.size).below HB0.out HB0.out.size (fun b h => by rw [h];exact Nat.le_refl _))⟩
 | true =>
 have hn5 := inB7.1 e1
 obtain ⟨N,rfl⟩ : ∃ N : Nat,n = (N : Int) := ⟨n.toNat,by omega⟩
 have HZ : Hid (newGr (N : Int) = (newK (N : Int) N,true)) := by rw [Hid,newGr,e1];rfl
 have HT0 : Hid (GO w ((w.alloc (.cells #[.slice none 0 0,.slice none 0 0,.slice none 0 0] 66)).alloc (.cells #[.slice none 0 0,.slice none 0 0,.slice none 0 0] 66)) (w.heap.size + 1) ⟨none,0,none,0,none,0⟩ zeroGr (fun _ => False)) := T0
 have HR0 : Hid (Bx ((w.alloc (.cells #[.slice none 0 0,.slice none 0 0,.slice none 0 0] 66)).alloc (.cells #[.slice none 0 0,.slice none 0 0,.slice none 0 0] 66)) w.heap.size 66 #[.slice none 0 0,.slice none 0 0,.slice none 0 0]) := hx.alloc _
 clear hx hb0 T0
 go_enter Try.func44,Try.ntmps44
 go_wp2_with (go_at_call 65;refine (l1In_any _ _ _ _).mono ?_;rintro e w' ⟨rfl,hw'⟩;rw [hw'];clear hw')
 clear e1
 go_loopw [5] (fun i wr => ∃ k : Nat,k ≤ N ∧ i = .int .i64 (k : Int) ∧ ∃ A g fp,Hid (g = newK (N : Int) k) ∧ GO w wr (w.heap.size + 1) A g fp ∧ Bx wr w.heap.size 66 #[.slice none 0 0,.slice none 0 0,.slice none 0 0]) (fun i _ => N - (intOf i).toNat)
 case atStart => exact ⟨0,Nat.zero_le _,rfl,_,zeroGr,_,rfl,HT0.out,HR0.out⟩
 case round =>
  obtain ⟨k,hk,rfl,A,g,fp,hg,M,hres⟩ := hrel
  by_cases hlt : k < N
  ·have k1 : (k : Int) < (N : Int) := by omega
   have hml : g.mem.length ≤ 1000000 := by rw [hg.out,newK];simp;omega
   have hul : g.up.length ≤ 1000000 := by rw [hg.out,newK];simp;omega
   have HRes : Hid (Bx wr w.heap.size 66 #[.slice none 0 0,.slice none 0 0,.slice none 0 0]) := hres
   have HM : Hid (GO w wr (w.heap.size + 1) A g fp) := M
   have HNx : Hid (newK (N : Int) (k + 1) = ⟨g.mem ++ [(newMb (k : Int) (N : Int)).1],g.up ++ [true],g.mail⟩) := by rw [Hid,newK_more,hg.out];rfl
   clear M hres hg
   have hN := nmbS_any (k : Int) (N : Int) wr
   generalize (newMb (k : Int) (N : Int)).1 = m at *
   generalize (newMb (k : Int) (N : Int)).2 = fl at *
   unfold AnsMf mbV mbC at hN
   go_upto_region 8 with (go_at_call 104;refine hN.mono ?_;rintro e w1 ⟨Am,rfl,fr,hr1,hr2,hr3⟩)
   have hbn := oneA16 w1 (.cells #[.int .i64 m.id,.int .i64 m.n,.slice Am.ra m.rows.length Am.rc,.slice Am.sa m.sung.length Am.sc,.bool m.done] 39)
   have hxn := Bx.new w1 39 #[.int .i64 m.id,.int .i64 m.n,.slice Am.ra m.rows.length Am.rc,.slice Am.sa m.sung.length Am.sc,.bool m.done]
   generalize hWn : w1.alloc (.cells #[.int .i64 m.id,.int .i64 m.n,.slice Am.ra m.rows.length Am.rc,.slice Am.sa m.sung.length Am.sc,.bool m.done] 39) = Wn at *
   have hbW : Below wr.heap.size wr Wn := hr3.trans (hbn.mono hr3.size)
   have hA := HM.out.pushM (m := m) (Am := Am) hbW (owL_below hr1 hbn) hr2 hml
   unfold mbC at hA
   obtain ⟨y0,y1,y2,y3,y4⟩ := Bx.r5 hxn
   have HMn := HM.out.step hbW
   have o0 := HMn.own.at 0 rfl
   have HRn : Hid (Bx Wn w.heap.size 66 #[.slice none 0 0,.slice none 0 0,.slice none 0 0]) := HRes.out.below hbW
   clear hr1 hr2 hr3 hN hbn hxn HMn
   go_upto_region 9 with (at_builtin;refine wpList_append_of (by rfl) _ _ _ _ (by rfl) _ _ (by rfl) (by rfl) hA ⟨rfl,rfl,rfl,rfl⟩ ?_;rintro v2 w2 ⟨a2,e2,rfl,q1,_,q3,fp2,hM2⟩;clear o0;have o0 := q1.at 0 rfl;have oz := q1.f 0)
   have HM2 : Hid (GO w (w2.setCell ⟨w.heap.size + 1,0,none⟩ (.slice a2 (g.mem.length + 1) e2)) (w.heap.size + 1) ⟨a2,e2,A.ua,A.uc,A.la,A.lc⟩ { g with mem := g.mem ++ [m] } fp2) := hM2
   have HR2 : Hid (Bx (w2.setCell ⟨w.heap.size + 1,0,none⟩ (.slice a2 (g.mem.length + 1) e2)) w.heap.size 66 #[.slice none 0 0,.slice none 0 0,.slice none 0 0]) := (q3 w.heap.size (by omega) (by omega)).trans HRes.out
   clear hM2 q1 q3 hA o0 oz y0 y1 y2 y3 y4
   generalize w2.setCell ⟨w.heap.size + 1,0,none⟩ (.slice a2 (g.mem.length + 1) e2) = W2 at *
   have hA3 := HM2.out.pushU (Below.refl _ _) true hul
   have o1 := HM2.out.own.at 1 rfl
   simp only at hA3 o1
   go_wp2_with (at_builtin;refine wpList_append_of (by rfl) _ _ _ _ (by rfl) _ _ (by rfl) (by rfl) hA3 ⟨rfl,rfl,rfl,rfl⟩ ?_;rintro v3 w3 ⟨a3,e3,rfl,q1,_,q3,fp3,hM3⟩;clear o1;have o1 := q1.at 1 rfl;have oz := q1.f 1;have HM3 : Hid (GO w (w3.setCell ⟨w.heap.size + 1,1,none⟩ (.slice a3 (g.up.length + 1) e3)) (w.heap.size + 1) ⟨a2,e2,a3,e3,A.la,A.lc⟩ ⟨g.mem ++ [m],g.up ++ [true],g.mail⟩ fp3) := hM3;have HR3 : Hid (Bx (w3.setCell ⟨w.heap.size + 1,1,none⟩ (.slice a3 (g.up.length + 1) e3)) w.heap.size 66 #[.slice none 0 0,.slice none 0 0,.slice none 0 0]) := ((q3 w.heap.size (by omega) (by omega)).trans HR2.out);clear hM3 q1 q3 hA3)
   go_roundw
   case rel => exact ⟨k + 1,by omega,by go_num,_,_,_,HNx.out.symm,HM3.out,HR3.out⟩
   case measure => simp [intOf];omega
  ·have k1 : ¬ ((k : Int) < (N : Int)) := by omega
   have e : k = N := by omega
   have HGN : Hid (g = newK (N : Int) N) := by rw [Hid,hg.out,e]
   clear e hg
   obtain ⟨o0,o1,o2⟩ := Bx.g3 M.own
   obtain ⟨r0,r1,r2⟩ := Bx.g3 hres
   obtain ⟨f0,f1,f2⟩ := hres.f3
   have HA : Hid (NewL w (((wr.setCell ⟨w.heap.size,0,none⟩ (.slice A.ma g.mem.length A.mc)).setCell ⟨w.heap.size,1,none⟩ (.slice A.ua g.up.length A.uc)).setCell ⟨w.heap.size,2,none⟩ (.slice A.la g.mail.length A.lc)) (gr3 g) (grVals A g)) := M.ans (Nat.le_refl _) (by omega)
   clear M hres
   go_wp2
   refine bodyPost_ret (v := .tuple #[grV A g,.bool true]) (by simp [results,Try.results44,go_sem,grV,grC, *]) rfl ?_
   rw [HZ.out,← HGN.out]
   exact ⟨_,rfl,HA.out⟩
end Go.Proofs.Ythioodpmgifomaa
namespace Go.Proofs.Ythioodpmgifomaa
set_option linter.unusedVariables false
set_option linter.unusedSimpArgs false
open Go.RowKit Go.Sort
theorem OkG.fit {g : Gr} {n : Nat} (h : OkG g n) : FitG g := ⟨fun m hm => by
  obtain ⟨j,hj,rfl⟩ := List.mem_iff_getElem.1 hm
  have := (h.mem j (by rw [← h.ml];exact hj)).fit
  simpa [memN,List.getD,hj] using this,fun y hy => by obtain ⟨_,_,_,_,_,_,_,R⟩ := h.mails y hy;exact R.fit⟩
end Go.Proofs.Ythioodpmgifomaa
namespace Go.Proofs.Ythioodpmgifomaa
set_option linter.unusedSimpArgs false
set_option linter.unusedVariables false
open Go.RowKit Go.Sort
section
variable {P : Program} {ops : Array Oper} {md : Region.Mode} {C : World → Prop}
def HeadQ (P : Program) (md : Region.Mode) (ops : Array Oper) (C : World → Prop) (n : Nat) (L : Array Bool → Act → Prop) : Nat → Array Bool → Act → Prop
 | 0,listed,a => L listed a
 | f + 1,listed,a => Region.ready md ops listed ≠ [] ∧ ∀ i ∈ Region.ready md ops listed,i < n ∧ qOp P ops C i (HeadQ P md ops C n L f (listed.setIfInBounds i true)) a
theorem any_of_headQ {n g : Nat} {L : Array Bool → Act → Prop} {Q : Exit → Act → World → Prop} (hL : ∀ listed a w,C w → L listed a → wpAny P md ops Q g listed a w) (f : Nat) :
  ∀ (listed : Array Bool) (a : Act) (w : World),C w → HeadQ P md ops C n L f listed a → wpAny P md ops Q (f + g) listed a w := by
 induction f with
 | zero => intro listed a w hw h;rw [Nat.zero_add];exact hL _ _ _ hw h
 | succ f ih =>
  intro listed a w hw h
  rw [show f + 1 + g = (f + g) + 1 by omega]
  exact ⟨fun h0 => absurd h0 h.1,fun i hi => wpOp_of_qOp hw (fun a' w' hw' h' => ih _ a' w' hw' h') (h.2 i hi).2⟩
theorem headQ_first {n i : Nat} {oi : Oper} {v : Value} {L : Array Bool → Act → Prop} (hi : ops[i]? = some oi) (hsel : ∀ (j : Nat) (o : Oper) cs b,ops[j]? = some o → o.op ≠ .select cs b)
  (hs : Region.sinkB md ops n = true) (hc : Region.chainB md ops n = true) (hn : n < ops.size) (hin : i < n) (hdone : ∀ listed a,L listed a → ∀ j ∈ Region.ready md ops listed,n ≤ j) (f : Nat) :
  ∀ (listed : Array Bool) (a : Act),HeadInv md ops n listed →
   (∀ j oj,ops[j]? = some oj → j ≠ i → listed.getD j true = false → (∀ e ∈ oj.after,Region.binds md e = true → e.on ≠ i) → oi.apart ops oj = true) →
   i ∈ Region.ready md ops listed → YieldsIn P ops C oi v a →
   HeadQ P md ops C n L f (listed.setIfInBounds i true) (a.put oi.dst v) → HeadQ P md ops C n L (f + 1) listed a := by
 induction f with
 | zero =>
  intro listed a inv _ hr hy H
  have hun := (mem_ready.1 hr).1
  refine ⟨fun h => (by rw [h] at hr;cases hr),fun j hj => ?_⟩
  have hjn : j < n := Nat.lt_of_not_le fun h => absurd hj (tail_waits hs hc hn inv _ i rfl hin hun j h)
  refine ⟨hjn, ?_⟩
  by_cases hji : j = i
  ·subst hji;exact hy.qOp hi H
  ·have := hdone _ _ H j (ready_mono hj hji)
   omega
 | succ f ih =>
  intro listed a inv hfree hr hy H
  have hun := (mem_ready.1 hr).1
  refine ⟨fun h => (by rw [h] at hr;cases hr),fun j hj => ?_⟩
  have hjn : j < n := Nat.lt_of_not_le fun h => absurd hj (tail_waits hs hc hn inv _ i rfl hin hun j h)
  refine ⟨hjn, ?_⟩
  by_cases hji : j = i
  ·subst hji;exact hy.qOp hi H
  ·have h1 := (H.2 j (ready_mono hj hji)).2
   obtain ⟨hjun,oj,hoj,hall⟩ := mem_ready.1 hj
   have hnot : ∀ e ∈ oj.after,Region.binds md e = true → e.on ≠ i := fun e he hb heq => by
    have h3 := hall e he hb
    rw [heq,getD_both hun] at h3
    cases h3
   have h2 := qOp_put hoj (hfree j oj hoj hji hjun hnot) (fun cs b => hsel i oi cs b hi) (fun cs b => hsel j oj cs b hoj) hy h1
   refine qOp_mono (fun a' h3 => ih (listed.setIfInBounds j true) a' (inv.set hj hjn) (fun k ok hk hki hu hno => hfree k ok hk hki ?_ hno) (ready_mono hr (Ne.symm hji)) h3.1 ?_) h2
   ·by_cases hjk : j = k
    ·subst hjk;exact hjun
    ·rw [getD_set_ne true hjk] at hu;exact hu
   ·rw [Array.setIfInBounds_comm _ _ hji]
    exact h3.2
theorem headQ_lex {n g : Nat} {Lq : Act → Prop} (hsel : Region.noSelect ops = true) (hs : Region.sinkB md ops n = true) (hc : Region.chainB md ops n = true) (hn : n < ops.size) :
  ∀ (l : List Oper) (k : Nat) (listed : Array Bool) (a : Act),(∀ j,j < l.length → l[j]? = ops[k + j]?) → k + l.length = n → HeadInv md ops n listed →
  Region.lexHead md ops g l.length k listed = true → wpQuiet P ops C Lq l a → HeadQ P md ops C n (fun listed' a' => Region.seqB md ops g n listed' = true ∧ Lq a') l.length listed a
 | [],k,listed,a,_,hk,_,hB,h => by
  have : k = n := by simpa using hk
  subst this
  exact ⟨by simpa [Region.lexHead] using hB,h⟩
 | o :: l,k,listed,a,hl,hk,inv,hB,h => by
  have h0 : ops[k]? = some o := by simpa using (hl 0 (by simp)).symm
  simp only [List.length_cons,Region.lexHead,Bool.and_eq_true] at hB
  obtain ⟨⟨hr,hf⟩,hB'⟩ := hB
  have hkn : k < n := by simp only [List.length_cons] at hk;omega
  have hr' : k ∈ Region.ready md ops listed := by simpa using hr
  have hst : qOp P ops C k (wpQuiet P ops C Lq l) a := by unfold qOp;simp only [h0];exact h
  obtain ⟨v,hy,hK⟩ := yieldsIn_of_qOp h0 hst
  exact headQ_first h0 (Region.noSelect_spec hsel) hs hc hn hkn (fun listed' a' hL => seqB_ready hL.1) l.length listed a inv (Region.free_spec h0 hf) hr' hy
   (headQ_lex hsel hs hc hn l (k + 1) _ _ (fun j hj => by have := hl (j + 1) (by simp;omega);simpa [Nat.add_assoc,Nat.add_comm 1 j] using this) (by simp only [List.length_cons] at hk;omega) (inv.set hr' hkn) hB' hK)
end
theorem wp_region_quiet_tail {P : Program} {C : World → Prop} {id : Nat} {Q : Exit → Act → World → Prop} {a : Act} {w : World} {l : List Oper} (n : Nat) (hm : P.follows .mixedOrders = true) (hB : Region.lexTailB .any l.toArray n = true) (hC : C (w.drewN 1))
    (h : wpQuiet P l.toArray C (fun a' => ∀ w', C w' → wpList P l.toArray Q (l.drop n) a' w') (l.take n) a) : (Code.region id l.toArray true).wp P Q a w := by
  simp only [Region.lexTailB, Bool.and_eq_true, decide_eq_true_eq] at hB
  obtain ⟨⟨⟨⟨hsel, hn⟩, hs⟩, hc⟩, hlex⟩ := hB
  have htl : (l.take n).length = n := by have : n < l.length := by simpa using hn
                                         simp; omega
  have hdl : (l.drop n).length = l.toArray.size - n := by simp
  have inv0 : HeadInv .any l.toArray n (Array.replicate l.toArray.size false) :=
    ⟨by simp, fun j oj _ hl => (by rw [getD_replicate_false] at hl; cases hl), fun t _ ht => getD_in (by simpa using ht) (getD_replicate_false _ _)⟩
  have H := headQ_lex (md := .any) (g := l.toArray.size - n) hsel hs hc hn (l.take n) 0 _ a (fun j hj => by
    have hj' : j < n := by rw [htl] at hj; exact hj
    simp [hj']) (by simpa using htl) inv0 (by rw [htl]; exact hlex) h
  refine wp_region_any hm ?_
  have := any_of_headQ (C := C) (Q := Q) (g := l.toArray.size - n) (fun listed a' w' hw' hL => by
    have := wpAny_of_seq (md := .any) (Q' := Q) (l.drop n) n listed a' w' (fun j => by simp [List.getElem?_drop]) (by rw [hdl]; exact hL.1) (hL.2 w' hw')
    rwa [hdl] at this) _ _ _ (w.drewN 1) hC H
  rw [htl, show n + (l.toArray.size - n) = l.toArray.size by have : n < l.toArray.size := hn; omega] at this
  exact this
end Go.Proofs.Ythioodpmgifomaa
namespace Go.Proofs.Ythioodpmgifomaa
set_option linter.unusedVariables false
set_option linter.unusedSimpArgs false
open Go.RowKit Go.Sort
attribute [local irreducible] sv
end Go.Proofs.Ythioodpmgifomaa
namespace Go.Proofs.Ythioodpmgifomaa
set_option linter.unusedVariables false
set_option linter.unusedSimpArgs false
open Go.RowKit Go.Sort
end Go.Proofs.Ythioodpmgifomaa
namespace Go.Proofs.Ythioodpmgifomaa
set_option linter.unusedVariables false
set_option linter.unusedSimpArgs false
open Go.RowKit Go.Sort
end Go.Proofs.Ythioodpmgifomaa
namespace Go.Proofs.Ythioodpmgifomaa
set_option linter.unusedVariables false
set_option linter.unusedSimpArgs false
open Go.RowKit Go.Sort
end Go.Proofs.Ythioodpmgifomaa
namespace Go.Proofs.Ythioodpmgifomaa
set_option linter.unusedVariables false
set_option linter.unusedSimpArgs false
open Go.RowKit Go.Sort
end Go.Proofs.Ythioodpmgifomaa
namespace Go.Proofs.Ythioodpmgifomaa
set_option linter.unusedVariables false
set_option linter.unusedSimpArgs false
open Go.RowKit Go.Sort
end Go.Proofs.Ythioodpmgifomaa
namespace Go.Proofs.Ythioodpmgifomaa
set_option linter.unusedVariables false
set_option linter.unusedSimpArgs false
open Go.RowKit Go.Sort
end Go.Proofs.Ythioodpmgifomaa
namespace Go.Proofs.Ythioodpmgifomaa
set_option linter.unusedVariables false
set_option linter.unusedSimpArgs false
open Go.RowKit Go.Sort
end Go.Proofs.Ythioodpmgifomaa
namespace Go.Proofs.Ythioodpmgifomaa
set_option linter.unusedVariables false
set_option linter.unusedSimpArgs false
open Go.RowKit Go.Sort
end Go.Proofs.Ythioodpmgifomaa
namespace Go.Proofs.Ythioodpmgifomaa
set_option linter.unusedVariables false
set_option linter.unusedSimpArgs false
open Go.RowKit Go.Sort
end Go.Proofs.Ythioodpmgifomaa
namespace Go.Proofs.Ythioodpmgifomaa
set_option linter.unusedSimpArgs false
set_option linter.unusedVariables false
open Go.RowKit
end Go.Proofs.Ythioodpmgifomaa
namespace Go.Proofs.Ythioodpmgifomaa
set_option linter.unusedVariables false
set_option linter.unusedSimpArgs false
open Go.RowKit Go.Sort
end Go.Proofs.Ythioodpmgifomaa
namespace Go.Proofs.Ythioodpmgifomaa
set_option linter.unusedVariables false
set_option linter.unusedSimpArgs false
open Go.RowKit Go.Sort
end Go.Proofs.Ythioodpmgifomaa
namespace Go.Proofs.Ythioodpmgifomaa
set_option linter.unusedVariables false
set_option linter.unusedSimpArgs false
open Go.RowKit Go.Sort
end Go.Proofs.Ythioodpmgifomaa
namespace Go.Proofs.Ythioodpmgifomaa
set_option linter.unusedVariables false
set_option linter.unusedSimpArgs false
open Go.RowKit Go.Sort
end Go.Proofs.Ythioodpmgifomaa
namespace Go.Proofs.Ythioodpmgifomaa
set_option linter.unusedVariables false
set_option linter.unusedSimpArgs false
open Go.RowKit Go.Sort
end Go.Proofs.Ythioodpmgifomaa
namespace Go.Proofs.Ythioodpmgifomaa
set_option linter.unusedVariables false
set_option linter.unusedSimpArgs false
open Go.RowKit Go.Sort
end Go.Proofs.Ythioodpmgifomaa
namespace Go.Proofs.Ythioodpmgifomaa
set_option linter.unusedVariables false
set_option linter.unusedSimpArgs false
open Go.RowKit Go.Sort
section
variable {w X Y Y' : World} {p : Nat} {a : Option Addr} {len cap : Nat} {bs : Nat → Int} {T : TypeId} {o : Nat} {Z C : Array Value} {cs : List Cel} {vs : List Value} {fp : Fp}
end
end Go.Proofs.Ythioodpmgifomaa
namespace Go.Proofs.Ythioodpmgifomaa
set_option linter.unusedVariables false
set_option linter.unusedSimpArgs false
open Go.RowKit Go.Sort
end Go.Proofs.Ythioodpmgifomaa
namespace Go.Proofs.Ythioodpmgifomaa
set_option linter.unusedVariables false
set_option linter.unusedSimpArgs false
open Go.RowKit Go.Sort
section
variable {w X Y Y' : World} {p : Nat} {a : Option Addr} {len cap : Nat} {bs : Nat → Int} {o : Nat} {Zr : Array Value} {A : Ra} {r : Rw} {fp : Fp}
end
end Go.Proofs.Ythioodpmgifomaa
namespace Go.Proofs.Ythioodpmgifomaa
set_option linter.unusedSimpArgs false
set_option linter.unusedVariables false
open Go.RowKit Go.Sort
attribute [local irreducible] sv
end Go.Proofs.Ythioodpmgifomaa
namespace Go.Proofs.Ythioodpmgifomaa
set_option linter.unusedVariables false
set_option linter.unusedSimpArgs false
open Go.RowKit Go.Sort
attribute [local irreducible] sv
end Go.Proofs.Ythioodpmgifomaa
namespace Go.Proofs.Ythioodpmgifomaa
set_option linter.unusedVariables false
set_option linter.unusedSimpArgs false
open Go.RowKit Go.Sort
theorem totS_le {T : List (List UInt8)} {m : Nat} (h : ∀ i,i < T.length → (T.getD i []).length ≤ m) : ∀ k,k ≤ T.length → totS T k ≤ k * m
 | 0,_ => by simp [totS]
 | k + 1,hk => by
  have := totS_le h k (by omega)
  have := h k (by omega)
  rw [totS,Nat.add_mul]
  omega
theorem owL_it {w : World} {cs : List Cel} {vs : List Value} {fp : Fp} (h : owL w cs vs fp) {lo : Nat} (hl : ∀ b,fp b → lo ≤ b) : It w cs vs lo w.heap.size := ⟨fp,h,fun b hb => ⟨hl b hb,owL_lt h b hb⟩⟩
end Go.Proofs.Ythioodpmgifomaa
namespace Go.Proofs.Ythioodpmgifomaa
set_option linter.unusedVariables false
set_option linter.unusedSimpArgs false
open Go.RowKit Go.Sort
end Go.Proofs.Ythioodpmgifomaa
namespace Go.Proofs.Ythioodpmgifomaa
set_option linter.unusedVariables false
set_option linter.unusedSimpArgs false
open Go.RowKit Go.Sort
end Go.Proofs.Ythioodpmgifomaa
namespace Go.Proofs.Ythioodpmgifomaa
set_option linter.unusedVariables false
set_option linter.unusedSimpArgs false
open Go.RowKit Go.Sort
end Go.Proofs.Ythioodpmgifomaa
namespace Go.Proofs.Ythioodpmgifomaa
set_option linter.unusedVariables false
set_option linter.unusedSimpArgs false
open Go.RowKit Go.Sort
attribute [local irreducible] sv
end Go.Proofs.Ythioodpmgifomaa
namespace Go.Proofs.Ythioodpmgifomaa
set_option linter.unusedVariables false
set_option linter.unusedSimpArgs false
open Go.RowKit Go.Sort
end Go.Proofs.Ythioodpmgifomaa
namespace Go.Proofs.Ythioodpmgifomaa
set_option linter.unusedVariables false
set_option linter.unusedSimpArgs false
open Go.RowKit Go.Sort
attribute [local irreducible] sv
end Go.Proofs.Ythioodpmgifomaa
namespace Go.Proofs.Ythioodpmgifomaa
set_option linter.unusedVariables false
set_option linter.unusedSimpArgs false
open Go.RowKit Go.Sort
attribute [local irreducible] sv
end Go.Proofs.Ythioodpmgifomaa
namespace Go.Proofs.Ythioodpmgifomaa
set_option linter.unusedVariables false
set_option linter.unusedSimpArgs false
open Go.RowKit Go.Sort
attribute [local irreducible] sv
end Go.Proofs.Ythioodpmgifomaa
namespace Go.Proofs.Ythioodpmgifomaa
set_option linter.unusedVariables false
set_option linter.unusedSimpArgs false
open Go.RowKit Go.Sort
def szP (R : List Rw) (k : Nat) : Nat := ((R.take k).map szRw).sum
def szRs (R : List Rw) : Nat := R.length + szP R R.length
def szMb (m : Mb) : Nat := szRs m.rows + m.sung.length
end Go.Proofs.Ythioodpmgifomaa
namespace Go.Proofs.Ythioodpmgifomaa
set_option linter.unusedVariables false
set_option linter.unusedSimpArgs false
open Go.RowKit Go.Sort
def mbN (R : List Mb) (k : Nat) : Mb := R.getD k zeroMb
def zeroMl : Ml := ⟨0,0,zeroRw⟩
def mlN (R : List Ml) (k : Nat) : Ml := R.getD k zeroMl
theorem mbN_at {R : List Mb} {k : Nat} (hk : k < R.length) : R[k]? = some (mbN R k) := by simp [mbN,List.getD,hk]
theorem mlN_at {R : List Ml} {k : Nat} (hk : k < R.length) : R[k]? = some (mlN R k) := by simp [mlN,List.getD,hk]
def szMl (x : Ml) : Nat := szRw x.row
theorem Pv.mlr {w : World} {b o : Nat} {x : Ml} (h : Pv w b o (ml10 x)) (hf : FitR x.row) : ∃ A : Ra,(w.cell? ⟨b,o,none⟩ = some (.int .i64 x.fr) ∧ w.cell? ⟨b,o + 1,none⟩ = some (.int .i64 x.to)) ∧ (w.cell? ⟨b,o + 2,none⟩ = some (.int .i64 x.row.ver) ∧ w.cell? ⟨b,o + 3,none⟩ = some (.slice A.ta x.row.txt.length A.tc) ∧ w.cell? ⟨b,o + 4,none⟩ = some (.slice A.ga x.row.got.length A.gc) ∧ w.cell? ⟨b,o + 5,none⟩ = some (.slice A.sa x.row.sus.length A.sc)) ∧ w.cell? ⟨b,o + 6,none⟩ = some (.bool x.row.wed) ∧ w.cell? ⟨b,o + 7,none⟩ = some (.bool x.row.rdy) ∧ w.cell? ⟨b,o + 8,none⟩ = some (.int .i64 x.row.by_) ∧ w.cell? ⟨b,o + 9,none⟩ = some (.slice A.ma x.row.trm.length A.mc) ∧ RwS w A x.row := by
 obtain ⟨A,c0,c1,⟨⟨d0,d1,d2,d3⟩,d4,d5,d6,d7⟩,h4⟩ := h.mail hf
 simp only [Nat.add_assoc] at d1 d2 d3 d4 d5 d6 d7
 exact ⟨A,⟨c0,c1⟩,⟨d0,d1,d2,d3⟩,d4,d5,d6,d7,h4⟩
def mlV (A : Ra) (x : Ml) : Value := .agg (mlC x A)
attribute [local irreducible] sv
def zPm (R : List Mb) (k : Nat) : Nat := ((R.take k).map szMb).sum
theorem zPm_next {R : List Mb} {k : Nat} (hk : k < R.length) : zPm R (k + 1) = zPm R k + szMb (mbN R k) := by
 have e : mbN R k = R[k] := by simp [mbN,List.getD,hk]
 unfold zPm
 rw [List.take_succ_eq_append_getElem hk,List.map_append,List.sum_append,e]
 simp
theorem zPm_mono (R : List Mb) {a b : Nat} (h : a ≤ b) : zPm R a ≤ zPm R b := by
 unfold zPm
 obtain ⟨c,rfl⟩ := Nat.exists_eq_add_of_le h
 rw [List.take_add,List.map_append,List.sum_append]
 omega
def szMs (R : List Mb) : Nat := R.length + zPm R R.length
def zPl (R : List Ml) (k : Nat) : Nat := ((R.take k).map szMl).sum
theorem zPl_next {R : List Ml} {k : Nat} (hk : k < R.length) : zPl R (k + 1) = zPl R k + szMl (mlN R k) := by
 have e : mlN R k = R[k] := by simp [mlN,List.getD,hk]
 unfold zPl
 rw [List.take_succ_eq_append_getElem hk,List.map_append,List.sum_append,e]
 simp
theorem zPl_mono (R : List Ml) {a b : Nat} (h : a ≤ b) : zPl R a ≤ zPl R b := by
 unfold zPl
 obtain ⟨c,rfl⟩ := Nat.exists_eq_add_of_le h
 rw [List.take_add,List.map_append,List.sum_append]
 omega
def szLs (R : List Ml) : Nat := R.length + zPl R R.length
def szGr (g : Gr) : Nat := szMs g.mem + g.up.length + szLs g.mail
end Go.Proofs.Ythioodpmgifomaa
namespace Go.Proofs.Ythioodpmgifomaa
set_option linter.unusedVariables false
set_option linter.unusedSimpArgs false
open Go.RowKit Go.Sort
set_option maxRecDepth 100000 in
set_option maxHeartbeats 3200000 in
theorem eqRs_any (a a' : Option Addr) (cap cap' : Nat) (R : List Rw) (w : World) (hv : Cel.vw w (lcl 8 rw8 R) (.slice a R.length cap)) (hu : Cel.vw w (lcl 8 rw8 R) (.slice a' R.length cap')) (hf : ∀ r ∈ R,FitR r) (hm : R.length ≤ maxLen) :
  Calls Try.prog 77 #[.slice a R.length cap,.slice a' R.length cap'] w fun e w' => e = .returned (.bool true) ∧ Below w.heap.size w w' := by
 have HV : Hid (Cel.vw w (lcl 8 rw8 R) (.slice a R.length cap)) := hv
 have HU : Hid (Cel.vw w (lcl 8 rw8 R) (.slice a' R.length cap')) := hu
 have hbb : ((R.length : Int) != (R.length : Int)) = false := by simp
 unfold maxLen at hm
 clear hv hu
 go_enter Try.func77,Try.ntmps77
 go_wp2_with fail
 go_loopw [5] (fun v wr => ∃ k : Nat,k ≤ R.length ∧ v = .int .i64 (k : Int) ∧ Below w.heap.size w wr) (fun v _ => R.length - (intOf v).toNat)
 case atStart => exact ⟨0,Nat.zero_le _,rfl,Below.refl _ _⟩
 case round =>
  obtain ⟨k,hk,rfl,hb⟩ := hrel
  by_cases hlt : k < R.length
  ·have k1 : (k : Int) < (R.length : Int) := by omega
   have k0 : (0 : Int) ≤ (k : Int) := by omega
   have hmem : rowN R k ∈ R := rowN_mem hlt
   have hkx : R[k]? = some (rowN R k) := by simp [rowN,List.getD,hlt]
   obtain ⟨g,off,hra,hpv⟩ := vw_elF rw8_len (Cel.vw_below HV.out hb) hkx
   obtain ⟨g',off',hra',hpv'⟩ := vw_elF rw8_len (Cel.vw_below HU.out hb) hkx
   obtain ⟨A,⟨⟨d0,d1,d2,d3⟩,d4,d5,d6,d7⟩,hrs⟩ := hpv.row (hf _ hmem)
   obtain ⟨A',⟨⟨e0,e1,e2,e3⟩,e4,e5,e6,e7⟩,hrs'⟩ := hpv'.row (hf _ hmem)
   subst hra hra'
   have C : ∀ q : Bk wr,Calls Try.prog 37 #[rwV A (rowN R k),rwV A' (rowN R k)] q.w fun e w' => e = .returned (.bool true) ∧ Below q.w.heap.size q.w w' := fun q => eqRw_any A A' _ q.w (hrs.below q.h) (hrs'.below q.h)
   unfold rwV rwC at C
   have T : ∀ {x v},wr.cell? x = some v → ∀ q : Bk wr,q.w.cell? x = some v := fun h q => (q.h.cell (World.block_lt_of_cell? _ _ h)).trans h
   have dp0 := T d0
   have dp1 := T d1
   have dp2 := T d2
   have dp3 := T d3
   have dp4 := T d4
   have dp5 := T d5
   have dp6 := T d6
   have dp7 := T d7
   have ep0 := T e0
   have ep1 := T e1
   have ep2 := T e2
   have ep3 := T e3
   have ep4 := T e4
   have ep5 := T e5
   have ep6 := T e6
   have ep7 := T e7
   have HB : Hid (Below w.heap.size w wr) := hb
   generalize rowN R k = r at *
   clear hrs hrs' hpv hpv' hb T d0 d1 d2 d3 d4 d5 d6 d7 e0 e1 e2 e3 e4 e5 e6 e7 hkx
   go_wp2_with fail
   refine wp_region_bk (by kernel_rfl) (by kernel_rfl) ?_
   repeat (go_big_quiet_step ((first | (go_at_call 37;exact bk_call _ (C _)) | rfl)))
   refine wpQuiet_nil ?_
   intro wE hw'
   obtain ⟨⟨w11,hb11⟩,hw''⟩ := hw'
   have hwe : wE = w11 := hw''
   clear hw''
   subst hwe
   have HB1 : Hid (Below w.heap.size w wE) := HB.out.trans (hb11.mono HB.out.size)
   clear C hb11 dp0 dp1 dp2 dp3 dp4 dp5 dp6 dp7 ep0 ep1 ep2 ep3 ep4 ep5 ep6 ep7
   go_wp2
   go_roundw
   case rel => exact ⟨k + 1,by omega,by go_num,HB1.out⟩
   case measure => simp [intOf];omega
  ·have k1 : ¬ ((k : Int) < (R.length : Int)) := by omega
   have HB : Hid (Below w.heap.size w wr) := hb
   clear hb
   go_wp2
   go_ret
   exact ⟨rfl,HB.out⟩
set_option maxRecDepth 100000 in
set_option maxHeartbeats 3200000 in
theorem eqMb_any (A D : Ma) (m : Mb) (w : World) (hv : MbS w A m) (hu : MbS w D m) :
  Calls Try.prog 30 #[mbV A m,mbV D m] w fun e w' => e = .returned (.bool true) ∧ Below w.heap.size w w' := by
 have hB0 : Below w.heap.size w ((w.alloc (.cells #[.int .i64 m.id,.int .i64 m.n,.slice A.ra m.rows.length A.rc,.slice A.sa m.sung.length A.sc,.bool m.done] 39)).alloc (.cells #[.int .i64 m.id,.int .i64 m.n,.slice D.ra m.rows.length D.rc,.slice D.sa m.sung.length D.sc,.bool m.done] 39)) := (oneA16 w _).trans ((oneA16 _ _).mono (oneA16 w _).size)
 have hx : Bx ((w.alloc (.cells #[.int .i64 m.id,.int .i64 m.n,.slice A.ra m.rows.length A.rc,.slice A.sa m.sung.length A.sc,.bool m.done] 39)).alloc (.cells #[.int .i64 m.id,.int .i64 m.n,.slice D.ra m.rows.length D.rc,.slice D.sa m.sung.length D.sc,.bool m.done] 39)) w.heap.size 39 #[.int .i64 m.id,.int .i64 m.n,.slice A.ra m.rows.length A.rc,.slice A.sa m.sung.length A.sc,.bool m.done] := (Bx.new w _ _).alloc _
 have hy : Bx ((w.alloc (.cells #[.int .i64 m.id,.int .i64 m.n,.slice A.ra m.rows.length A.rc,.slice A.sa m.sung.length A.sc,.bool m.done] 39)).alloc (.cells #[.int .i64 m.id,.int .i64 m.n,.slice D.ra m.rows.length D.rc,.slice D.sa m.sung.length D.sc,.bool m.done] 39)) (w.heap.size + 1) 39 #[.int .i64 m.id,.int .i64 m.n,.slice D.ra m.rows.length D.rc,.slice D.sa m.sung.length D.sc,.bool m.done] := by
  have := Bx.new (w.alloc (.cells #[.int .i64 m.id,.int .i64 m.n,.slice A.ra m.rows.length A.rc,.slice A.sa m.sung.length A.sc,.bool m.done] 39)) 39 #[.int .i64 m.id,.int .i64 m.n,.slice D.ra m.rows.length D.rc,.slice D.sa m.sung.length D.sc,.bool m.done]
  simpa using this
 have h0 := hv.below hB0
 have g0 := hu.below hB0
 have hR := eqRs_any A.ra D.ra A.rc D.rc m.rows _ h0.rows g0.rows h0.fit h0.mr
 have hE : ∀ X,Below w.heap.size w X → Calls Try.prog 78 #[.slice A.sa m.sung.length A.sc,.slice D.sa m.sung.length D.sc] X fun e w' => e = .returned (.bool true) ∧ Below X.heap.size X w' := fun X h => (eq_any A.sa D.sa m.sung.length A.sc m.sung.length D.sc m.sung m.sung X (hv.sung.below h (Nat.le_refl _)) (hu.sung.below h (Nat.le_refl _)) hv.ms).mono (fun e w' ⟨h4,n,h5⟩ => ⟨by rw [h4];simp,by rw [h5];exact belowN (Below.refl _ _)⟩)
 unfold mbV mbC
 generalize hWW : (w.alloc (.cells #[.int .i64 m.id,.int .i64 m.n,.slice A.ra m.rows.length A.rc,.slice A.sa m.sung.length A.sc,.bool m.done] 39)).alloc (.cells #[.int .i64 m.id,.int .i64 m.n,.slice D.ra m.rows.length D.rc,.slice D.sa m.sung.length D.sc,.bool m.done] 39) = W at *
 have n1 : (m.id != m.id) = false := by simp
 have n2 : (m.n != m.n) = false := by simp
 have n3 : (m.done != m.done) = false := by simp
 have HX : Hid (Bx W w.heap.size 39 #[.int .i64 m.id,.int .i64 m.n,.slice A.ra m.rows.length A.rc,.slice A.sa m.sung.length A.sc,.bool m.done]) := hx
 have HY : Hid (Bx W (w.heap.size + 1) 39 #[.int .i64 m.id,.int .i64 m.n,.slice D.ra m.rows.length D.rc,.slice D.sa m.sung.length D.sc,.bool m.done]) := hy
 have HB : Hid (Below w.heap.size w W) := hB0
 obtain ⟨c0,c1,c2,c3,c4⟩ := Bx.r5 hx
 obtain ⟨d0,d1,d2,d3,d4⟩ := Bx.r5 hy
 clear hv hu h0 g0 hB0 hx hy
 go_enter Try.func30,Try.ntmps30
 go_wp2_with fail
 refine hR.mono ?_
 rintro e w1 ⟨rfl,hb1⟩
 have HB1 : Hid (Below w.heap.size w w1) := HB.out.trans (hb1.mono HB.out.size)
 have HX1 : Hid (Bx w1 w.heap.size 39 #[.int .i64 m.id,.int .i64 m.n,.slice A.ra m.rows.length A.rc,.slice A.sa m.sung.length A.sc,.bool m.done]) := HX.out.below hb1
 have HY1 : Hid (Bx w1 (w.heap.size + 1) 39 #[.int .i64 m.id,.int .i64 m.n,.slice D.ra m.rows.length D.rc,.slice D.sa m.sung.length D.sc,.bool m.done]) := HY.out.below hb1
 clear c0 c1 c2 c3 c4 d0 d1 d2 d3 d4 hR hb1
 obtain ⟨c0,c1,c2,c3,c4⟩ := Bx.r5 HX1.out
 obtain ⟨d0,d1,d2,d3,d4⟩ := Bx.r5 HY1.out
 go_wp2_with fail
 refine (hE _ HB1.out).mono ?_
 rintro e w2 ⟨rfl,hb2⟩
 have HB2 : Hid (Below w.heap.size w w2) := HB1.out.trans (hb2.mono HB1.out.size)
 clear c0 c1 c2 c3 c4 d0 d1 d2 d3 d4 hE
 obtain ⟨c0,c1,c2,c3,c4⟩ := Bx.r5 (HX1.out.below hb2)
 obtain ⟨d0,d1,d2,d3,d4⟩ := Bx.r5 (HY1.out.below hb2)
 clear hb2
 go_wp2
 go_ret
 exact ⟨rfl,HB2.out⟩
end Go.Proofs.Ythioodpmgifomaa
namespace Go.Proofs.Ythioodpmgifomaa
set_option linter.unusedVariables false
set_option linter.unusedSimpArgs false
open Go.RowKit Go.Sort
end Go.Proofs.Ythioodpmgifomaa
namespace Go.Proofs.Ythioodpmgifomaa
set_option linter.unusedVariables false
set_option linter.unusedSimpArgs false
open Go.RowKit Go.Sort
end Go.Proofs.Ythioodpmgifomaa
namespace Go.Proofs.Ythioodpmgifomaa
set_option linter.unusedVariables false
set_option linter.unusedSimpArgs false
open Go.RowKit Go.Sort
end Go.Proofs.Ythioodpmgifomaa
namespace Go.Proofs.Ythioodpmgifomaa
set_option linter.unusedVariables false
set_option linter.unusedSimpArgs false
open Go.RowKit Go.Sort
end Go.Proofs.Ythioodpmgifomaa
namespace Go.Proofs.Ythioodpmgifomaa
set_option linter.unusedVariables false
set_option linter.unusedSimpArgs false
open Go.RowKit Go.Sort
end Go.Proofs.Ythioodpmgifomaa
namespace Go.Proofs.Ythioodpmgifomaa
set_option linter.unusedVariables false
set_option linter.unusedSimpArgs false
open Go.RowKit Go.Sort
theorem mixed13 : Try.prog.follows .mixedOrders = true := by kernel_rfl
def FlS (w : World) (a : Option Addr) (al : List Bool) : Prop := al.length = 0 ∨ ∃ b off,a = some ⟨b,off,none⟩ ∧ ∀ i,i < al.length → w.cell? ⟨b,off + i,none⟩ = some (.bool (fl al i))
end Go.Proofs.Ythioodpmgifomaa
namespace Go.Proofs.Ythioodpmgifomaa
set_option linter.unusedVariables false
set_option linter.unusedSimpArgs false
open Go.RowKit Go.Sort
def bov (al : List Bool) : List Value := al.map Value.bool
theorem bov_len (al : List Bool) : (bov al).length = al.length := by simp [bov]
theorem bov_get {al : List Bool} {i : Nat} (h : i < al.length) : (bov al)[i]? = some (.bool (fl al i)) := by simp [bov,fl,h]
def OF (w : World) (g off n cap : Nat) (al : List Bool) : Prop := OSl w 1 g off n cap (bov al)
def bocl (al : List Bool) : Cel := .sl 1 al.length (pl (bov al))
theorem ow_bocl {w : World} {al : List Bool} {u : Value} {fp : Fp} : Cel.ow w (bocl al) u fp ↔ ∃ a c G,u = .slice a al.length c ∧ OSo w 1 a al.length c (bov al) G ∧ ∀ b,fp b ↔ G = some b := by
 constructor
 ·rintro ⟨a,c,us,G,f,e,h1,h2,h3,h4⟩
  obtain ⟨rfl,h5⟩ := owL_pl.1 h2
  exact ⟨a,c,G,e,h1,fun b => by rw [h4 b];exact ⟨fun h => h.elim id (fun k => absurd k (h5 b)),.inl⟩⟩
 ·rintro ⟨a,c,G,e,h1,h2⟩
  exact ⟨a,c,bov al,G,fun _ => False,e,h1,owL_pl.2 ⟨rfl,fun _ h => h⟩,fun _ _ h => h,fun b => by rw [h2 b];simp⟩
theorem OF.length {w : World} {g off n cap : Nat} {al : List Bool} (h : OF w g off n cap al) : al.length = n := by have := h.len;rw [bov_len] at this;omega
theorem OF.cellAt {w : World} {g off n cap : Nat} {al : List Bool} (h : OF w g off n cap al) {i : Nat} (hi : i < n) : w.cell? ⟨g,off + i,none⟩ = some (.bool (fl al i)) := by
 have hl := h.length
 rw [h.cell i (by omega)]
 exact bov_get (by omega)
theorem OF.set {w : World} {g off n cap : Nat} {al : List Bool} (h : OF w g off n cap al) {i : Nat} (hi : i < n) (y : Bool) : OF (w.setCell ⟨g,off + i,none⟩ (.bool y)) g off n cap (al.set i y) := by
 have := osl_put h (j := i) (by omega) (.bool y)
 unfold OF
 rw [show bov (al.set i y) = (bov al).set i (.bool y) by simp [bov,List.map_set]]
 exact this
theorem OSo.of_of {w : World} {a : Option Addr} {c : Nat} {al : List Bool} {G : Option Nat} (h : OSo w 1 a al.length c (bov al) G) : (al = [] ∧ c = 0 ∧ G = none) ∨ ∃ g off,a = some ⟨g,off,none⟩ ∧ OF w g off al.length c al ∧ G = some g := by
 rcases h with ⟨h1,h2,_,h3,_⟩ | ⟨g,off,ha,ho,hG⟩
 ·exact .inl ⟨List.eq_nil_of_length_eq_zero h1,h2,h3⟩
 ·exact .inr ⟨g,off,ha,ho,hG⟩
set_option maxRecDepth 100000 in
set_option maxHeartbeats 1600000 in
theorem eqF_any (a a' : Option Addr) (cap cap' : Nat) (al : List Bool) (w : World) (hz : FlS w a al) (hy : FlS w a' al) (hm : al.length ≤ maxLen) :
  Calls Try.prog 102 #[.slice a al.length cap,.slice a' al.length cap'] w fun e w' => e = .returned (.bool true) ∧ Grew w w' := by
 unfold maxLen at hm
 have HZ : Hid (FlS w a al) := hz
 have HY : Hid (FlS w a' al) := hy
 have hne : ((al.length : Int) != (al.length : Int)) = false := by simp
 clear hz hy
 go_enter Try.func102,Try.ntmps102
 go_wp2
 clear hne
 go_loopw [5] (fun i wr => ∃ j : Nat,j ≤ al.length ∧ i = .int .i64 j ∧ ∃ q,wr = w.drewN q) (fun i _ => al.length - (intOf i).toNat)
 case atStart => exact ⟨0,Nat.zero_le _,rfl,0,rfl⟩
 case round =>
  obtain ⟨j,hj,rfl,q,rfl⟩ := hrel
  by_cases hlt : j < al.length
  ·rcases HZ.out with h0 | ⟨b,off,rfl,hc⟩
   ·omega
   rcases HY.out with h0 | ⟨b',off',rfl,hc'⟩
   ·omega
   have c1 := hc j hlt
   have c2 := hc' j hlt
   have j1 : (j : Int) < (al.length : Int) := by omega
   have j0 : (0 : Int) ≤ (j : Int) := by omega
   generalize fl al j = A at *
   have hb : (A != A) = false := by simp
   clear hc hc'
   have hmix := mixed13
   go_wp2_with fail
   go_quiet (fail)
   go_wp2
   go_roundw
   case rel => exact ⟨j + 1,by omega,by go_num,_,rfl⟩
   case measure => simp [intOf];omega
  ·have hjl : j = al.length := by omega
   subst hjl
   go_wp2
   go_ret
   exact ⟨rfl,(Grew.refl _).drewN _⟩
def mkF (al : List Bool) (k0 : Nat) : Nat → List Bool
 | 0 => al
 | j + 1 => (mkF al k0 j).set j (((k0 + j : Nat) : Int) % 3 == 0)
theorem mkF_len (al : List Bool) (k0 : Nat) : ∀ j,(mkF al k0 j).length = al.length
 | 0 => rfl
 | j + 1 => by rw [mkF,List.length_set];exact mkF_len al k0 j
set_option maxRecDepth 100000 in
set_option maxHeartbeats 1600000 in
theorem markF_it (a : Option Addr) (c k0 lo hi : Nat) (al : List Bool) (w : World) (h : It w [bocl al] [.slice a al.length c] lo hi) (hk : k0 ≤ 10000000) (hn : al.length ≤ 10000000) :
  Calls Try.prog 108 #[.slice a al.length c,.int .i64 (k0 : Int)] w fun e w' => e = .returned (.int .i64 ((k0 + al.length : Nat) : Int)) ∧ It w' [bocl (mkF al k0 al.length)] [.slice a al.length c] lo hi ∧ Wrt (Iv lo hi) w w' := by
 obtain ⟨f,h1,h2⟩ := h.ow1
 obtain ⟨a',c',G,e,ho,hG⟩ := ow_bocl.1 h1
 cases e
 rcases ho.of_of with ⟨rfl,rfl,_⟩ | ⟨g,off,rfl,hof,rfl⟩
 ·have HIT : Hid (It w [bocl []] [.slice a 0 0] lo hi) := h
  clear h h1 h2 ho hG
  simp only [List.length_nil]
  go_enter Try.func108,Try.ntmps108
  go_wp2
  go_loop [1,5] (fun q i => i = .int .i64 0 ∧ q = .int .i64 (k0 : Int)) (fun _ _ => 0)
  case atStart => exact ⟨rfl,rfl⟩
  case round =>
   obtain ⟨rfl,rfl⟩ := hrel
   go_wp2
   go_ret
   exact ⟨rfl,HIT.out,Wrt.refl _ _⟩
 ·have hg := h2 g ((hG g).2 rfl)
  have HG : Hid (lo ≤ g ∧ g < hi) := hg
  have HO0 : Hid (OF w g off al.length c (mkF al k0 0)) := hof
  clear h h1 h2 ho hG hof hg
  go_enter Try.func108,Try.ntmps108
  go_wp2
  go_loopw [1,5] (fun q i wr => ∃ j : Nat,j ≤ al.length ∧ i = .int .i64 j ∧ q = .int .i64 ((k0 + j : Nat) : Int) ∧ OF wr g off al.length c (mkF al k0 j) ∧ Wrt (Iv lo hi) w wr) (fun _ i _ => al.length - (intOf i).toNat)
  case atStart => exact ⟨0,Nat.zero_le _,rfl,rfl,HO0.out,Wrt.refl _ _⟩
  case round =>
   obtain ⟨j,hj,rfl,rfl,hO,hW⟩ := hrel
   have HO : Hid (OF wr g off al.length c (mkF al k0 j)) := hO
   have HW : Hid (Wrt (Iv lo hi) w wr) := hW
   clear HO0 hW
   by_cases hlt : j < al.length
   ·have hc := hO.cellAt hlt
    have hf := hO.free j (by have := hO.le;omega)
    have j1 : (j : Int) < (al.length : Int) := by omega
    have j0 : (0 : Int) ≤ (j : Int) := by omega
    have NO : Hid (OF (wr.setCell ⟨g,off + j,none⟩ (.bool (((k0 + j : Nat) : Int) % 3 == 0))) g off al.length c (mkF al k0 (j + 1))) := hO.set hlt _
    have NW : Hid (Wrt (Iv lo hi) w (wr.setCell ⟨g,off + j,none⟩ (.bool (((k0 + j : Nat) : Int) % 3 == 0)))) := HW.out.trans (Wrt.set wr g (off + j) _) (fun b _ e => by rw [e];exact HG.out)
    clear hO
    generalize fl (mkF al k0 j) j = old at *
    generalize hKJ : k0 + j = KJ at *
    have hkb : (KJ : Int) + 1 ≤ 9223372036854775807 := by omega
    have hkc : -9223372036854775808 ≤ (KJ : Int) + 1 := by omega
    go_wp2
    go_roundw
    case rel => exact ⟨j + 1,by omega,by go_num,by rw [show k0 + (j + 1) = KJ + 1 by omega];go_num,NO.out,NW.out⟩
    case measure => simp [intOf];omega
   ·obtain rfl : j = al.length := by omega
    have HIT : Hid (It wr [bocl (mkF al k0 al.length)] [.slice (some ⟨g,off,none⟩) al.length c] lo hi) := by
     have h3 := mkF_len al k0 al.length
     refine It.of1 (f := fun b => b = g) (ow_bocl.2 ⟨some ⟨g,off,none⟩,c,some g,by rw [h3], ?_,fun b => by simp [eq_comm]⟩) (fun b hb => by rw [hb];exact HG.out)
     rw [h3]
     exact OSo.of HO.out
    clear hO
    go_wp2
    go_ret
    exact ⟨rfl,HIT.out,HW.out⟩
end Go.Proofs.Ythioodpmgifomaa
namespace Go.Proofs.Ythioodpmgifomaa
set_option linter.unusedVariables false
set_option linter.unusedSimpArgs false
open Go.RowKit Go.Sort
set_option maxRecDepth 100000 in
set_option maxHeartbeats 1600000 in
theorem eqMl_any (A D : Ra) (x : Ml) (w : World) (hv : RwS w A x.row) (hu : RwS w D x.row) :
  Calls Try.prog 140 #[mlV A x,mlV D x] w fun e w' => e = .returned (.bool true) ∧ Below w.heap.size w w' := by
 have hB0 : Below w.heap.size w ((w.alloc (.cells #[.int .i64 x.fr,.int .i64 x.to,.int .i64 x.row.ver,.slice A.ta x.row.txt.length A.tc,.slice A.ga x.row.got.length A.gc,.slice A.sa x.row.sus.length A.sc,.bool x.row.wed,.bool x.row.rdy,.int .i64 x.row.by_,.slice A.ma x.row.trm.length A.mc] 112)).alloc (.cells #[.int .i64 x.fr,.int .i64 x.to,.int .i64 x.row.ver,.slice D.ta x.row.txt.length D.tc,.slice D.ga x.row.got.length D.gc,.slice D.sa x.row.sus.length D.sc,.bool x.row.wed,.bool x.row.rdy,.int .i64 x.row.by_,.slice D.ma x.row.trm.length D.mc] 112)) := (oneA16 w _).trans ((oneA16 _ _).mono (oneA16 w _).size)
 have hx : Bx ((w.alloc (.cells #[.int .i64 x.fr,.int .i64 x.to,.int .i64 x.row.ver,.slice A.ta x.row.txt.length A.tc,.slice A.ga x.row.got.length A.gc,.slice A.sa x.row.sus.length A.sc,.bool x.row.wed,.bool x.row.rdy,.int .i64 x.row.by_,.slice A.ma x.row.trm.length A.mc] 112)).alloc (.cells #[.int .i64 x.fr,.int .i64 x.to,.int .i64 x.row.ver,.slice D.ta x.row.txt.length D.tc,.slice D.ga x.row.got.length D.gc,.slice D.sa x.row.sus.length D.sc,.bool x.row.wed,.bool x.row.rdy,.int .i64 x.row.by_,.slice D.ma x.row.trm.length D.mc] 112)) w.heap.size 112 #[.int .i64 x.fr,.int .i64 x.to,.int .i64 x.row.ver,.slice A.ta x.row.txt.length A.tc,.slice A.ga x.row.got.length A.gc,.slice A.sa x.row.sus.length A.sc,.bool x.row.wed,.bool x.row.rdy,.int .i64 x.row.by_,.slice A.ma x.row.trm.length A.mc] := (Bx.new w _ _).alloc _
 have hy : Bx ((w.alloc (.cells #[.int .i64 x.fr,.int .i64 x.to,.int .i64 x.row.ver,.slice A.ta x.row.txt.length A.tc,.slice A.ga x.row.got.length A.gc,.slice A.sa x.row.sus.length A.sc,.bool x.row.wed,.bool x.row.rdy,.int .i64 x.row.by_,.slice A.ma x.row.trm.length A.mc] 112)).alloc (.cells #[.int .i64 x.fr,.int .i64 x.to,.int .i64 x.row.ver,.slice D.ta x.row.txt.length D.tc,.slice D.ga x.row.got.length D.gc,.slice D.sa x.row.sus.length D.sc,.bool x.row.wed,.bool x.row.rdy,.int .i64 x.row.by_,.slice D.ma x.row.trm.length D.mc] 112)) (w.heap.size + 1) 112 #[.int .i64 x.fr,.int .i64 x.to,.int .i64 x.row.ver,.slice D.ta x.row.txt.length D.tc,.slice D.ga x.row.got.length D.gc,.slice D.sa x.row.sus.length D.sc,.bool x.row.wed,.bool x.row.rdy,.int .i64 x.row.by_,.slice D.ma x.row.trm.length D.mc] := by
  have := Bx.new (w.alloc (.cells #[.int .i64 x.fr,.int .i64 x.to,.int .i64 x.row.ver,.slice A.ta x.row.txt.length A.tc,.slice A.ga x.row.got.length A.gc,.slice A.sa x.row.sus.length A.sc,.bool x.row.wed,.bool x.row.rdy,.int .i64 x.row.by_,.slice A.ma x.row.trm.length A.mc] 112)) 112 #[.int .i64 x.fr,.int .i64 x.to,.int .i64 x.row.ver,.slice D.ta x.row.txt.length D.tc,.slice D.ga x.row.got.length D.gc,.slice D.sa x.row.sus.length D.sc,.bool x.row.wed,.bool x.row.rdy,.int .i64 x.row.by_,.slice D.ma x.row.trm.length D.mc]
  simpa using this
 have hR := eqRw_any A D x.row _ (hv.below hB0) (hu.below hB0)
 unfold mlV mlC
 unfold rwV rwC at hR
 generalize hWW : (w.alloc (.cells #[.int .i64 x.fr,.int .i64 x.to,.int .i64 x.row.ver,.slice A.ta x.row.txt.length A.tc,.slice A.ga x.row.got.length A.gc,.slice A.sa x.row.sus.length A.sc,.bool x.row.wed,.bool x.row.rdy,.int .i64 x.row.by_,.slice A.ma x.row.trm.length A.mc] 112)).alloc (.cells #[.int .i64 x.fr,.int .i64 x.to,.int .i64 x.row.ver,.slice D.ta x.row.txt.length D.tc,.slice D.ga x.row.got.length D.gc,.slice D.sa x.row.sus.length D.sc,.bool x.row.wed,.bool x.row.rdy,.int .i64 x.row.by_,.slice D.ma x.row.trm.length D.mc] 112) = W at *
 have n1 : (x.fr != x.fr) = false := by simp
 have n2 : (x.to != x.to) = false := by simp
 have HB : Hid (Below w.heap.size w W) := hB0
 obtain ⟨⟨c0,c1⟩,⟨c2,c3,c4,c5⟩,c6,c7,c8,c9⟩ := Bx.r10 hx
 obtain ⟨⟨d0,d1⟩,⟨d2,d3,d4,d5⟩,d6,d7,d8,d9⟩ := Bx.r10 hy
 clear hv hu hB0 hx hy
 go_enter Try.func140,Try.ntmps140
 go_wp2_with (go_at_call 37;refine hR.mono ?_;rintro e w1 ⟨rfl,hb1⟩;have HB1 : Hid (Below w.heap.size w w1) := (HB.out.trans (hb1.mono HB.out.size));clear hb1)
 go_ret
 exact ⟨rfl,HB1.out⟩
attribute [local irreducible] sv
set_option maxRecDepth 100000 in
set_option maxHeartbeats 3200000 in
theorem eqMs_any (a a' : Option Addr) (cap cap' : Nat) (R : List Mb) (w : World) (hv : Cel.vw w (lcl 5 mb5 R) (.slice a R.length cap)) (hu : Cel.vw w (lcl 5 mb5 R) (.slice a' R.length cap')) (hf : ∀ m ∈ R,FitM m) (hm : R.length ≤ maxLen) :
  Calls Try.prog 101 #[.slice a R.length cap,.slice a' R.length cap'] w fun e w' => e = .returned (.bool true) ∧ Below w.heap.size w w' := by
 have HV : Hid (Cel.vw w (lcl 5 mb5 R) (.slice a R.length cap)) := hv
 have HU : Hid (Cel.vw w (lcl 5 mb5 R) (.slice a' R.length cap')) := hu
 have hbb : ((R.length : Int) != (R.length : Int)) = false := by simp
 unfold maxLen at hm
 clear hv hu
 go_enter Try.func101,Try.ntmps101
 go_wp2_with fail
 go_loopw [5] (fun v wr => ∃ k : Nat,k ≤ R.length ∧ v = .int .i64 (k : Int) ∧ Below w.heap.size w wr) (fun v _ => R.length - (intOf v).toNat)
 case atStart => exact ⟨0,Nat.zero_le _,rfl,Below.refl _ _⟩
 case round =>
  obtain ⟨k,hk,rfl,hb⟩ := hrel
  by_cases hlt : k < R.length
  ·have k1 : (k : Int) < (R.length : Int) := by omega
   have k0 : (0 : Int) ≤ (k : Int) := by omega
   have hkx := mbN_at hlt
   have hmem : mbN R k ∈ R := List.mem_of_getElem? hkx
   obtain ⟨g,off,hra,hpv⟩ := vw_elF mb5_len (Cel.vw_below HV.out hb) hkx
   obtain ⟨g',off',hra',hpv'⟩ := vw_elF mb5_len (Cel.vw_below HU.out hb) hkx
   obtain ⟨A,⟨d0,d1,d2,d3,d4⟩,hrs⟩ := hpv.mem (hf _ hmem)
   obtain ⟨A',⟨e0,e1,e2,e3,e4⟩,hrs'⟩ := hpv'.mem (hf _ hmem)
   subst hra hra'
   have C : ∀ q : Bk wr,Calls Try.prog 30 #[mbV A (mbN R k),mbV A' (mbN R k)] q.w fun e w' => e = .returned (.bool true) ∧ Below q.w.heap.size q.w w' := fun q => eqMb_any A A' _ q.w (hrs.below q.h) (hrs'.below q.h)
   unfold mbV mbC at C
   have T : ∀ {x v},wr.cell? x = some v → ∀ q : Bk wr,q.w.cell? x = some v := fun h q => (q.h.cell (World.block_lt_of_cell? _ _ h)).trans h
   have dp0 := T d0
   have ep0 := T e0
   have dp1 := T d1
   have ep1 := T e1
   have dp2 := T d2
   have ep2 := T e2
   have dp3 := T d3
   have ep3 := T e3
   have dp4 := T d4
   have ep4 := T e4
   have HB : Hid (Below w.heap.size w wr) := hb
   generalize mbN R k = r at *
   clear hrs hrs' hpv hpv' hb T d0 e0 d1 e1 d2 e2 d3 e3 d4 e4 hkx
   go_wp2_with fail
   refine wp_region_bk (by kernel_rfl) (by kernel_rfl) ?_
   repeat (go_big_quiet_step ((first | (go_at_call 30;exact bk_call _ (C _)) | rfl)))
   refine wpQuiet_nil ?_
   intro wE hw'
   obtain ⟨⟨w11,hb11⟩,hw''⟩ := hw'
   have hwe : wE = w11 := hw''
   clear hw''
   subst hwe
   have HB1 : Hid (Below w.heap.size w wE) := HB.out.trans (hb11.mono HB.out.size)
   clear C hb11 dp0 ep0 dp1 ep1 dp2 ep2 dp3 ep3 dp4 ep4
   go_wp2
   go_roundw
   case rel => exact ⟨k + 1,by omega,by go_num,HB1.out⟩
   case measure => simp [intOf];omega
  ·have k1 : ¬ ((k : Int) < (R.length : Int)) := by omega
   have HB : Hid (Below w.heap.size w wr) := hb
   clear hb
   go_wp2
   go_ret
   exact ⟨rfl,HB.out⟩
set_option maxRecDepth 100000 in
set_option maxHeartbeats 3200000 in
theorem eqLs_any (a a' : Option Addr) (cap cap' : Nat) (R : List Ml) (w : World) (hv : Cel.vw w (lcl 10 ml10 R) (.slice a R.length cap)) (hu : Cel.vw w (lcl 10 ml10 R) (.slice a' R.length cap')) (hf : ∀ x ∈ R,FitR x.row) (hm : R.length ≤ maxLen) :
  Calls Try.prog 103 #[.slice a R.length cap,.slice a' R.length cap'] w fun e w' => e = .returned (.bool true) ∧ Below w.heap.size w w' := by
 have HV : Hid (Cel.vw w (lcl 10 ml10 R) (.slice a R.length cap)) := hv
 have HU : Hid (Cel.vw w (lcl 10 ml10 R) (.slice a' R.length cap')) := hu
 have hbb : ((R.length : Int) != (R.length : Int)) = false := by simp
 unfold maxLen at hm
 clear hv hu
 go_enter Try.func103,Try.ntmps103
 go_wp2_with fail
 go_loopw [5] (fun v wr => ∃ k : Nat,k ≤ R.length ∧ v = .int .i64 (k : Int) ∧ Below w.heap.size w wr) (fun v _ => R.length - (intOf v).toNat)
 case atStart => exact ⟨0,Nat.zero_le _,rfl,Below.refl _ _⟩
 case round =>
  obtain ⟨k,hk,rfl,hb⟩ := hrel
  by_cases hlt : k < R.length
  ·have k1 : (k : Int) < (R.length : Int) := by omega
   have k0 : (0 : Int) ≤ (k : Int) := by omega
   have hkx := mlN_at hlt
   have hmem : mlN R k ∈ R := List.mem_of_getElem? hkx
   obtain ⟨g,off,hra,hpv⟩ := vw_elF ml10_len (Cel.vw_below HV.out hb) hkx
   obtain ⟨g',off',hra',hpv'⟩ := vw_elF ml10_len (Cel.vw_below HU.out hb) hkx
   obtain ⟨A,⟨d0,d1⟩,⟨d2,d3,d4,d5⟩,d6,d7,d8,d9,hrs⟩ := hpv.mlr (hf _ hmem)
   obtain ⟨A',⟨e0,e1⟩,⟨e2,e3,e4,e5⟩,e6,e7,e8,e9,hrs'⟩ := hpv'.mlr (hf _ hmem)
   subst hra hra'
   have C : ∀ q : Bk wr,Calls Try.prog 140 #[mlV A (mlN R k),mlV A' (mlN R k)] q.w fun e w' => e = .returned (.bool true) ∧ Below q.w.heap.size q.w w' := fun q => eqMl_any A A' _ q.w (hrs.below q.h) (hrs'.below q.h)
   unfold mlV mlC at C
   have T : ∀ {x v},wr.cell? x = some v → ∀ q : Bk wr,q.w.cell? x = some v := fun h q => (q.h.cell (World.block_lt_of_cell? _ _ h)).trans h
   have dp0 := T d0
   have ep0 := T e0
   have dp1 := T d1
   have ep1 := T e1
   have dp2 := T d2
   have ep2 := T e2
   have dp3 := T d3
   have ep3 := T e3
   have dp4 := T d4
   have ep4 := T e4
   have dp5 := T d5
   have ep5 := T e5
   have dp6 := T d6
   have ep6 := T e6
   have dp7 := T d7
   have ep7 := T e7
   have dp8 := T d8
   have ep8 := T e8
   have dp9 := T d9
   have ep9 := T e9
   have HB : Hid (Below w.heap.size w wr) := hb
   generalize mlN R k = r at *
   clear hrs hrs' hpv hpv' hb T d0 e0 d1 e1 d2 e2 d3 e3 d4 e4 d5 e5 d6 e6 d7 e7 d8 e8 d9 e9 hkx
   go_wp2_with fail
   refine wp_region_bk (by kernel_rfl) (by kernel_rfl) ?_
   repeat (go_big_quiet_step ((first | (go_at_call 140;exact bk_call _ (C _)) | rfl)))
   refine wpQuiet_nil ?_
   intro wE hw'
   obtain ⟨⟨w11,hb11⟩,hw''⟩ := hw'
   have hwe : wE = w11 := hw''
   clear hw''
   subst hwe
   have HB1 : Hid (Below w.heap.size w wE) := HB.out.trans (hb11.mono HB.out.size)
   clear C hb11 dp0 ep0 dp1 ep1 dp2 ep2 dp3 ep3 dp4 ep4 dp5 ep5 dp6 ep6 dp7 ep7 dp8 ep8 dp9 ep9
   go_wp2
   go_roundw
   case rel => exact ⟨k + 1,by omega,by go_num,HB1.out⟩
   case measure => simp [intOf];omega
  ·have k1 : ¬ ((k : Int) < (R.length : Int)) := by omega
   have HB : Hid (Below w.heap.size w wr) := hb
   clear hb
   go_wp2
   go_ret
   exact ⟨rfl,HB.out⟩
set_option maxRecDepth 100000 in
set_option maxHeartbeats 3200000 in
theorem eqGr_any (A D : Ga) (g : Gr) (w : World) (hv : GrS w A g) (hu : GrS w D g) :
  Calls Try.prog 43 #[grV A g,grV D g] w fun e w' => e = .returned (.bool true) ∧ Below w.heap.size w w' := by
 have hB0 : Below w.heap.size w ((w.alloc (.cells #[.slice A.ma g.mem.length A.mc,.slice A.ua g.up.length A.uc,.slice A.la g.mail.length A.lc] 66)).alloc (.cells #[.slice D.ma g.mem.length D.mc,.slice D.ua g.up.length D.uc,.slice D.la g.mail.length D.lc] 66)) := (oneA16 w _).trans ((oneA16 _ _).mono (oneA16 w _).size)
 have hx : Bx ((w.alloc (.cells #[.slice A.ma g.mem.length A.mc,.slice A.ua g.up.length A.uc,.slice A.la g.mail.length A.lc] 66)).alloc (.cells #[.slice D.ma g.mem.length D.mc,.slice D.ua g.up.length D.uc,.slice D.la g.mail.length D.lc] 66)) w.heap.size 66 #[.slice A.ma g.mem.length A.mc,.slice A.ua g.up.length A.uc,.slice A.la g.mail.length A.lc] := (Bx.new w _ _).alloc _
 have hy : Bx ((w.alloc (.cells #[.slice A.ma g.mem.length A.mc,.slice A.ua g.up.length A.uc,.slice A.la g.mail.length A.lc] 66)).alloc (.cells #[.slice D.ma g.mem.length D.mc,.slice D.ua g.up.length D.uc,.slice D.la g.mail.length D.lc] 66)) (w.heap.size + 1) 66 #[.slice D.ma g.mem.length D.mc,.slice D.ua g.up.length D.uc,.slice D.la g.mail.length D.lc] := by
  have := Bx.new (w.alloc (.cells #[.slice A.ma g.mem.length A.mc,.slice A.ua g.up.length A.uc,.slice A.la g.mail.length A.lc] 66)) 66 #[.slice D.ma g.mem.length D.mc,.slice D.ua g.up.length D.uc,.slice D.la g.mail.length D.lc]
  simpa using this
 have h0 := hv.below hB0
 have g0 := hu.below hB0
 have hM := eqMs_any A.ma D.ma A.mc D.mc g.mem _ h0.mem g0.mem h0.fit.1 h0.lm
 have hU : ∀ X,Below w.heap.size w X → Calls Try.prog 102 #[.slice A.ua g.up.length A.uc,.slice D.ua g.up.length D.uc] X fun e w' => e = .returned (.bool true) ∧ Below X.heap.size X w' := fun X h => (eqF_any A.ua D.ua A.uc D.uc g.up X (hv.below h).up (hu.below h).up hv.lu).mono (fun e w' h4 => ⟨h4.1,h4.2.1⟩)
 have hL : ∀ X,Below w.heap.size w X → Calls Try.prog 103 #[.slice A.la g.mail.length A.lc,.slice D.la g.mail.length D.lc] X fun e w' => e = .returned (.bool true) ∧ Below X.heap.size X w' := fun X h => eqLs_any A.la D.la A.lc D.lc g.mail X (hv.below h).mail (hu.below h).mail hv.fit.2 hv.ll
 unfold grV grC
 generalize hWW : (w.alloc (.cells #[.slice A.ma g.mem.length A.mc,.slice A.ua g.up.length A.uc,.slice A.la g.mail.length A.lc] 66)).alloc (.cells #[.slice D.ma g.mem.length D.mc,.slice D.ua g.up.length D.uc,.slice D.la g.mail.length D.lc] 66) = W at *
 have HX : Hid (Bx W w.heap.size 66 #[.slice A.ma g.mem.length A.mc,.slice A.ua g.up.length A.uc,.slice A.la g.mail.length A.lc]) := hx
 have HY : Hid (Bx W (w.heap.size + 1) 66 #[.slice D.ma g.mem.length D.mc,.slice D.ua g.up.length D.uc,.slice D.la g.mail.length D.lc]) := hy
 have HB : Hid (Below w.heap.size w W) := hB0
 obtain ⟨c0,c1,c2⟩ := Bx.g3 hx
 obtain ⟨d0,d1,d2⟩ := Bx.g3 hy
 clear hv hu h0 g0 hB0 hx hy
 go_enter Try.func43,Try.ntmps43
 go_wp2_with fail
 refine hM.mono ?_
 rintro e w1 ⟨rfl,hb1⟩
 have HB1 : Hid (Below w.heap.size w w1) := HB.out.trans (hb1.mono HB.out.size)
 have HX1 : Hid (Bx w1 w.heap.size 66 #[.slice A.ma g.mem.length A.mc,.slice A.ua g.up.length A.uc,.slice A.la g.mail.length A.lc]) := HX.out.below hb1
 have HY1 : Hid (Bx w1 (w.heap.size + 1) 66 #[.slice D.ma g.mem.length D.mc,.slice D.ua g.up.length D.uc,.slice D.la g.mail.length D.lc]) := HY.out.below hb1
 clear c0 c1 c2 d0 d1 d2 hM hb1
 obtain ⟨c0,c1,c2⟩ := Bx.g3 HX1.out
 obtain ⟨d0,d1,d2⟩ := Bx.g3 HY1.out
 go_wp2_with fail
 refine (hU _ HB1.out).mono ?_
 rintro e w2 ⟨rfl,hb2⟩
 have HB2 : Hid (Below w.heap.size w w2) := HB1.out.trans (hb2.mono HB1.out.size)
 clear c0 c1 c2 d0 d1 d2 hU
 obtain ⟨c0,c1,c2⟩ := Bx.g3 (HX1.out.below hb2)
 obtain ⟨d0,d1,d2⟩ := Bx.g3 (HY1.out.below hb2)
 clear hb2
 go_wp2_with fail
 refine (hL _ HB2.out).mono ?_
 rintro e w3 ⟨rfl,hb3⟩
 have HB3 : Hid (Below w.heap.size w w3) := HB2.out.trans (hb3.mono HB2.out.size)
 clear c0 c1 c2 d0 d1 d2 hb3 hL
 go_wp2
 go_ret
 exact ⟨rfl,HB3.out⟩
end Go.Proofs.Ythioodpmgifomaa
namespace Go.Proofs.Ythioodpmgifomaa
set_option linter.unusedVariables false
set_option linter.unusedSimpArgs false
open Go.RowKit Go.Sort
end Go.Proofs.Ythioodpmgifomaa
namespace Go.Proofs.Ythioodpmgifomaa
set_option linter.unusedVariables false
set_option linter.unusedSimpArgs false
open Go.RowKit Go.Sort
end Go.Proofs.Ythioodpmgifomaa
namespace Go.Proofs.Ythioodpmgifomaa
set_option linter.unusedVariables false
set_option linter.unusedSimpArgs false
open Go.RowKit Go.Sort
attribute [local irreducible] sv
end Go.Proofs.Ythioodpmgifomaa
namespace Go.Proofs.Ythioodpmgifomaa
set_option linter.unusedVariables false
set_option linter.unusedSimpArgs false
open Go.RowKit Go.Sort
theorem Bcm.at {w X : World} {B o : Nat} {cs : List Cel} {fp : Fp} (h : Bcm w X B o cs fp) {j : Nat} {c : Cel} (hj : cs[j]? = some c) : ∃ u f,X.cell? ⟨B,o + j,none⟩ = some u ∧ X.frozen? ⟨B,o + j,none⟩ = false ∧ Cel.ow X c u f ∧
  ∀ (X1 : World) (c' : Cel) (u' : Value) (f' : Fp),Wrt f X X1 → Cel.ow X1 c' u' f' → (∀ b,f' b → f b ∨ X.heap.size ≤ b) → X1.cell? ⟨B,o + j,none⟩ = some u ∧ X1.frozen? ⟨B,o + j,none⟩ = false ∧ Bcm w (X1.setCell ⟨B,o + j,none⟩ u') B o (cs.set j c') fp ∧ (u' = u → Bcm w X1 B o (cs.set j c') fp) := by
 obtain ⟨fp1,hp,_,hgo⟩ := h.next
 obtain ⟨u,f,h1,h2,h3,h4,h5,h6⟩ := hp.at hj
 refine ⟨u,f,h1,h2,h3,fun X1 c' u' f' hw hc hf => ?_⟩
 obtain ⟨k1,k2,k3,k4⟩ := h6 X1 c' u' f' hw hc hf
 exact ⟨k1,k2,hgo _ _ (by simp) k3,fun e => hgo _ _ (by simp) (k4 e)⟩
theorem Bcm.put {w X : World} {B o : Nat} {cs : List Cel} {fp : Fp} (h : Bcm w X B o cs fp) {j : Nat} {x : Value} (hj : cs[j]? = some (.v x)) (y : Value) : X.cell? ⟨B,o + j,none⟩ = some x ∧ X.frozen? ⟨B,o + j,none⟩ = false ∧ Bcm w (X.setCell ⟨B,o + j,none⟩ y) B o (cs.set j (.v y)) fp := by
 obtain ⟨u,f,h1,h2,⟨rfl,_⟩,h4⟩ := h.at hj
 exact ⟨h1,h2,(h4 X (.v y) y (fun _ => False) (Wrt.refl _ _) ⟨rfl,fun _ h => h⟩ (fun b hb => hb.elim)).2.2.1⟩
def m3 (k : Int) : Bool := k % 3 == 0
def mk8 (r : Rw) (k : Nat) : Rw :=
 { ver := (k : Int),txt := marksS r.txt.length (k + 1),got := marks r.got.length (k + 1 + r.txt.length),sus := marks r.sus.length (k + 1 + r.txt.length + r.got.length),wed := m3 ((k + 1 + r.txt.length + r.got.length + r.sus.length : Nat) : Int),rdy := m3 (((k + 1 + r.txt.length + r.got.length + r.sus.length : Nat) : Int) + 1),by_ := ((k + 1 + r.txt.length + r.got.length + r.sus.length : Nat) : Int) + 1 + 1,trm := marks r.trm.length (k + 1 + r.txt.length + r.got.length + r.sus.length + 1 + 1 + 1) }
def cnt8 (r : Rw) : Nat := 1 + r.txt.length + r.got.length + r.sus.length + 1 + 1 + 1 + r.trm.length
def cP (R : List Rw) (k : Nat) : Nat := ((R.take k).map cnt8).sum
theorem cP_next {R : List Rw} {k : Nat} (hk : k < R.length) : cP R (k + 1) = cP R k + cnt8 (rowN R k) := by
 have e : rowN R k = R[k] := by simp [rowN,List.getD,hk]
 unfold cP
 rw [List.take_succ_eq_append_getElem hk,List.map_append,List.sum_append,e]
 simp
theorem cP_mono (R : List Rw) {a b : Nat} (h : a ≤ b) : cP R a ≤ cP R b := by
 unfold cP
 obtain ⟨c,rfl⟩ := Nat.exists_eq_add_of_le h
 rw [List.take_add,List.map_append,List.sum_append]
 omega
def mkP (R : List Rw) (k : Nat) : Nat → List Rw
 | 0 => R
 | j + 1 => (mkP R k j).set j (mk8 (rowN R j) (k + cP R j))
theorem mkP_len (R : List Rw) (k : Nat) : ∀ j,(mkP R k j).length = R.length
 | 0 => rfl
 | j + 1 => by rw [mkP,List.length_set,mkP_len R k j]
theorem mkP_row {R : List Rw} {k : Nat} : ∀ {j i : Nat},j ≤ R.length → rowN (mkP R k j) i = if i < j then mk8 (rowN R i) (k + cP R i) else rowN R i
 | 0,i,_ => by simp [mkP]
 | j + 1,i,h => by
  rw [mkP,rowN_set (by rw [mkP_len];omega),mkP_row (by omega)]
  by_cases e : i = j
  ·subst e;rw [if_pos rfl,if_pos (by omega)]
  ·rw [if_neg e]
   by_cases h2 : i < j
   ·rw [if_pos h2,if_pos (by omega)]
   ·rw [if_neg h2,if_neg (by omega)]
set_option maxRecDepth 100000 in
set_option maxHeartbeats 6400000 in
theorem markRs_ow (a : Option Addr) (cap k0 : Nat) (R : List Rw) (fp : Fp) (w : World) (h : Cel.ow w (lcl 8 rw8 R) (.slice a R.length cap) fp) (hk1 : 1 ≤ k0) (hk : k0 + cP R R.length ≤ 10000000) (hm : R.length ≤ maxLen) :
  Calls Try.prog 79 #[.slice a R.length cap,.int .i64 (k0 : Int)] w fun e w' => e = .returned (.int .i64 ((k0 + cP R R.length : Nat) : Int)) ∧ ∃ fp',Cel.ow w' (lcl 8 rw8 (mkP R k0 R.length)) (.slice a R.length cap) fp' ∧ (∀ b,fp' b → fp b ∨ w.heap.size ≤ b) ∧ Wrt fp w w' := by
 unfold maxLen at hm
 have HH : Hid (Cel.ow w (lcl 8 rw8 R) (.slice a R.length cap) fp) := h
 clear h
 go_enter Try.func79,Try.ntmps79
 go_wp2_with fail
 go_loopw [1,5] (fun kv v wr => ∃ (j K : Nat) (fpj : Fp),j ≤ R.length ∧ v = .int .i64 (j : Int) ∧ kv = .int .i64 (K : Int) ∧ Hid (K = k0 + cP R j) ∧ Cel.ow wr (lcl 8 rw8 (mkP R k0 j)) (.slice a R.length cap) fpj ∧ (∀ b,fpj b → fp b ∨ w.heap.size ≤ b) ∧ Wrt fp w wr) (fun _ v _ => R.length - (intOf v).toNat)
 case atStart => exact ⟨0,k0,fp,Nat.zero_le _,rfl,rfl,by simp [Hid,cP],HH.out,fun b hb => .inl hb,Wrt.refl _ _⟩
 case round =>
  obtain ⟨j,K0,fpj,hj,rfl,rfl,hK,ho,hfj,hwj⟩ := hrel
  have HWj : Hid (Wrt fp w wr) := hwj
  have HFj : Hid (∀ b,fpj b → fp b ∨ w.heap.size ≤ b) := hfj
  by_cases hlt : j < R.length
  ·have j1 : (j : Int) < (R.length : Int) := by omega
   have j0 : (0 : Int) ≤ (j : Int) := by omega
   have hlen := mkP_len R k0 j
   have hat : (mkP R k0 j)[j]? = some (rowN R j) := by
    have := mkP_row (k := k0) (i := j) hj
    rw [if_neg (Nat.lt_irrefl _)] at this
    rw [← this]
    simp [rowN,List.getD,hlen,hlt]
   rw [← hlen] at ho
   obtain ⟨g,off,f,rfl,hfg,hfs,hP,hglt,hput⟩ := ow_elF rw8_len (by omega) ho hat
   have hput := fun X => hput X (mk8 (rowN R j) (k0 + cP R j))
   rw [show (mkP R k0 j).set j (mk8 (rowN R j) (k0 + cP R j)) = mkP R k0 (j + 1) from rfl,hlen] at hput
   rw [← hK.out] at hput
   have hKb : K0 + cnt8 (rowN R j) ≤ 10000000 := by
    have h1 := cP_mono R (show j + 1 ≤ R.length from hlt)
    rw [cP_next hlt] at h1
    have := hK.out
    omega
   have HKn : Hid (K0 + cnt8 (rowN R j) = k0 + cP R (j + 1)) := by rw [Hid,cP_next hlt,hK.out];omega
   have hK1 : 1 ≤ K0 := by have := hK.out;omega
   have HPut : Hid (∀ X,Bcm wr X g (off + j * 8) (rw8 (mk8 (rowN R j) K0)) f → ∃ fp',Cel.ow X (lcl 8 rw8 (mkP R k0 (j + 1))) (.slice (some ⟨g,off,none⟩) R.length cap) fp' ∧ (∀ b,fp' b → fpj b ∨ wr.heap.size ≤ b) ∧ Wrt fpj wr X) := hput
   have B0 : Bcm wr wr g (off + j * 8) (rw8 (rowN R j)) f := Bcm.refl hP
   clear ho hput hP hat hlen hfj hwj hK hfs
   generalize rowN R j = r at *
   obtain ⟨v0,z0,B1⟩ := B0.put (j := 0) (x := .int .i64 r.ver) rfl (.int .i64 (K0 : Int))
   simp only [Nat.add_zero] at v0 z0 B1
   have HB1 : Hid (Bcm wr (wr.setCell ⟨g,off + j * 8,none⟩ (.int .i64 (K0 : Int))) g (off + j * 8) ((rw8 r).set 0 (.v (.int .i64 (K0 : Int)))) f) := B1
   unfold cnt8 at hKb
   obtain ⟨Ka,hKa⟩ : ∃ Ka : Nat,Hid (Ka = K0 + 1) := ⟨_,rfl⟩
   have eKa : (Ka : Int) = (K0 : Int) + 1 := by have := hKa.out;omega
   obtain ⟨u1,f1,t1,_,ho1,hp1⟩ := B1.at (j := 1) (c := scl r.txt) rfl
   have hM1 := markS_ow u1 Ka r.txt f1 _ ho1 (by have := hKa.out;omega) (by have := hKa.out;omega) (by omega)
   clear B0 B1 ho1
   obtain ⟨K2,hK2⟩ : ∃ K2 : Nat,Hid (K2 = Ka + r.txt.length) := ⟨_,rfl⟩
   have eK2 : (Ka : Int) + (r.txt.length : Int) = (K2 : Int) := by have := hK2.out;omega
   rw [eK2,eKa] at hM1
   go_wp2_with fail
   refine hM1.mono ?_
   rintro e X1 ⟨rfl,hm1,hw1⟩
   have B2 := (hp1 X1 _ u1 f1 hw1 hm1 (fun b hb => .inl hb)).2.2.2 rfl
   clear hM1 hp1 hm1 hw1 t1 v0 z0 eKa eK2
   obtain ⟨u2,f2,t2,_,ho2,hp2⟩ := B2.at (j := 2) (c := icl r.got) rfl
   have hM2 := markI_ow u2 K2 r.got f2 _ ho2 (by have := hKa.out;have := hK2.out;omega) (by omega)
   obtain ⟨K3,hK3⟩ : ∃ K3 : Nat,Hid (K3 = K2 + r.got.length) := ⟨_,rfl⟩
   have eK3 : (K2 : Int) + (r.got.length : Int) = (K3 : Int) := by have := hK3.out;omega
   rw [eK3] at hM2
   clear B2 ho2
   go_wp2_with fail
   refine hM2.mono ?_
   rintro e X2 ⟨rfl,hm2,hw2⟩
   have B3 := (hp2 X2 _ u2 f2 hw2 hm2 (fun b hb => .inl hb)).2.2.2 rfl
   clear hM2 hp2 hm2 hw2 t2 eK3
   obtain ⟨u3,f3,t3,_,ho3,hp3⟩ := B3.at (j := 3) (c := icl r.sus) rfl
   have hM3 := markI_ow u3 K3 r.sus f3 _ ho3 (by have := hKa.out;have := hK2.out;have := hK3.out;omega) (by omega)
   obtain ⟨K4,hK4⟩ : ∃ K4 : Nat,Hid (K4 = K3 + r.sus.length) := ⟨_,rfl⟩
   have eK4 : (K3 : Int) + (r.sus.length : Int) = (K4 : Int) := by have := hK4.out;omega
   rw [eK4] at hM3
   clear B3 ho3
   go_wp2_with fail
   refine hM3.mono ?_
   rintro e X3 ⟨rfl,hm3,hw3⟩
   have B4 := (hp3 X3 _ u3 f3 hw3 hm3 (fun b hb => .inl hb)).2.2.2 rfl
   clear hM3 hp3 hm3 hw3 t3 eK4
   have hK4b : K4 + 3 ≤ K0 + (1 + r.txt.length + r.got.length + r.sus.length + 1 + 1 + 1 + r.trm.length) := by have := hKa.out;have := hK2.out;have := hK3.out;have := hK4.out;omega
   obtain ⟨v4,z4,B5⟩ := B4.put (j := 4) (x := .bool r.wed) rfl (.bool ((K4 : Int) % 3 == 0))
   obtain ⟨v5,z5,B6⟩ := B5.put (j := 5) (x := .bool r.rdy) rfl (.bool (((K4 : Int) + 1) % 3 == 0))
   obtain ⟨v6,z6,B7⟩ := B6.put (j := 6) (x := .int .i64 r.by_) rfl (.int .i64 ((K4 : Int) + 1 + 1))
   obtain ⟨u7,f7,t7,_,ho7,hp7⟩ := B7.at (j := 7) (c := icl r.trm) rfl
   obtain ⟨K7,hK7⟩ : ∃ K7 : Nat,Hid (K7 = K4 + 1 + 1 + 1) := ⟨_,rfl⟩
   have eK7 : (K7 : Int) = (K4 : Int) + 1 + 1 + 1 := by have := hK7.out;omega
   have hM7 := markI_ow u7 K7 r.trm f7 _ ho7 (by have := hK7.out;omega) (by omega)
   obtain ⟨K8,hK8⟩ : ∃ K8 : Nat,Hid (K8 = K7 + r.trm.length) := ⟨_,rfl⟩
   have eK8 : (K7 : Int) + (r.trm.length : Int) = (K8 : Int) := by have := hK8.out;omega
   rw [eK8,eK7] at hM7
   have HK8 : Hid (K8 = k0 + cP R (j + 1)) := by
    have h1 := HKn.out
    unfold cnt8 at h1
    have := hKa.out;have := hK2.out;have := hK3.out;have := hK4.out;have := hK7.out;have := hK8.out
    rw [Hid]
    omega
   have wj : wrap64 ((j : Int) + 1) = (j : Int) + 1 := by unfold wrap64;omega
   clear B4 B5 B6 B7 ho7 HB1 eK8 eK7
   go_wp2_with fail
   refine hM7.mono ?_
   rintro e X7 ⟨rfl,hm7,hw7⟩
   have B8 := (hp7 X7 _ u7 f7 hw7 hm7 (fun b hb => .inl hb)).2.2.2 rfl
   have hE : rw8 (mk8 r K0) = (((((((((rw8 r).set 0 (.v (.int .i64 (K0 : Int)))).set 1 (scl (marksS r.txt.length Ka))).set 2 (icl (marks r.got.length K2))).set 3 (icl (marks r.sus.length K3))).set 4 (.v (.bool ((K4 : Int) % 3 == 0)))).set 5 (.v (.bool (((K4 : Int) + 1) % 3 == 0)))).set 6 (.v (.int .i64 ((K4 : Int) + 1 + 1)))).set 7 (icl (marks r.trm.length K7))) := by
    rw [hK7.out,hK4.out,hK3.out,hK2.out,hKa.out]
    rfl
   rw [← hE] at B8
   obtain ⟨fp',n1,n2,n3⟩ := HPut.out X7 B8
   have HN1 : Hid (Cel.ow X7 (lcl 8 rw8 (mkP R k0 (j + 1))) (.slice (some ⟨g,off,none⟩) R.length cap) fp') := n1
   have HN2 : Hid (∀ b,fp' b → fpj b ∨ wr.heap.size ≤ b) := n2
   have HN3 : Hid (Wrt fpj wr X7) := n3
   clear hM7 hp7 hm7 hw7 t7 v4 z4 v5 z5 v6 z6 B8 hE n1 n2 n3 HPut
   have hws := HWj.out.size
   clear hKb hK4b hk hK1 hk1
   go_wp2
   go_roundw
   case rel => exact ⟨j + 1,K8,fp',by omega,by go_num,rfl,HK8,HN1.out,fun b hb => by
    rcases HN2.out b hb with h | h
    ·exact HFj.out b h
    ·exact .inr (by omega),HWj.out.trans HN3.out (fun b hb h => by
     rcases HFj.out b h with h | h
     ·exact h
     ·omega)⟩
   case measure => simp [intOf];omega
  ·obtain rfl : j = R.length := by omega
   have k1 : ¬ ((R.length : Int) < (R.length : Int)) := by omega
   have HE : Hid (Cel.ow wr (lcl 8 rw8 (mkP R k0 R.length)) (.slice a R.length cap) fpj) := ho
   clear ho hfj hwj hk hk1
   go_wp2
   go_ret
   exact ⟨ret_int (by rw [hK.out];omega),fpj,HE.out,HFj.out,HWj.out⟩
end Go.Proofs.Ythioodpmgifomaa