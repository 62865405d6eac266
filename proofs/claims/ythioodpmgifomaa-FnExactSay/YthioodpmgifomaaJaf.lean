/-
  Texts in one: Mcq Mct Ozr Omb Lgh Opg Nma Nmb Ivk Nmd Cln Nmg.
-/
import Derived.Test.YthioodpmgifomaaJae
import Derived.Test.YthioodpmgifomaaJac
import Derived.Test.YthioodpmgifomaaJab
import Derived.Test.YthioodpmgifomaaJaa
import Derived.Test.YthioodpmgifomaaJad
import Derived.Deep.RegionHeld3
import Derived.Lib.SmallJoins
import Derived.OpenShut
import Derived.ChangeOld
import Derived.ShutString
import Derived.Deep.Matrix
import Derived.Deep.Slices
import Derived.Deep.Strs
import Derived.Deep.Grids
import Derived.Defers
import Derived.Recover
import Derived.Shelf.Strconv.Clone
import Derived.Shelf.SlGeneric
import Derived.Lib.SliceRun
namespace Go.Proofs.Ythioodpmgifomaa
set_option linter.unusedVariables false
set_option linter.unusedSimpArgs false
open Go.RowKit Go.Sort
def Mb64 (m : Mb) : Prop := I64v m.id ∧ I64v m.n ∧ ∀ r ∈ m.rows,Rw64 r
structure MbP (w : World) (A : Ma) (m : Mb) : Prop where
 own : ∃ f,owL w (mbCels m) (mbVals A m) f
 fit : FitM m
 i64 : Mb64 m
 sz : szMb m ≤ 1048576
theorem MbS.fitM {w : World} {A : Ma} {m : Mb} (h : MbS w A m) : FitM m := ⟨h.fit,h.sung.2.1⟩
theorem it_mbs {w : World} {A : Ma} {m : Mb} {lo hi : Nat} (h : It w (mbCels m) (mbVals A m) lo hi) (hf : FitM m) : MbS w A m := mbs_of h.vw hf
theorem it_mbp {w : World} {A : Ma} {m : Mb} {lo hi : Nat} (h : It w (mbCels m) (mbVals A m) lo hi) (hf : FitM m) (h6 : Mb64 m) (hs : szMb m ≤ 1048576) : MbP w A m := ⟨h.imp (fun _ h => h.1),hf,h6,hs⟩
theorem AnsMb.it {w w' : World} {e : Ending} {m : Mb} (h : AnsMb w w' e m) : ∃ A,e = .returned (mbV A m) ∧ It w' (mbCels m) (mbVals A m) w.heap.size w'.heap.size ∧ Below w.heap.size w w' := by
 obtain ⟨A,h1,h2⟩ := h
 exact ⟨A,h1,It.of_new h2,h2.choose_spec.2.2⟩
theorem AnsMf.it {w w' : World} {e : Ending} {m : Mb} {b : Bool} (h : AnsMf w w' e m b) : ∃ A,e = .returned (.tuple #[mbV A m,.bool b]) ∧ It w' (mbCels m) (mbVals A m) w.heap.size w'.heap.size ∧ Below w.heap.size w w' := by
 obtain ⟨A,h1,h2⟩ := h
 exact ⟨A,h1,It.of_new h2,h2.choose_spec.2.2⟩
def ImplSay : Prop := ∀ (A : Ma) (m : Mb) (t : List UInt8) (w : World),MbP w A m → t.length ≤ 1048576 → Calls Try.prog 29 #[mbV A m,.string (sv t)] w fun e w' => AnsMf w w' e (sayM m t).1 (sayM m t).2
theorem cnt8_le (r : Rw) : cnt8 r ≤ 4 + szRw r := by unfold cnt8 szRw;omega
theorem cP_le (R : List Rw) : ∀ k,k ≤ R.length → cP R k ≤ 4 * k + szP R k
 | 0,_ => by simp [cP]
 | k + 1,h => by
  have ih := cP_le R k (by omega)
  have := cnt8_le (rowN R k)
  rw [cP_next (by omega),szP_next (by omega)]
  omega
theorem cntMb_le4 (m : Mb) : cntMb m ≤ 4 * szMb m := by
 have := cP_le m.rows m.rows.length (Nat.le_refl _)
 unfold cntMb szMb szRs
 omega
theorem cntMb_le {m : Mb} {k : Nat} (hs : szMb m ≤ 1048576) (hk : k ≤ 1) : k + cntMb m ≤ 10000000 := by
 have := cntMb_le4 m
 omega
theorem rows_le {m : Mb} (hs : szMb m ≤ 1048576) : m.rows.length ≤ maxLen := by unfold szMb szRs at hs;unfold maxLen;omega
def SmM (m : Mb) : Prop := FitM m ∧ cntMb m ≤ 1000 ∧ m.rows.length ≤ 5 ∧ szMb m ≤ 100000
theorem sum_le (F : Rw → Nat) (c : Nat) : ∀ (R : List Rw),(∀ r ∈ R,F r ≤ c) → (R.map F).sum ≤ c * R.length
 | [],_ => by simp
 | r :: R,h => by
  have ih := sum_le F c R (fun x hx => h x (List.mem_cons_of_mem _ hx))
  have h1 := h r List.mem_cons_self
  rw [List.map_cons,List.sum_cons,List.length_cons,Nat.mul_succ]
  omega
theorem OkR.c8 {r : Rw} {n : Nat} (h : OkR r n) : cnt8 r ≤ 31 ∧ szRw r ≤ 300 := by
 have h5 := h.n5
 have h1 := h.gl
 have h2 := h.sl
 have h3 := h.ml
 have h4 := h.tl
 have h6 : totS r.txt r.txt.length ≤ r.txt.length * 20 := totS_le (fun i hi => h.ts _ (by rw [List.getD_eq_getElem?_getD,List.getElem?_eq_getElem hi];exact List.getElem_mem hi)) _ (Nat.le_refl _)
 unfold cnt8 szRw
 omega
theorem OkM.small {m : Mb} {i n : Nat} (h : OkM m i n) : SmM m := by
 have h5 := h.n5
 have hl := h.len
 have hs := h.sl
 have e1 : cP m.rows m.rows.length ≤ 31 * m.rows.length := by
  unfold cP
  rw [List.take_length]
  exact sum_le cnt8 31 m.rows (fun r hr => (h.rowOk r hr).c8.1)
 have e2 : szP m.rows m.rows.length ≤ 300 * m.rows.length := by
  unfold szP
  rw [List.take_length]
  exact sum_le szRw 300 m.rows (fun r hr => (h.rowOk r hr).c8.2)
 refine ⟨h.fit, ?_,by omega, ?_⟩
 ·unfold cntMb;omega
 ·unfold szMb szRs;omega
theorem zeroMb_small : SmM zeroMb := ⟨⟨fun r hr => absurd hr List.not_mem_nil,fun x hx => absurd hx List.not_mem_nil⟩,by simp [cntMb,cP,zeroMb],by simp [zeroMb],by simp [szMb,szRs,szP,zeroMb]⟩
theorem sayM_small (m : Mb) (t : List UInt8) : SmM (sayM m t).1 := by
 unfold sayM
 split
 ·rename_i h;obtain ⟨i,n,ok⟩ := okMb_iff.1 h;exact (say_loc ok t).1.small
 ·exact zeroMb_small
attribute [local irreducible] sv
end Go.Proofs.Ythioodpmgifomaa
namespace Go.Proofs.Ythioodpmgifomaa
set_option linter.unusedVariables false
set_option linter.unusedSimpArgs false
open Go.RowKit Go.Sort
attribute [local irreducible] sv
set_option maxRecDepth 100000 in
set_option maxHeartbeats 6400000 in
theorem lawSay (hI : ImplSay) (A0 : Ma) (m : Mb) (t : List UInt8) (w : World) (hv0 : MbS w A0 m) (hg0 : ∀ r ∈ m.rows,LongT r.txt) (h60 : Mb64 m) (hs1t : t.length ≤ 9223372036854775807) :
  Calls Try.prog 4 #[mbV A0 m,.string (sv t)] w fun e w' => e = .returned (.bool true) ∧ Below w.heap.size w w' := by
 have hf0 : FitM m := hv0.fitM
 have hZ0 : ∀ (X : World) (left : Int),Below w.heap.size w X → (0 ≤ left ∧ left ≤ 1048576) → Calls Try.prog 26 #[mbV A0 m,.int .i64 left] X fun e w' => ∃ q : Int,e = .returned (.int .i64 q) ∧ (q = -1 ∨ 0 ≤ q ∧ q + (szMb m : Int) = left) ∧ Below X.heap.size X w' := fun X left hX hl => szMb_any A0 m left X (hv0.below hX) hg0 hl
 have hTo0 : szMb m ≤ 1048576 → ∀ X,Below w.heap.size w X → Calls Try.prog 28 #[mbV A0 m] X fun e w' => ∃ A',e = .returned (mbV A' m) ∧ It w' (mbCels m) (mbVals A' m) X.heap.size w'.heap.size ∧ Below X.heap.size X w' := fun hs X hX => (toMb_any A0 m X (hv0.below hX) hs).mono (fun e w' h => h.it)
 have hE0 : szMb m ≤ 1048576 → ∀ (X : World) (A1 A2 : Ma) {l1 h1 l2 h2 : Nat},It X (mbCels m) (mbVals A1 m) l1 h1 → It X (mbCels m) (mbVals A2 m) l2 h2 → Calls Try.prog 30 #[mbV A1 m,mbV A2 m] X fun e w' => e = .returned (.bool true) ∧ Below X.heap.size X w' := fun hs X A1 A2 l1 h1 l2 h2 i1 i2 => eqMb_any A1 A2 m X (it_mbs i1 hf0) (it_mbs i2 hf0)
 have hsz1 := sv_size t
 by_cases hlt1 : t.length ≤ 1048576
 rotate_left
 ·have hs2 : (1048576 : Int) < (t.length : Int) := by omega
  clear hI hZ0 hTo0 hE0 hv0
  unfold mbV mbC at *
  have hB0 : Below w.heap.size w (w.alloc (.cells #[.int .i64 m.id,.int .i64 m.n,.slice A0.ra m.rows.length A0.rc,.slice A0.sa m.sung.length A0.sc,.bool m.done] 35)) := oneA16 w _
  generalize hWW : (w.alloc (.cells #[.int .i64 m.id,.int .i64 m.n,.slice A0.ra m.rows.length A0.rc,.slice A0.sa m.sung.length A0.sc,.bool m.done] 35)) = WW at *
  go_enter Try.func4,Try.ntmps4
  go_wp2
  go_ret
  exact ⟨rfl,hB0⟩
 have hSp : szMb m ≤ 1048576 → ∀ (X : World) (B0 : Ma) {l0 u0 : Nat},It X (mbCels m) (mbVals B0 m) l0 u0 → Calls Try.prog 27 #[mbV B0 m,.string (sv t)] X fun e w' => ∃ A',e = .returned (.tuple #[mbV A' ((sayM m t).1),.bool (sayM m t).2]) ∧ It w' (mbCels ((sayM m t).1)) (mbVals A' ((sayM m t).1)) X.heap.size w'.heap.size ∧ Below X.heap.size X w' := fun hs0 X B0 l0 u0 i0 => (sayS_any B0 m t X (it_mbs i0 hf0) (by omega)).mono (fun e w' h => h.it)
 have hIm : szMb m ≤ 1048576 → ∀ (X : World) (B0 : Ma) {l0 u0 : Nat},It X (mbCels m) (mbVals B0 m) l0 u0 → Calls Try.prog 29 #[mbV B0 m,.string (sv t)] X fun e w' => ∃ A',e = .returned (.tuple #[mbV A' ((sayM m t).1),.bool (sayM m t).2]) ∧ It w' (mbCels ((sayM m t).1)) (mbVals A' ((sayM m t).1)) X.heap.size w'.heap.size ∧ Below X.heap.size X w' := fun hs0 X B0 l0 u0 i0 => (hI B0 m t X (it_mbp i0 hf0 h60 hs0) hlt1).mono (fun e w' h => h.it)
 obtain ⟨hfZ,hcZ,hrZ,hsZ⟩ := sayM_small m t
 generalize (sayM m t) = ZZ at *
 obtain ⟨Z,ok⟩ := ZZ
 simp only at *
 have hok : (ok != ok) = false := by cases ok <;> rfl
 obtain ⟨N,hN⟩ : ∃ N : Int,Hid (N = ((1 + cntMb Z : Nat) : Int)) := ⟨_,rfl⟩
 have hN0 : decide (N < 0) = false := by rw [hN.out];simp;omega
 have hNN : (N != N) = false := by simp
 have hEz : ∀ (X : World) (A1 A2 : Ma) {l1 h1 l2 h2 : Nat},It X (mbCels Z) (mbVals A1 Z) l1 h1 → It X (mbCels Z) (mbVals A2 Z) l2 h2 → Calls Try.prog 30 #[mbV A1 Z,mbV A2 Z] X fun e w' => e = .returned (.bool true) ∧ Below X.heap.size X w' := fun X A1 A2 l1 h1 l2 h2 i1 i2 => eqMb_any A1 A2 Z X (it_mbs i1 hfZ) (it_mbs i2 hfZ)
 have hMz : ∀ (X : World) (A1 : Ma) (lo hi : Nat),It X (mbCels Z) (mbVals A1 Z) lo hi → lo ≤ X.heap.size → hi ≤ X.heap.size → Calls Try.prog 31 #[mbV A1 Z,.int .i64 1] X fun e w' => e = .returned (.int .i64 N) ∧ It w' (mbCels (mkMb Z 1)) (mbVals A1 Z) lo w'.heap.size ∧ Wrt (Iv lo hi) X w' := fun X A1 lo hi i hlo hh => by rw [hN.out];exact markMb_it A1 Z 1 lo hi X i hlo hh (by omega) (by omega) (by unfold maxLen;omega)
 have hHz : ∀ (X : World) (A1 : Ma) (lo hi : Nat),It X (mbCels (mkMb Z 1)) (mbVals A1 Z) lo hi → Calls Try.prog 32 #[mbV A1 Z,.int .i64 1] X fun e w' => e = .returned (.int .i64 N) ∧ Below X.heap.size X w' := fun X A1 lo hi i => by rw [hN.out];exact heldMb_it A1 Z 1 lo hi X i (by omega) (by omega) (by unfold maxLen;omega)
 obtain ⟨K0,hK0⟩ : ∃ K : Nat,Hid (K = 1 + cntMb m) := ⟨_,rfl⟩
 have hMx0 : szMb m ≤ 1048576 → ∀ (X : World) (A1 : Ma) (lo hi : Nat),It X (mbCels m) (mbVals A1 m) lo hi → lo ≤ X.heap.size → hi ≤ X.heap.size → Calls Try.prog 31 #[mbV A1 m,.int .i64 1] X fun e w' => e = .returned (.int .i64 (K0 : Int)) ∧ It w' (mbCels (mkMb m 1)) (mbVals A1 m) lo w'.heap.size ∧ Wrt (Iv lo hi) X w' := fun hs0 X A1 lo hi i hlo hh => by rw [hK0.out];exact markMb_it A1 m 1 lo hi X i hlo hh (by omega) (cntMb_le hs0 (by omega)) (rows_le hs0)
 have hKn0 : decide ((K0 : Int) < 0) = false := by simp
 clear hI hv0
 unfold mbV mbC at *
 have hb00 : Below w.heap.size w w := Below.refl _ _
 have b2 := oneA16 w (.cells #[.int .i64 m.id,.int .i64 m.n,.slice A0.ra m.rows.length A0.rc,.slice A0.sa m.sung.length A0.sc,.bool m.done] 35)
 have h3 := Bx.new w 35 #[.int .i64 m.id,.int .i64 m.n,.slice A0.ra m.rows.length A0.rc,.slice A0.sa m.sung.length A0.sc,.bool m.done]
 generalize hX1 : w.alloc (.cells #[.int .i64 m.id,.int .i64 m.n,.slice A0.ra m.rows.length A0.rc,.slice A0.sa m.sung.length A0.sc,.bool m.done] 35) = X1 at *
 have B5 : Below w.heap.size w X1 := hb00.trans (b2.mono hb00.size)
 have sB5 : w.heap.size ≤ X1.heap.size := b2.size
 clear hb00
 have k4 : w.heap.size < X1.heap.size := h3.lt
 clear b2
 go_enter Try.func4,Try.ntmps4
 obtain ⟨c60,c61,c62,c63,c64⟩ := Bx.r5 h3
 go_wp2_with fail
 refine (hZ0 X1 1048576 B5 ⟨by omega,by omega⟩).mono ?_
 rintro e z0 ⟨q0,rfl,hq0,hbz0⟩
 clear c60 c61 c62 c63 c64
 have B7 : Below w.heap.size w z0 := B5.trans (hbz0.mono B5.size)
 have sB7 : X1.heap.size ≤ z0.heap.size := hbz0.size
 have h8 := h3.below hbz0
 clear B5 h3
 rcases hq0 with rfl | ⟨hqa0,hqb0⟩
 ·go_wp2
  go_ret
  exact ⟨rfl,B7⟩
 have hqn0 : decide (q0 < 0) = false := by simp;omega
 have hs0 : szMb m ≤ 1048576 := by omega
 have hT0 := hTo0 hs0
 have hEE0 := hE0 hs0
 have hMM0 := hMx0 hs0
 have hS2 := hSp hs0
 have hI2 := hIm hs0
 clear hSp hIm hTo0 hE0 hZ0 hMx0
 obtain ⟨c90,c91,c92,c93,c94⟩ := Bx.r5 h8
 go_wp2_with fail
 refine (hT0 z0 B7).mono ?_
 rintro e s0 ⟨As0,rfl,is0,hbs0⟩
 clear c90 c91 c92 c93 c94
 have B10 : Below w.heap.size w s0 := B7.trans (hbs0.mono B7.size)
 have sB10 : z0.heap.size ≤ s0.heap.size := hbs0.size
 have h11 := h8.below hbs0
 clear B7 h8
 go_wp2_with fail
 refine (hS2 s0 _ is0).mono ?_
 rintro e ws ⟨Av,rfl,iv,hbv⟩
 have B12 : Below w.heap.size w ws := B10.trans (hbv.mono B10.size)
 have sB12 : s0.heap.size ≤ ws.heap.size := hbv.size
 have h13 := h11.below hbv
 have h14 := is0.below hbv
 clear B10 h11 is0
 have b16 := oneA16 ws (.cells #[.int .i64 Z.id,.int .i64 Z.n,.slice Av.ra Z.rows.length Av.rc,.slice Av.sa Z.sung.length Av.sc,.bool Z.done] 39)
 have h17 := Bx.new ws 39 #[.int .i64 Z.id,.int .i64 Z.n,.slice Av.ra Z.rows.length Av.rc,.slice Av.sa Z.sung.length Av.sc,.bool Z.done]
 generalize hX15 : ws.alloc (.cells #[.int .i64 Z.id,.int .i64 Z.n,.slice Av.ra Z.rows.length Av.rc,.slice Av.sa Z.sung.length Av.sc,.bool Z.done] 39) = X15 at *
 have B19 : Below w.heap.size w X15 := B12.trans (b16.mono B12.size)
 have sB19 : ws.heap.size ≤ X15.heap.size := b16.size
 have h20 := h13.below b16
 have h21 := h14.below b16
 have h22 := iv.below b16
 clear B12 h13 h14 iv
 have k18 : ws.heap.size < X15.heap.size := h17.lt
 clear b16
 clear h21
 obtain ⟨c230,c231,c232,c233,c234⟩ := Bx.r5 h20
 go_wp2_with fail
 refine (hT0 X15 B19).mono ?_
 rintro e wx0 ⟨Ax0,rfl,ix0,hbx0⟩
 clear c230 c231 c232 c233 c234
 have B24 : Below w.heap.size w wx0 := B19.trans (hbx0.mono B19.size)
 have sB24 : X15.heap.size ≤ wx0.heap.size := hbx0.size
 have h25 := h20.below hbx0
 have h26 := h22.below hbx0
 have h27 := h17.below hbx0
 clear B19 h20 h22 h17
 have b29 := oneA16 wx0 (.cells #[.int .i64 m.id,.int .i64 m.n,.slice Ax0.ra m.rows.length Ax0.rc,.slice Ax0.sa m.sung.length Ax0.sc,.bool m.done] 39)
 have h30 := Bx.new wx0 39 #[.int .i64 m.id,.int .i64 m.n,.slice Ax0.ra m.rows.length Ax0.rc,.slice Ax0.sa m.sung.length Ax0.sc,.bool m.done]
 generalize hX28 : wx0.alloc (.cells #[.int .i64 m.id,.int .i64 m.n,.slice Ax0.ra m.rows.length Ax0.rc,.slice Ax0.sa m.sung.length Ax0.sc,.bool m.done] 39) = X28 at *
 have B32 : Below w.heap.size w X28 := B24.trans (b29.mono B24.size)
 have sB32 : wx0.heap.size ≤ X28.heap.size := b29.size
 have h33 := h25.below b29
 have h34 := h26.below b29
 have h35 := h27.below b29
 have h36 := ix0.below b29
 clear B24 h25 h26 h27 ix0
 have k31 : wx0.heap.size < X28.heap.size := h30.lt
 clear b29
 obtain ⟨c370,c371,c372,c373,c374⟩ := Bx.r5 h30
 go_wp2_with fail
 refine (hI2 X28 _ h36).mono ?_
 rintro e wi ⟨Ag,rfl,ig,hbg⟩
 have B38 : Below w.heap.size w wi := B32.trans (hbg.mono B32.size)
 have sB38 : X28.heap.size ≤ wi.heap.size := hbg.size
 have h39 := h33.below hbg
 have h40 := h34.below hbg
 have h41 := h35.below hbg
 have h42 := h36.below hbg
 have h43 := h30.below hbg
 clear B32 h33 h34 h35 h36 h30
 have b45 := oneA16 wi (.cells #[.int .i64 Z.id,.int .i64 Z.n,.slice Ag.ra Z.rows.length Ag.rc,.slice Ag.sa Z.sung.length Ag.sc,.bool Z.done] 39)
 have h46 := Bx.new wi 39 #[.int .i64 Z.id,.int .i64 Z.n,.slice Ag.ra Z.rows.length Ag.rc,.slice Ag.sa Z.sung.length Ag.sc,.bool Z.done]
 generalize hX44 : wi.alloc (.cells #[.int .i64 Z.id,.int .i64 Z.n,.slice Ag.ra Z.rows.length Ag.rc,.slice Ag.sa Z.sung.length Ag.sc,.bool Z.done] 39) = X44 at *
 have B48 : Below w.heap.size w X44 := B38.trans (b45.mono B38.size)
 have sB48 : wi.heap.size ≤ X44.heap.size := b45.size
 have h49 := h39.below b45
 have h50 := h40.below b45
 have h51 := h41.below b45
 have h52 := h42.below b45
 have h53 := h43.below b45
 have h54 := ig.below b45
 clear B38 h39 h40 h41 h42 h43 ig
 have k47 : wi.heap.size < X44.heap.size := h46.lt
 clear b45
 clear c370 c371 c372 c373 c374
 obtain ⟨c550,c551,c552,c553,c554⟩ := Bx.r5 h46
 obtain ⟨c560,c561,c562,c563,c564⟩ := Bx.r5 h51
 go_wp2_with fail
 refine (hEz X44 _ _ h54 h50).mono ?_
 rintro e we ⟨rfl,hbwe⟩
 clear c550 c551 c552 c553 c554 c560 c561 c562 c563 c564
 have B57 : Below w.heap.size w we := B48.trans (hbwe.mono B48.size)
 have sB57 : X44.heap.size ≤ we.heap.size := hbwe.size
 have h58 := h49.below hbwe
 have h59 := h50.below hbwe
 have h60 := h51.below hbwe
 have h61 := h52.below hbwe
 have h62 := h53.below hbwe
 have h63 := h54.below hbwe
 have h64 := h46.below hbwe
 clear B48 h49 h50 h51 h52 h53 h54 h46
 have KS : ∀ X,Below we.heap.size we X → (X.cell? ⟨w.heap.size,0,none⟩ = some (.int .i64 m.id) ∧ X.cell? ⟨w.heap.size,1,none⟩ = some (.int .i64 m.n) ∧ X.cell? ⟨w.heap.size,2,none⟩ = some (.slice A0.ra m.rows.length A0.rc) ∧ X.cell? ⟨w.heap.size,3,none⟩ = some (.slice A0.sa m.sung.length A0.sc) ∧ X.cell? ⟨w.heap.size,4,none⟩ = some (.bool m.done)) ∧ (X.cell? ⟨wx0.heap.size,0,none⟩ = some (.int .i64 m.id) ∧ X.cell? ⟨wx0.heap.size,1,none⟩ = some (.int .i64 m.n) ∧ X.cell? ⟨wx0.heap.size,2,none⟩ = some (.slice Ax0.ra m.rows.length Ax0.rc) ∧ X.cell? ⟨wx0.heap.size,3,none⟩ = some (.slice Ax0.sa m.sung.length Ax0.sc) ∧ X.cell? ⟨wx0.heap.size,4,none⟩ = some (.bool m.done)) := fun X hX => ⟨Bx.r5 (h58.below hX),Bx.r5 (h62.below hX)⟩
 have bd : Below we.heap.size we (we.drewN 1) := belowN (Below.refl _ _)
 have hTo2 := fun X (h : Below we.heap.size we X) => hT0 X (B57.trans (h.mono B57.size))
 have hEq2 := fun X (A7 : Ma) (h : Below we.heap.size we X) (h7 : ∃ lo hi,It X (mbCels m) (mbVals A7 m) lo hi) => hEE0 X Ax0 A7 (h61.below h) h7.choose_spec.choose_spec
 go_wp2_with fail
 go_region_held3 (fun X => (X.cell? ⟨w.heap.size,0,none⟩ = some (.int .i64 m.id) ∧ X.cell? ⟨w.heap.size,1,none⟩ = some (.int .i64 m.n) ∧ X.cell? ⟨w.heap.size,2,none⟩ = some (.slice A0.ra m.rows.length A0.rc) ∧ X.cell? ⟨w.heap.size,3,none⟩ = some (.slice A0.sa m.sung.length A0.sc) ∧ X.cell? ⟨w.heap.size,4,none⟩ = some (.bool m.done)) ∧ (X.cell? ⟨wx0.heap.size,0,none⟩ = some (.int .i64 m.id) ∧ X.cell? ⟨wx0.heap.size,1,none⟩ = some (.int .i64 m.n) ∧ X.cell? ⟨wx0.heap.size,2,none⟩ = some (.slice Ax0.ra m.rows.length Ax0.rc) ∧ X.cell? ⟨wx0.heap.size,3,none⟩ = some (.slice Ax0.sa m.sung.length Ax0.sc) ∧ X.cell? ⟨wx0.heap.size,4,none⟩ = some (.bool m.done)))
  (first | exact KS _ b8 | exact KS _ b7b | exact KS _ bd)
  (first
   | (go_at_call 28;refine (hTo2 _ bd).mono ?_;rintro e t0 ⟨A7,rfl,i7,hb7⟩;have b7b : Below we.heap.size we t0 := bd.trans (hb7.mono bd.size))
   | (go_at_call 30;refine (hEq2 t0 A7 b7b ⟨_,_,i7⟩).mono ?_;rintro e u0 ⟨rfl,hb8⟩;have b8 : Below we.heap.size we u0 := b7b.trans (hb8.mono b7b.size)))
 clear KS bd hTo2 hEq2 i7 hb7 b7b hb8
 have B65 : Below w.heap.size w u0 := B57.trans (b8.mono B57.size)
 have sB65 : we.heap.size ≤ u0.heap.size := b8.size
 have h66 := h58.below b8
 have h67 := h59.below b8
 have h68 := h60.below b8
 have h69 := h61.below b8
 have h70 := h62.below b8
 have h71 := h63.below b8
 have h72 := h64.below b8
 clear B57 h58 h59 h60 h61 h62 h63 h64
 obtain ⟨c730,c731,c732,c733,c734⟩ := Bx.r5 h70
 go_wp2_with fail
 refine (hMM0 u0 _ _ _ h69 (by omega) (by omega)).mono ?_
 rintro e wq0 ⟨rfl,_,hwq0⟩
 clear c730 c731 c732 c733 c734
 have sB74 : u0.heap.size ≤ wq0.heap.size := hwq0.size
 have B74 : Below w.heap.size w wq0 := below_iv hwq0 B65 B65.size (by omega)
 have h75 := h66.iv hwq0 (by omega)
 have h76 := h67.far hwq0 (by omega)
 have h77 := h68.iv hwq0 (by omega)
 have h78 := h70.iv hwq0 (by omega)
 have h79 := h71.far hwq0 (by omega)
 have h80 := h72.iv hwq0 (by omega)
 clear B65 h69 h66 h67 h68 h70 h71 h72
 obtain ⟨c810,c811,c812,c813,c814⟩ := Bx.r5 h80
 obtain ⟨c820,c821,c822,c823,c824⟩ := Bx.r5 h77
 go_wp2_with fail
 refine (hEz wq0 _ _ h79 h76).mono ?_
 rintro e wo ⟨rfl,hbwo⟩
 clear c810 c811 c812 c813 c814 c820 c821 c822 c823 c824
 have B83 : Below w.heap.size w wo := B74.trans (hbwo.mono B74.size)
 have sB83 : wq0.heap.size ≤ wo.heap.size := hbwo.size
 have h84 := h75.below hbwo
 have h85 := h76.below hbwo
 have h86 := h77.below hbwo
 have h87 := h78.below hbwo
 have h88 := h79.below hbwo
 have h89 := h80.below hbwo
 clear B74 h75 h76 h77 h78 h79 h80
 obtain ⟨c900,c901,c902,c903,c904⟩ := Bx.r5 h89
 go_wp2_with fail
 refine (hMz wo _ _ _ h88 (by omega) (by omega)).mono ?_
 rintro e wm ⟨rfl,im,hwm⟩
 clear c900 c901 c902 c903 c904
 have sB91 : wo.heap.size ≤ wm.heap.size := hwm.size
 have B91 : Below w.heap.size w wm := below_iv hwm B83 B83.size (by omega)
 have h92 := h84.iv hwm (by omega)
 have h93 := h85.far hwm (by omega)
 have h94 := h86.iv hwm (by omega)
 have h95 := h87.iv hwm (by omega)
 have h96 := h89.iv hwm (by omega)
 clear B83 h84 h85 h86 h87 h88 h89
 obtain ⟨c970,c971,c972,c973,c974⟩ := Bx.r5 h96
 go_wp2_with fail
 refine (hHz wm _ _ _ im).mono ?_
 rintro e wh ⟨rfl,hbh⟩
 clear c970 c971 c972 c973 c974
 have B98 : Below w.heap.size w wh := B91.trans (hbh.mono B91.size)
 have sB98 : wm.heap.size ≤ wh.heap.size := hbh.size
 have h99 := h92.below hbh
 have h100 := h93.below hbh
 have h101 := h94.below hbh
 have h102 := h95.below hbh
 have h103 := im.below hbh
 have h104 := h96.below hbh
 clear B91 h92 h93 h94 h95 im h96
 obtain ⟨c1050,c1051,c1052,c1053,c1054⟩ := Bx.r5 h99
 go_wp2_with fail
 refine (hT0 wh B98).mono ?_
 rintro e h0 ⟨Ah0,rfl,ih0,hbh0⟩
 clear c1050 c1051 c1052 c1053 c1054
 have B106 : Below w.heap.size w h0 := B98.trans (hbh0.mono B98.size)
 have sB106 : wh.heap.size ≤ h0.heap.size := hbh0.size
 have h107 := h99.below hbh0
 have h108 := h100.below hbh0
 have h109 := h101.below hbh0
 have h110 := h102.below hbh0
 have h111 := h103.below hbh0
 have h112 := h104.below hbh0
 clear B98 h99 h100 h101 h102 h103 h104
 go_wp2_with fail
 refine (hI2 h0 _ ih0).mono ?_
 rintro e wj ⟨Ah,rfl,ih,hbh⟩
 have B113 : Below w.heap.size w wj := B106.trans (hbh.mono B106.size)
 have sB113 : h0.heap.size ≤ wj.heap.size := hbh.size
 have h114 := h107.below hbh
 have h115 := h108.below hbh
 have h116 := h109.below hbh
 have h117 := h110.below hbh
 have h118 := h111.below hbh
 have h119 := h112.below hbh
 have h120 := ih0.below hbh
 clear B106 h107 h108 h109 h110 h111 h112 ih0
 have b122 := oneA16 wj (.cells #[.int .i64 Z.id,.int .i64 Z.n,.slice Ah.ra Z.rows.length Ah.rc,.slice Ah.sa Z.sung.length Ah.sc,.bool Z.done] 39)
 have h123 := Bx.new wj 39 #[.int .i64 Z.id,.int .i64 Z.n,.slice Ah.ra Z.rows.length Ah.rc,.slice Ah.sa Z.sung.length Ah.sc,.bool Z.done]
 generalize hX121 : wj.alloc (.cells #[.int .i64 Z.id,.int .i64 Z.n,.slice Ah.ra Z.rows.length Ah.rc,.slice Ah.sa Z.sung.length Ah.sc,.bool Z.done] 39) = X121 at *
 have B125 : Below w.heap.size w X121 := B113.trans (b122.mono B113.size)
 have sB125 : wj.heap.size ≤ X121.heap.size := b122.size
 have h126 := h114.below b122
 have h127 := h115.below b122
 have h128 := h116.below b122
 have h129 := h117.below b122
 have h130 := h118.below b122
 have h131 := h119.below b122
 have h132 := h120.below b122
 have h133 := ih.below b122
 clear B113 h114 h115 h116 h117 h118 h119 h120 ih
 have k124 : wj.heap.size < X121.heap.size := h123.lt
 clear b122
 clear h132
 obtain ⟨c1340,c1341,c1342,c1343,c1344⟩ := Bx.r5 h123
 obtain ⟨c1350,c1351,c1352,c1353,c1354⟩ := Bx.r5 h128
 go_wp2_with fail
 refine (hEz X121 _ _ h133 h127).mono ?_
 rintro e wk ⟨rfl,hbwk⟩
 clear c1340 c1341 c1342 c1343 c1344 c1350 c1351 c1352 c1353 c1354
 have B136 : Below w.heap.size w wk := B125.trans (hbwk.mono B125.size)
 have sB136 : X121.heap.size ≤ wk.heap.size := hbwk.size
 have h137 := h126.below hbwk
 have h138 := h127.below hbwk
 have h139 := h128.below hbwk
 have h140 := h129.below hbwk
 have h141 := h130.below hbwk
 have h142 := h131.below hbwk
 have h143 := h133.below hbwk
 have h144 := h123.below hbwk
 clear B125 h126 h127 h128 h129 h130 h131 h133 h123
 obtain ⟨c1450,c1451,c1452,c1453,c1454⟩ := Bx.r5 h142
 go_wp2_with fail
 refine (hHz wk _ _ _ h141).mono ?_
 rintro e wl ⟨rfl,hbl⟩
 clear c1450 c1451 c1452 c1453 c1454
 have B146 : Below w.heap.size w wl := B136.trans (hbl.mono B136.size)
 have sB146 : wk.heap.size ≤ wl.heap.size := hbl.size
 have h147 := h137.below hbl
 have h148 := h138.below hbl
 have h149 := h139.below hbl
 have h150 := h140.below hbl
 have h151 := h141.below hbl
 have h152 := h142.below hbl
 have h153 := h143.below hbl
 have h154 := h144.below hbl
 clear B136 h137 h138 h139 h140 h141 h142 h143 h144
 go_wp2
 go_ret
 exact ⟨rfl,B146⟩
end Go.Proofs.Ythioodpmgifomaa
namespace Go.Proofs.Ythioodpmgifomaa
set_option linter.unusedVariables false
set_option linter.unusedSimpArgs false
open Go.ChangeShapes Go.WideShapes Go.ChangeAt Go.RowKit Go.Deep
section
variable {H : Type} {enc : TypeId × Value → H} {P : Program} {W : World} {base : Nat} {held : Bool}
theorem field_of {t : TypeId} {fs : Array Field} {fuel : Nat} {cs : List Value} {x : DataW H × List MemPlace} (ht : P.underlying t = some (.struct fs)) (hone : oneCellFields P fs = true) (h : DataW.trod enc P W base (fun _ => true) held fuel t cs = some x) :
  cs.length = P.cellsOf t ∧ ∃ n,∀ (i : Nat) (f : Field) (c : Value),fs[i]? = some f → cs[i]? = some c → ∃ y,DataW.trod enc P W base (fun _ => true) held n f.type [c] = some y := by
 obtain ⟨xs,n,_,rfl,hl,hlen,hf⟩ := DataW.trod_struct ht h
 refine ⟨hl,n,fun i f c hi hc => ?_⟩
 obtain ⟨o,k⟩ := hone_of hone i f hi
 have h1 := hf i f hi
 have hix : i < xs.length := by
  rw [hlen]
  exact (Array.getElem?_eq_some_iff.1 hi).1
 have e : (cs.drop i).take 1 = [c] := by
  have hic := (List.getElem?_eq_some_iff.1 hc).1
  have hcc := (List.getElem?_eq_some_iff.1 hc).2
  rw [List.drop_eq_getElem_cons hic,hcc]
  rfl
 rw [o,k,e,List.getElem?_eq_getElem hix] at h1
 exact ⟨_,h1⟩
theorem ints_of {t e : TypeId} {fuel : Nat} {c : Value} {y : DataW H × List MemPlace} (ht : P.underlying t = some (.slice e)) (he : P.underlying e = some (.int .i64)) (hc : P.cellsOf e = 1) (h : DataW.trod enc P W base (fun _ => true) held fuel t [c] = some y) :
  ∃ a cap M,c = .slice a (List.length M) cap ∧ Vec W a (List.length M) M ∧ List.length M ≤ maxLen := by
 obtain ⟨a,len,cap,z,rfl,hw⟩ : ∃ a len cap zs,c = .slice a len cap ∧ IsRow .i64 W a len cap zs := by
  rcases open_ints ht he hc h with ⟨hcs,_⟩ | ⟨x,l,c,zs,hcs,_,hl,hm,hz,_,hcell,hwz⟩
  ·simp at hcs
   exact ⟨none,0,0,[],hcs,.inl ⟨rfl,rfl,rfl,rfl⟩⟩
  ·simp at hcs
   exact ⟨some x,l,c,zs,hcs,.inr ⟨_,rfl,hl,hm,by simpa using hz,hcell,hwz⟩⟩
 rcases hw with ⟨rfl,rfl,rfl,rfl⟩ | ⟨ad,rfl,hl,hm,hz,hcell,hwz⟩
 ·exact ⟨none,0,[],rfl,⟨rfl,fun x hx => absurd hx List.not_mem_nil,.inl rfl⟩,Nat.zero_le _⟩
 ·have hz' : z.length = cap := by simpa using hz
  have hlen : (z.take len).length = len := by rw [List.length_take];omega
  have hfit : Fits (z.take len) := fun n hn => bounds_i64 (hwz n (List.mem_of_mem_take hn))
  refine ⟨some ad,cap,z.take len,by rw [hlen],⟨rfl,hfit, ?_⟩,by rw [hlen];exact Nat.le_trans hl hm⟩
  rcases Nat.eq_zero_or_pos len with e | e
  ·exact .inl (by omega)
  ·obtain ⟨b,off,spot⟩ := ad
   have hs : spot = none := by
    have := hcell 0 (by omega)
    simpa [Addr.add] using World.cell?_spot this
   subst hs
   refine .inr ⟨b,off,rfl,fun i hi => ?_⟩
   have h1 := hcell i (by omega)
   rw [add_lit0] at h1
   rw [h1]
   simp [el,List.getD,List.getElem?_take_of_lt (show i < len by omega)]
theorem str_short16 {s : ByteArray} (h : s.size ≤ maxLen) : s.data.toList.length ≤ 9223372036854775807 := by
 have e : s.data.toList.length = s.size := by rw [Array.length_toList];rfl
 rw [e]
 unfold maxLen at h
 exact h
end
theorem list8 {α : Type} {l : List α} (h : l.length = 8) : ∃ c0 c1 c2 c3 c4 c5 c6 c7,l = [c0,c1,c2,c3,c4,c5,c6,c7] := by
 match l,h with
 | [c0,c1,c2,c3,c4,c5,c6,c7],_ => exact ⟨c0,c1,c2,c3,c4,c5,c6,c7,rfl⟩
end Go.Proofs.Ythioodpmgifomaa
namespace Go.Proofs.Ythioodpmgifomaa
set_option linter.unusedVariables false
set_option linter.unusedSimpArgs false
open Go.ChangeShapes Go.WideShapes Go.ChangeAt Go.RowKit Go.Deep
theorem vw_of_txs {w : World} {a : Option Addr} {c : Nat} {T : List (List UInt8)} (h : TxS w a T) (h1 : T.length ≤ c) (h2 : c ≤ maxLen) : Cel.vw w (scl T) (.slice a T.length c) := by
 refine ⟨a,c,_,rfl,h1,h2,by rw [svs_len];omega, ?_,vwL_pl.2 rfl⟩
 rcases h with h0 | ⟨b,off,ha,hc⟩
 ·exact .inl h0
 ·refine .inr ⟨b,off,ha,fun i hi => ?_⟩
  rw [svs_get (by omega)]
  exact hc i (by omega)
theorem vw_lcl_of {α : Type} {F : α → List Cel} {s : Nat} {w : World} {b off : Nat} (R : Nat → α) (V : Nat → List Value) : ∀ n,(∀ i,i < n → (V i).length = s ∧ (∀ j,j < s → w.cell? ⟨b,off + i * s + j,none⟩ = (V i)[j]?) ∧ vwL w (F (R i)) (V i)) →
  ∃ us : List Value,us.length = n * s ∧ (∀ j,j < n * s → w.cell? ⟨b,off + j,none⟩ = us[j]?) ∧ vwL w (((List.range n).map R).flatMap F) us
 | 0,_ => ⟨[],by simp,fun j hj => by omega,rfl⟩
 | n + 1,h => by
  obtain ⟨us,h1,h2,h3⟩ := vw_lcl_of R V n (fun i hi => h i (by omega))
  obtain ⟨k1,k2,k3⟩ := h n (by omega)
  have hm : (n + 1) * s = n * s + s := by rw [Nat.add_mul,Nat.one_mul]
  refine ⟨us ++ V n,by rw [List.length_append,h1,k1,hm],fun j hj => ?_, ?_⟩
  ·rcases Nat.lt_or_ge j (n * s) with hj2 | hj2
   ·rw [List.getElem?_append_left (by omega)];exact h2 j hj2
   ·rw [List.getElem?_append_right (by omega),h1]
    have := k2 (j - n * s) (by omega)
    rw [show off + n * s + (j - n * s) = off + j by omega] at this
    exact this
  ·rw [List.range_succ,List.map_append,List.flatMap_append]
   refine vwL_append h3 ?_
   simpa using k3
section
variable {H : Type} {enc : TypeId × Value → H} {P : Program} {W : World} {base : Nat} {held : Bool}
theorem ints_ofC {t e : TypeId} {fuel : Nat} {c : Value} {y : DataW H × List MemPlace} (ht : P.underlying t = some (.slice e)) (he : P.underlying e = some (.int .i64)) (hc : P.cellsOf e = 1) (h : DataW.trod enc P W base (fun _ => true) held fuel t [c] = some y) :
  ∃ a cap M,c = .slice a (List.length M) cap ∧ Cel.vw W (icl M) (.slice a (List.length M) cap) ∧ Fits M ∧ List.length M ≤ maxLen := by
 obtain ⟨a,len,cap,z,rfl,hw⟩ : ∃ a len cap zs,c = .slice a len cap ∧ IsRow .i64 W a len cap zs := by
  rcases open_ints ht he hc h with ⟨hcs,_⟩ | ⟨x,l,c,zs,hcs,_,hl,hm,hz,_,hcell,hwz⟩
  ·simp at hcs
   exact ⟨none,0,0,[],hcs,.inl ⟨rfl,rfl,rfl,rfl⟩⟩
  ·simp at hcs
   exact ⟨some x,l,c,zs,hcs,.inr ⟨_,rfl,hl,hm,by simpa using hz,hcell,hwz⟩⟩
 rcases hw with ⟨rfl,rfl,rfl,rfl⟩ | ⟨ad,rfl,hl,hm,hz,hcell,hwz⟩
 ·exact ⟨none,0,[],rfl,vw_of_vec ⟨rfl,fun x hx => absurd hx List.not_mem_nil,.inl rfl⟩ (Nat.le_refl _) (Nat.zero_le _),fun x hx => absurd hx List.not_mem_nil,Nat.zero_le _⟩
 ·have hz' : z.length = cap := by simpa using hz
  have hlen : (z.take len).length = len := by rw [List.length_take];omega
  have hfit : Fits (z.take len) := fun n hn => bounds_i64 (hwz n (List.mem_of_mem_take hn))
  refine ⟨some ad,cap,z.take len,by rw [hlen],vw_of_vec ⟨rfl,hfit, ?_⟩ (by rw [hlen];exact hl) hm,hfit,by rw [hlen];exact Nat.le_trans hl hm⟩
  rcases Nat.eq_zero_or_pos len with e | e
  ·exact .inl (by omega)
  ·obtain ⟨b,off,spot⟩ := ad
   have hs : spot = none := by
    have := hcell 0 (by omega)
    simpa [Addr.add] using World.cell?_spot this
   subst hs
   refine .inr ⟨b,off,rfl,fun i hi => ?_⟩
   have h1 := hcell i (by omega)
   rw [add_lit0] at h1
   rw [h1]
   simp [el,List.getD,List.getElem?_take_of_lt (show i < len by omega)]
theorem txts_ofC {t e : TypeId} {fuel : Nat} {c : Value} {y : DataW H × List MemPlace} (ht : P.underlying t = some (.slice e)) (he : P.underlying e = some .string) (hc : P.cellsOf e = 1) (h : DataW.trod enc P W base (fun _ => true) held fuel t [c] = some y) :
  ∃ a cap T,c = .slice a (List.length T) cap ∧ Cel.vw W (scl T) (.slice a (List.length T) cap) ∧ LongT T ∧ List.length T ≤ maxLen := by
 rcases open_strs ht he hc h with ⟨hcs,_⟩ | ⟨ad,len,cap,m,S,hcs,_,hl,hm,hmm,_,hx⟩
 ·simp at hcs
  subst hcs
  exact ⟨none,0,[],rfl,vw_of_txs (.inl rfl) (Nat.le_refl _) (Nat.zero_le _),fun i hi => absurd hi (Nat.not_lt_zero _),Nat.zero_le _⟩
 ·simp at hcs
  subst hcs
  have hlm : len ≤ m := by rw [hmm];split <;> omega
  have hlen : ((List.range len).map fun r => (S r).data.toList).length = len := by simp
  have hget : ∀ i,i < len → ((List.range len).map fun r => (S r).data.toList).getD i [] = (S i).data.toList := fun i hi => by simp [List.getD,hi]
  refine ⟨some ad,cap,(List.range len).map fun r => (S r).data.toList,by rw [hlen],vw_of_txs ?_ (by rw [hlen];exact hl) hm,fun i hi => ?_,by rw [hlen];exact Nat.le_trans hl hm⟩
  ·by_cases h0 : len = 0
   ·exact .inl (by rw [hlen];exact h0)
   ·obtain ⟨b,off,spot⟩ := ad
    have hs : spot = none := by
     have := (hx 0 (by omega)).1
     simpa [Addr.add] using World.cell?_spot this
    subst hs
    refine .inr ⟨b,off,rfl,fun i hi => ?_⟩
    rw [hlen] at hi
    rw [hget i hi]
    have hc := (hx i (by omega)).1
    rw [add_lit0] at hc
    rw [hc,← sv_of]
  ·rw [hlen] at hi
   rw [hget i hi]
   exact str_short16 (hx i (by omega)).2
end
set_option maxRecDepth 100000 in
theorem row_ofC {H : Type} {enc : TypeId × Value → H} {W : World} {base fuel : Nat} {held : Bool} {cs : List Value} {x : DataW H × List MemPlace} (h : DataW.trod enc Try.prog W base (fun _ => true) held fuel 48 cs = some x) :
  ∃ r,cs.length = 8 ∧ vwL W (rw8 r) cs ∧ FitR r ∧ LongT r.txt ∧ Rw64 r := by
 obtain ⟨hl,n,hf⟩ := field_of Try.underlying48 (by kernel_rfl) h
 rw [show Try.prog.cellsOf 48 = 8 by kernel_rfl] at hl
 obtain ⟨c0,c1,c2,c3,c4,c5,c6,c7,rfl⟩ := list8 hl
 obtain ⟨y0,g0⟩ := hf 0 _ c0 rfl rfl
 obtain ⟨y1,g1⟩ := hf 1 _ c1 rfl rfl
 obtain ⟨y2,g2⟩ := hf 2 _ c2 rfl rfl
 obtain ⟨y3,g3⟩ := hf 3 _ c3 rfl rfl
 obtain ⟨y4,g4⟩ := hf 4 _ c4 rfl rfl
 obtain ⟨y5,g5⟩ := hf 5 _ c5 rfl rfl
 obtain ⟨y6,g6⟩ := hf 6 _ c6 rfl rfl
 obtain ⟨y7,g7⟩ := hf 7 _ c7 rfl rfl
 obtain ⟨i0,e0,_,b0⟩ := DataW.trod_int Try.underlying2 g0
 obtain ⟨a1,d1,T,rfl,t1,t2,t3⟩ := txts_ofC Try.underlying46 Try.underlying9 (by kernel_rfl) g1
 obtain ⟨a2,d2,M2,rfl,u2,v2,_⟩ := ints_ofC Try.underlying24 Try.underlying2 (by kernel_rfl) g2
 obtain ⟨a3,d3,M3,rfl,u3,v3,_⟩ := ints_ofC Try.underlying24 Try.underlying2 (by kernel_rfl) g3
 obtain ⟨z4,e4,_⟩ := DataW.trod_bool Try.underlying4 g4
 obtain ⟨z5,e5,_⟩ := DataW.trod_bool Try.underlying4 g5
 obtain ⟨i6,e6,_,b6⟩ := DataW.trod_int Try.underlying2 g6
 obtain ⟨a7,d7,M7,rfl,u7,v7,_⟩ := ints_ofC Try.underlying24 Try.underlying2 (by kernel_rfl) g7
 simp at e0 e4 e5 e6
 subst e0 e4 e5 e6
 exact ⟨⟨i0,T,M2,M3,z4,z5,i6,M7⟩,rfl,⟨_,_,rfl,rfl,_,_,rfl,t1,_,_,rfl,u2,_,_,rfl,u3,_,_,rfl,rfl,_,_,rfl,rfl,_,_,rfl,rfl,_,_,rfl,u7,rfl⟩,⟨v2,v3,v7⟩,t2,⟨bounds_i64 b0,bounds_i64 b6⟩⟩
set_option maxRecDepth 100000 in
theorem rows_of {H : Type} {enc : TypeId × Value → H} {W : World} {base fuel : Nat} {held : Bool} {c : Value} {y : DataW H × List MemPlace} (h : DataW.trod enc Try.prog W base (fun _ => true) held fuel 33 [c] = some y) :
  ∃ a cap R,c = .slice a (List.length R) cap ∧ Cel.vw W (lcl 8 rw8 R) (.slice a (List.length R) cap) ∧ (∀ r ∈ R,FitR r ∧ LongT r.txt ∧ Rw64 r) ∧ List.length R ≤ maxLen := by
 rcases open_slice Try.underlying33 h with ⟨h0,_⟩ | ⟨ad,len,cap,m,n,D,Pl,hcs,_,hl,hm,hmm,_,hx⟩
 ·simp at h0
  subst h0
  exact ⟨none,0,[],rfl,⟨none,0,[],rfl,Nat.le_refl _,Nat.zero_le _,rfl,.inl rfl,rfl⟩,fun r hr => absurd hr List.not_mem_nil,Nat.zero_le _⟩
 ·simp at hcs
  subst hcs
  have hlm : len ≤ m := by rw [hmm];split <;> omega
  have ce : Try.prog.cellsOf 48 = 8 := by kernel_rfl
  by_cases h0 : len = 0
  ·subst h0
   exact ⟨some ad,cap,[],rfl,⟨some ad,cap,[],rfl,hl,hm,rfl,.inl rfl,rfl⟩,fun r hr => absurd hr List.not_mem_nil,Nat.zero_le _⟩
  obtain ⟨b,off,spot⟩ := ad
  have each : ∀ i,i < len → ∃ q : List Value × Rw,(q.1.length = 8 ∧ (∀ j,j < 8 → W.cell? ((⟨b,off,spot⟩ : Addr).add (i * 8 + j)) = q.1[j]?) ∧ vwL W (rw8 q.2) q.1) ∧ FitR q.2 ∧ LongT q.2.txt ∧ Rw64 q.2 := by
   intro i hi
   obtain ⟨cs',h1,h2⟩ := hx i (by omega)
   rw [ce] at h1
   obtain ⟨_,hlen,hcell⟩ := World.cells?_some h1
   obtain ⟨r,e8,hv,hf,hg,h6⟩ := row_ofC h2
   refine ⟨(cs',r),⟨e8,fun j hj => ?_,hv⟩,hf,hg,h6⟩
   have := hcell j hj
   rw [add_add] at this
   exact this
  have hs : spot = none := by
   obtain ⟨q,⟨h1,h2,_⟩,_⟩ := each 0 (by omega)
   have := h2 0 (by omega)
   rw [List.getElem?_eq_getElem (by omega)] at this
   simpa [Addr.add] using World.cell?_spot this
  subst hs
  haveI : Inhabited (List Value × Rw) := ⟨([],zeroRw)⟩
  obtain ⟨q,hq⟩ := choose_lt each
  obtain ⟨us,u1,u2,u3⟩ := vw_lcl_of (F := rw8) (s := 8) (w := W) (b := b) (off := off) (fun i => (q i).2) (fun i => (q i).1) len (fun i hi => ⟨(hq i hi).1.1,fun j hj => by have := (hq i hi).1.2.1 j hj;rw [add_lit0,← Nat.add_assoc] at this;exact this,(hq i hi).1.2.2⟩)
  have hlen : ((List.range len).map (fun i => (q i).2)).length = len := by simp
  refine ⟨some ⟨b,off,none⟩,cap,(List.range len).map (fun i => (q i).2),by rw [hlen], ?_,fun r hr => ?_,by rw [hlen];exact Nat.le_trans hl hm⟩
  ·unfold lcl
   rw [hlen]
   exact ⟨_,cap,us,rfl,hl,hm,u1,.inr ⟨b,off,rfl,u2⟩,u3⟩
  ·obtain ⟨i,hi,rfl⟩ := List.mem_map.1 hr
   exact (hq i (List.mem_range.1 hi)).2
theorem list5 {α : Type} {l : List α} (h : l.length = 5) : ∃ c0 c1 c2 c3 c4,l = [c0,c1,c2,c3,c4] := by
 match l,h with
 | [c0,c1,c2,c3,c4],_ => exact ⟨c0,c1,c2,c3,c4,rfl⟩
set_option maxRecDepth 100000 in
theorem mb_of {H : Type} {enc : TypeId × Value → H} {W : World} {base fuel : Nat} {held : Bool} {cs : List Value} {x : DataW H × List MemPlace} (h : DataW.trod enc Try.prog W base (fun _ => true) held fuel 35 cs = some x) :
  ∃ A m,cs = (mbC A m).toList ∧ MbS W A m ∧ (∀ r ∈ m.rows,LongT r.txt) ∧ Mb64 m := by
 obtain ⟨hl,n,hf⟩ := field_of Try.underlying35 (by kernel_rfl) h
 rw [show Try.prog.cellsOf 35 = 5 by kernel_rfl] at hl
 obtain ⟨c0,c1,c2,c3,c4,rfl⟩ := list5 hl
 obtain ⟨y0,g0⟩ := hf 0 _ c0 rfl rfl
 obtain ⟨y1,g1⟩ := hf 1 _ c1 rfl rfl
 obtain ⟨y2,g2⟩ := hf 2 _ c2 rfl rfl
 obtain ⟨y3,g3⟩ := hf 3 _ c3 rfl rfl
 obtain ⟨y4,g4⟩ := hf 4 _ c4 rfl rfl
 obtain ⟨i0,e0,_,b0⟩ := DataW.trod_int Try.underlying2 g0
 obtain ⟨i1,e1,_,b1⟩ := DataW.trod_int Try.underlying2 g1
 obtain ⟨a2,d2,R,rfl,t1,t2,t3⟩ := rows_of g2
 obtain ⟨a3,d3,M3,rfl,u3,v3⟩ := ints_of Try.underlying24 Try.underlying2 (by kernel_rfl) g3
 obtain ⟨z4,e4,_⟩ := DataW.trod_bool Try.underlying4 g4
 simp at e0 e1 e4
 subst e0 e1 e4
 exact ⟨⟨a2,d2,a3,d3⟩,⟨i0,i1,R,M3,z4⟩,rfl,⟨t1,u3,t3,v3,fun r hr => (t2 r hr).1⟩,fun r hr => (t2 r hr).2.1,bounds_i64 b0,bounds_i64 b1,fun r hr => (t2 r hr).2.2⟩
set_option maxRecDepth 100000 in
theorem open_mem {H : Type} {enc : TypeId × Value → H} {W : World} {base : Nat} {v : Value} {d : DataW H} {p : List MemPlace} (hv : Value.okWide Try.prog W .any base 35 v) (h : DataW.Trod enc Try.prog W 0 (fun _ => true) true 35 v d p) :
  ∃ A m,v = mbV A m ∧ MbS W A m ∧ (∀ r ∈ m.rows,LongT r.txt) ∧ Mb64 m := by
 obtain ⟨cs,rfl,hsz⟩ := okWide_struct Try.underlying35 hv
 obtain ⟨fuel,hf⟩ := h
 obtain ⟨A,m,e,h1,h2,h3⟩ := mb_of hf
 have e' : cs.toList = (mbC A m).toList := by simpa [Value.cells] using e
 exact ⟨A,m,by rw [mbV,Array.toList_inj.1 e'],h1,h2,h3⟩
end Go.Proofs.Ythioodpmgifomaa
namespace Go.Proofs.Ythioodpmgifomaa
set_option linter.unusedVariables false
set_option linter.unusedSimpArgs false
open Go.RowKit Go.Sort
attribute [local irreducible] sv
end Go.Proofs.Ythioodpmgifomaa
namespace Go.Proofs.Ythioodpmgifomaa
set_option linter.unusedVariables false
set_option linter.unusedSimpArgs false
open Go.ChangeShapes Go.WideShapes Go.ChangeAt Go.RowKit Go.Deep
theorem str_shortG {s : ByteArray} (h : s.size ≤ maxLen) : s.data.toList.length ≤ 9223372036854775807 := by
 have e : s.data.toList.length = s.size := by rw [Array.length_toList];rfl
 rw [e]
 unfold maxLen at h
 exact h
set_option maxRecDepth 100000 in
theorem open_txtG {H : Type} {enc : TypeId × Value → H} {w : World} {base : Nat} {v : Value} {d : DataW H} {p : List MemPlace} (hv : Value.okWide Try.prog w .any base 9 v) (h : DataW.Trod enc Try.prog w 0 (fun _ => true) true 9 v d p) : ∃ s : List UInt8,v = .string (sv s) ∧ s.length ≤ 9223372036854775807 := by
 obtain ⟨s,rfl,_,_,hs⟩ := Go.ChangeMaps.open_string Try.underlying9 hv h
 exact ⟨s.data.toList,by rw [← sv_of s],str_shortG hs⟩
end Go.Proofs.Ythioodpmgifomaa
namespace Go.Proofs.Ythioodpmgifomaa
set_option linter.unusedVariables false
set_option linter.unusedSimpArgs false
open Go.RowKit Go.Sort
def mb4 (m : Mb) : List Cel := [.v (.int .i64 m.id),lcl 8 rw8 m.rows,icl m.sung,.v (.bool m.done)]
def C4 (w : World) (B : Nat) (x0 x1 x2 x3 : Value) : Prop := w.cell? ⟨B,0,none⟩ = some x0 ∧ w.cell? ⟨B,1,none⟩ = some x1 ∧ w.cell? ⟨B,2,none⟩ = some x2 ∧ w.cell? ⟨B,3,none⟩ = some x3
structure Iw (w X : World) (B : Nat) (m : Mb) (fp : Fp) (g off c : Nat) : Prop where
 bcm : Bcm w X B 0 (mb4 m) fp
 rws : X.cell? ⟨B,1,none⟩ = some (.slice (some ⟨g,off,none⟩) m.rows.length c)
theorem Iw.start {w : World} {B : Nat} {m : Mb} {fp : Fp} (h : Plc w B 0 (mb4 m) fp) (hn : 0 < m.rows.length) : ∃ g off c,Iw w w B m fp g off c := by
 obtain ⟨g,off,c,f,h1,_⟩ := h.el (F := rw8) rw8_len (by omega) (j := 1) (L := m.rows) rfl (rowN_at hn)
 exact ⟨g,off,c,Bcm.refl h,h1⟩
theorem Iw.step {w X X' : World} {B : Nat} {m : Mb} {fp : Fp} {g off c : Nat} (h : Iw w X B m fp g off c) (hb : Below X.heap.size X X') : Iw w X' B m fp g off c := ⟨h.bcm.below hb,(hb.cell (World.block_lt_of_cell? _ _ h.rws)).trans h.rws⟩
theorem Iw.box {w X : World} {B : Nat} {m : Mb} {fp : Fp} {g off c : Nat} (h : Iw w X B m fp g off c) (hf : FitM m) : ∃ sa sc,C4 X B (.int .i64 m.id) (.slice (some ⟨g,off,none⟩) m.rows.length c) (.slice sa m.sung.length sc) (.bool m.done) ∧ MbS X ⟨some ⟨g,off,none⟩,c,sa,sc⟩ m := by
 obtain ⟨fp1,hp,_⟩ := h.bcm.next
 have hv := hp.pv
 obtain ⟨u0,c0,rfl⟩ := hv.at (j := 0) rfl
 obtain ⟨u2,c2,v2⟩ := hv.at (j := 1) rfl
 obtain ⟨u3,c3,v3⟩ := hv.at (j := 2) rfl
 obtain ⟨u4,c4,rfl⟩ := hv.at (j := 3) rfl
 have e2 : u2 = .slice (some ⟨g,off,none⟩) m.rows.length c := Option.some.inj (c2.symm.trans h.rws)
 subst e2
 obtain ⟨sa,sc,rfl,s1,s2,s3⟩ := vw_icl v3 hf.2
 have k := v2
 obtain ⟨_,_,_,e,k1,k2,_⟩ := k
 cases e
 exact ⟨sa,sc,⟨c0,c2,c3,c4⟩,v2,s1,by omega,by omega,hf.1⟩
theorem Iw.id' {w X : World} {B : Nat} {m : Mb} {fp : Fp} {g off c : Nat} (h : Iw w X B m fp g off c) : X.cell? ⟨B,0,none⟩ = some (.int .i64 m.id) ∧ X.cell? ⟨B,3,none⟩ = some (.bool m.done) := by
 obtain ⟨fp1,hp,_⟩ := h.bcm.next
 have hv := hp.pv
 obtain ⟨u0,c0,rfl⟩ := hv.at (j := 0) rfl
 obtain ⟨u4,c4,rfl⟩ := hv.at (j := 3) rfl
 exact ⟨c0,c4⟩
theorem Iw.row {w X : World} {B : Nat} {m : Mb} {fp : Fp} {g off c : Nat} (h : Iw w X B m fp g off c) (hf : FitM m) {k : Nat} (hk : k < m.rows.length) : ∃ Ak : Ra,C8 X g (off + k * 8) (.int .i64 (rowN m.rows k).ver) (.slice Ak.ta (rowN m.rows k).txt.length Ak.tc) (.slice Ak.ga (rowN m.rows k).got.length Ak.gc) (.slice Ak.sa (rowN m.rows k).sus.length Ak.sc) (.bool (rowN m.rows k).wed) (.bool (rowN m.rows k).rdy) (.int .i64 (rowN m.rows k).by_) (.slice Ak.ma (rowN m.rows k).trm.length Ak.mc) ∧ RwS X Ak (rowN m.rows k) := by
 obtain ⟨sa,sc,_,h2⟩ := h.box hf
 obtain ⟨g',off',Ak,e,h3,h4⟩ := h2.row hk
 cases e
 exact ⟨Ak,h3,h4⟩
theorem Iw.at {w X : World} {B : Nat} {m : Mb} {fp : Fp} {g off c : Nat} (h : Iw w X B m fp g off c) {k : Nat} (hk : k < m.rows.length) {j : Nat} {cl : Cel} (hj : (rw8 (rowN m.rows k))[j]? = some cl) : ∃ u f,X.cell? ⟨g,off + k * 8 + j,none⟩ = some u ∧ X.frozen? ⟨g,off + k * 8 + j,none⟩ = false ∧ Cel.ow X cl u f ∧ (∀ b,f b → b < X.heap.size) ∧
  ∀ (X1 : World) (c' : Cel) (u' : Value) (f' : Fp) (r' : Rw),(rw8 (rowN m.rows k)).set j c' = rw8 r' → Wrt f X X1 → Cel.ow X1 c' u' f' → (∀ b,f' b → f b ∨ X.heap.size ≤ b) → X1.cell? ⟨g,off + k * 8 + j,none⟩ = some u ∧ X1.frozen? ⟨g,off + k * 8 + j,none⟩ = false ∧ Iw w (X1.setCell ⟨g,off + k * 8 + j,none⟩ u') B { m with rows := m.rows.set k r' } fp g off c ∧ (u' = u → Iw w X1 B { m with rows := m.rows.set k r' } fp g off c) := by
 obtain ⟨fp1,hp,hf1,hgo⟩ := h.bcm.next
 obtain ⟨g',off',c',f,h1,hgB,hfg,hfs,hpl,hput⟩ := hp.el (F := rw8) rw8_len (by omega) (j := 1) (L := m.rows) rfl (rowN_at hk)
 have e := Option.some.inj (h1.symm.trans h.rws)
 cases e
 obtain ⟨u,fj,hu,hfz,hc,hsub,hnB,hset⟩ := hpl.at hj
 have hBX := hp.lt
 refine ⟨u,fj,hu,hfz,hc,Cel.ow_lt hc,fun X1 c' u' f' r' er hw hc' hf' => ?_⟩
 obtain ⟨k1,k2,k3,k4⟩ := hset X1 c' u' f' hw hc' hf'
 rw [er] at k3 k4
 have hBf : ¬ fj B := fun hb => hp.nB (hfs B (hsub B hb))
 have hr1 : X1.cell? ⟨B,1,none⟩ = some (.slice (some ⟨g,off,none⟩) m.rows.length c) := (World.cell?_of_block (hw.block B hBX hBf)).trans h.rws
 have key : ∀ Z,Bcm X Z g (off + k * 8) (rw8 r') f → Bcm w Z B 0 (mb4 { m with rows := m.rows.set k r' }) fp := fun Z hZ => hgo Z _ rfl (hput Z r' hZ)
 refine ⟨k1,k2,⟨key _ k3, ?_⟩,fun e => ⟨key _ (k4 e), ?_⟩⟩
 ·rw [World.cell?_setCell_other _ _ _ _ (by simp only [ne_eq,Addr.mk.injEq,not_and];intro e;exact absurd e hgB),hr1]
  simp
 ·rw [hr1];simp
theorem Iw.put {w X : World} {B : Nat} {m : Mb} {fp : Fp} {g off c : Nat} (h : Iw w X B m fp g off c) {k : Nat} (hk : k < m.rows.length) {j : Nat} {x y : Value} (hj : (rw8 (rowN m.rows k))[j]? = some (.v x)) {r' : Rw} (er : (rw8 (rowN m.rows k)).set j (.v y) = rw8 r') :
  X.cell? ⟨g,off + k * 8 + j,none⟩ = some x ∧ X.frozen? ⟨g,off + k * 8 + j,none⟩ = false ∧ Iw w (X.setCell ⟨g,off + k * 8 + j,none⟩ y) B { m with rows := m.rows.set k r' } fp g off c := by
 obtain ⟨u,f,h1,h2,⟨rfl,h3⟩,_,h4⟩ := h.at hk hj
 exact ⟨h1,h2,(h4 X (.v y) y (fun _ => False) r' er (Wrt.refl _ _) ⟨rfl,fun _ h => h⟩ (fun b hb => hb.elim)).2.2.1⟩
end Go.Proofs.Ythioodpmgifomaa
namespace Go.Proofs.Ythioodpmgifomaa
set_option linter.unusedVariables false
set_option linter.unusedSimpArgs false
open Go.RowKit Go.Sort
def Gu (e : Ending) : Prop := ∃ T v,e = .panicked [{ v := .iface T v,recovered := false }]
set_option maxHeartbeats 400000 in
theorem wantT (w : World) : Calls Try.prog 121 #[.bool true] w fun e w' => e = .returned (.tuple #[]) ∧ w' = w := by
 have hnot : ∀ (x : Bool) (w : World),(Op.unary .not (.bool x)).run Try.prog w = .ok (.bool (!x)) w := fun _ _ => rfl
 go_enter Try.func121,Try.ntmps121
 go_wp2
 first | go_end0 | go_ret
 exact ⟨rfl,rfl⟩
set_option maxHeartbeats 400000 in
theorem wantF (w : World) : Calls Try.prog 121 #[.bool false] w fun e w' => Gu e ∧ w' = w := by
 go_enter Try.func121,Try.ntmps121
 go_wp2
 exact ⟨rfl,⟨_,_,rfl⟩,rfl⟩
theorem tellP (p : Addr) (x : Value) (u : TypeId) (pv : Value) (older : List PanicEntry) (w : World) (hc : w.cell? p = some x) (hz : w.frozen? p = false) :
  CallsD Try.prog 143 #[.pointer (some p)] (.panicking ({ v := .iface u pv,recovered := false } :: older)) w fun e u' w' =>
   e = .returned (.tuple #[]) ∧ u' = .panicking ({ v := .iface u pv,recovered := true } :: older) ∧ w' = w.setCell p (.bool false) := by
 refine callsD_of_wpS Try.func143 rfl fun c₀ cs hu => ?_
 apply wpS_region
 simp [wpOpsS,go_sem,recoverD,hu,Try.ntmps143,hc,hz,bodyPostS,results,Try.results143]
theorem tellR (p : Addr) (x : Value) (w : World) (hc : w.cell? p = some x) (hz : w.frozen? p = false) :
  CallsD Try.prog 143 #[.pointer (some p)] .returning w fun e u' w' => e = .returned (.tuple #[]) ∧ u' = .returning ∧ w' = w.setCell p (.bool true) := by
 refine callsD_of_wpS Try.func143 rfl fun c₀ cs hu => ?_
 apply wpS_region
 simp [wpOpsS,go_sem,recoverD,hu,Try.ntmps143,hc,hz,bodyPostS,results,Try.results143]
 cases c₀
 simp_all
set_option maxRecDepth 100000 in
set_option maxHeartbeats 800000 in
theorem told_any (F : Nat) (C D : Array Value) (w : World) (Q : Bool → World → Prop) (hE : ∀ (args : Array Value) (w : World),(callFunc F args).run Try.prog w = .ok (.enter F args) w)
  (h : Calls Try.prog F (C ++ D) (w.alloc (.cells #[.bool false] 4)) fun e w' => (e = .returned (.tuple #[]) ∧ Q true w') ∨ (Gu e ∧ Q false w')) (hq : ∀ b w',Q b w' → Bx w' w.heap.size 4 #[.bool false]) :
  Calls Try.prog 119 #[.func (.func F) C D] w fun e w' => ∃ b X,e = .returned (.bool b) ∧ Q b X ∧ Wrt (fun x => x = w.heap.size) X w' := by
 have hmf : ∀ (fn : Fn) (first cap : Array Value) (w : World),(Instr.makeFunc fn first cap).run Try.prog w = .ok (.func fn first cap) w := fun _ _ _ _ => rfl
 have HQ : Hid (∀ b w',Q b w' → Bx w' w.heap.size 4 #[.bool false]) := hq
 clear hq
 go_enter_defers Try.func119,Try.ntmps119
 go_wp2_with fail
 refine h.mono ?_
 rintro e w1 (⟨rfl,hQ⟩ | ⟨⟨T,v,rfl⟩,hQ⟩)
 ·have hx := HQ.out _ _ hQ
  have c0 := hx.at 0 (v := .bool false) rfl
  have f0 := hx.f 0
  have HQ1 : Hid (Q true w1) := hQ
  clear hQ h hx
  go_wp2
  refine leaves_cons (f := 143) (args := #[.pointer (some ⟨w.heap.size,0,none⟩)]) (by simp) (by simp [go_sem]) ?_
  refine (tellR ⟨w.heap.size,0,none⟩ (.bool true) _ (World.cell?_setCell_same _ _ _ c0) (by rw [World.frozen?_setCell];exact f0)).mono ?_
  rintro e u' w'' ⟨rfl,rfl,rfl⟩
  have hc : ((w1.setCell ⟨w.heap.size,0,none⟩ (.bool true)).setCell ⟨w.heap.size,0,none⟩ (.bool true)).cell? ⟨w.heap.size,0,none⟩ = some (.bool true) := World.cell?_setCell_same _ _ _ (World.cell?_setCell_same _ _ _ c0)
  have hW := (Wrt.set w1 w.heap.size 0 (.bool true)).trans (Wrt.set (w1.setCell ⟨w.heap.size,0,none⟩ (.bool true)) w.heap.size 0 (.bool true)) (fun _ _ h => h)
  generalize (w1.setCell ⟨w.heap.size,0,none⟩ (.bool true)).setCell ⟨w.heap.size,0,none⟩ (.bool true) = W2 at *
  refine ⟨.bool true,by simp [results,Try.results119,go_sem,hc],true,w1,rfl,HQ1.out,hW⟩
 ·have hx := HQ.out _ _ hQ
  have c0 := hx.at 0 (v := .bool false) rfl
  have f0 := hx.f 0
  have HQ1 : Hid (Q false w1) := hQ
  clear hQ h hx
  simp only
  refine leaves_cons (f := 143) (args := #[.pointer (some ⟨w.heap.size,0,none⟩)]) (by simp) (by simp [go_sem]) ?_
  refine (tellP ⟨w.heap.size,0,none⟩ (.bool false) T v [] _ c0 f0).mono ?_
  rintro e u' w'' ⟨rfl,rfl,rfl⟩
  have hc : (w1.setCell ⟨w.heap.size,0,none⟩ (.bool false)).cell? ⟨w.heap.size,0,none⟩ = some (.bool false) := World.cell?_setCell_same _ _ _ c0
  have hW := Wrt.set w1 w.heap.size 0 (.bool false)
  generalize w1.setCell ⟨w.heap.size,0,none⟩ (.bool false) = W2 at *
  refine ⟨.bool false,by simp [results,Try.results119,go_sem,hc],false,w1,rfl,HQ1.out,hW⟩
end Go.Proofs.Ythioodpmgifomaa
namespace Go.Proofs.Ythioodpmgifomaa
set_option linter.unusedVariables false
set_option linter.unusedSimpArgs false
open Go.RowKit Go.Sort
set_option maxHeartbeats 400000 in
theorem isW14_any (n last : Int) (w : World) : Calls Try.prog 137 #[.int .i64 n,.int .i64 last] w fun e w' => e = .returned (.bool (inB n 0 last)) ∧ w' = w := by
 by_cases h0 : (0 : Int) ≤ n
 ·have H : Hid (inB n 0 last = decide (n ≤ last)) := by rw [Hid,inB];simp [h0]
  go_enter Try.func137,Try.ntmps137
  go_wp2
  go_ret
  exact ⟨ret_bool (by rw [H.out]),rfl⟩
 ·have H : Hid (inB n 0 last = false) := by rw [Hid,inB];simp [h0]
  go_enter Try.func137,Try.ntmps137
  go_wp2
  go_ret
  exact ⟨ret_bool (by rw [H.out]),rfl⟩
set_option maxHeartbeats 800000 in
theorem rw14_any (a : Option Addr) (len cap : Nat) (B : Int) (xs : List Int) (w : World) (hv : Vec w a len xs) (hm : len ≤ maxLen) :
  Calls Try.prog 146 #[.slice a len cap,.int .i64 (B - 1)] w fun e w' => e = .returned (.bool (decide (okRow B xs))) ∧ w' = w := by
 unfold maxLen at hm
 have HL : Hid (xs.length = len) := hv.1
 have hc := hv.2.2
 clear hv
 go_enter Try.func146,Try.ntmps146
 go_wp2
 go_loop [9] (fun i => ∃ k : Nat,k ≤ len ∧ i = .int .i64 k ∧ (∀ j,j < k → 0 ≤ el xs j ∧ el xs j ≤ B - 1) ∧ ∀ j,j + 1 < k → el xs j < el xs (j + 1)) (fun i => len - (intOf i).toNat)
 case atStart => exact ⟨0,Nat.zero_le _,rfl,fun j hj => by omega,fun j hj => by omega⟩
 case round =>
  obtain ⟨k,hk,rfl,hin,hri⟩ := hrel
  have HI : Hid (∀ j,j < k → 0 ≤ el xs j ∧ el xs j ≤ B - 1) := hin
  have HR : Hid (∀ j,j + 1 < k → el xs j < el xs (j + 1)) := hri
  clear hin hri
  by_cases hlt : k < len
  ·rcases hc with h0 | ⟨b,off,rfl,hc⟩
   ·omega
   have hck := hc k hlt
   have k0 : (0 : Int) ≤ (k : Int) := by omega
   have k1 : (k : Int) < (len : Int) := by omega
   cases e4 : inB (el xs k) 0 (B - 1) with
   | false =>
    have HF : Hid (decide (okRow B xs) = false) := decide_eq_false (fun h => by
     have := h.1 k (by rw [HL.out];exact hlt)
     rw [inB7.2 this] at e4
     cases e4)
    go_wp2_with (go_at_call 137;refine (isW14_any _ _ _).mono ?_;rintro e w' ⟨rfl,hw'⟩;rw [hw'];clear hw')
    go_ret
    exact ⟨ret_bool (by rw [HF.out]),rfl⟩
   | true =>
    have HX : Hid (0 ≤ el xs k ∧ el xs k ≤ B - 1) := inB7.1 e4
    by_cases hk0 : 0 < k
    ·obtain ⟨q,rfl⟩ : ∃ q,k = q + 1 := ⟨k - 1,by omega⟩
     have hcq := hc q (by omega)
     have hg : decide (((q + 1 : Nat) : Int) > 0) = true := decide_eq_true (by omega)
     have g0 : (0 : Int) < ((q + 1 : Nat) : Int) := by omega
     have hq : wrap64 (((q + 1 : Nat) : Int) - 1) = (q : Int) := by unfold wrap64;omega
     have q0 : (0 : Int) ≤ (q : Int) := by omega
     have q1 : (q : Int) < (len : Int) := by omega
     by_cases hx : el xs q < el xs (q + 1)
     ·have hd : decide (el xs (q + 1) ≤ el xs q) = false := by simp;omega
      have HY : Hid (el xs q < el xs (q + 1)) := hx
      clear hx
      go_wp2_with (go_at_call 137;refine (isW14_any _ _ _).mono ?_;rintro e w' ⟨rfl,hw'⟩;rw [hw'];clear hw')
      go_round
      case rel => exact ⟨q + 1 + 1,by omega,by go_num,fun j hj => by
       rcases Nat.lt_succ_iff_lt_or_eq.1 hj with h | h
       ·exact HI.out j h
       ·rw [h];exact HX.out,fun j hj => by
       rcases Nat.lt_succ_iff_lt_or_eq.1 hj with h | h
       ·exact HR.out j h
       ·have : j = q := by omega
        rw [this];exact HY.out⟩
      case measure => simp [intOf];omega
     ·have hd : decide (el xs (q + 1) ≤ el xs q) = true := by simp;omega
      have HF : Hid (decide (okRow B xs) = false) := decide_eq_false (fun h => hx (h.2 q (by rw [HL.out];omega)))
      clear hx
      go_wp2_with (go_at_call 137;refine (isW14_any _ _ _).mono ?_;rintro e w' ⟨rfl,hw'⟩;rw [hw'];clear hw')
      go_ret
      exact ⟨ret_bool (by rw [HF.out]),rfl⟩
    ·obtain rfl : k = 0 := by omega
     rw [Nat.add_zero] at hck
     go_wp2_with (go_at_call 137;refine (isW14_any _ _ _).mono ?_;rintro e w' ⟨rfl,hw'⟩;rw [hw'];clear hw')
     go_round
     case rel => exact ⟨1,by omega,by go_num,fun j hj => by
      obtain rfl : j = 0 := by omega
      exact HX.out,fun j hj => by omega⟩
     case measure => simp [intOf];omega
  ·have hkl : k = len := by omega
   have HF : Hid (decide (okRow B xs) = true) := decide_eq_true ⟨fun j hj => HI.out j (by rw [HL.out] at hj;omega),fun j hj => HR.out j (by rw [HL.out] at hj;omega)⟩
   subst hkl
   clear hc
   go_wp2
   go_ret
   exact ⟨ret_bool (by rw [HF.out]),rfl⟩
def IsIdx (xs : List Int) (x z : Int) : Prop := (∃ k : Nat,k < xs.length ∧ z = (k : Int) ∧ el xs k = x ∧ ∀ j,j < k → el xs j ≠ x) ∨ (z = -1 ∧ ∀ j,j < xs.length → el xs j ≠ x)
theorem IsIdx.mem {xs : List Int} {x z : Int} (h : IsIdx xs x z) : decide (0 ≤ z) = decide (x ∈ xs) := by
 rcases h with ⟨k,hk,rfl,rfl,_⟩ | ⟨rfl,h⟩
 ·rw [decide_eq_true (el_in hk),decide_eq_true (by omega)]
 ·rw [decide_eq_false (by omega),decide_eq_false (fun hx => by obtain ⟨i,hi,e⟩ := el_of hx;exact h i hi e)]
set_option maxHeartbeats 800000 in
theorem idx14_any (a : Option Addr) (cap : Nat) (xs : List Int) (x : Int) (w : World) (hv : Vec w a xs.length xs) (hm : xs.length ≤ maxLen) :
  Calls Try.prog 148 #[.slice a xs.length cap,.int .i64 x] w fun e w' => (∃ z : Int,e = .returned (.int .i64 z) ∧ IsIdx xs x z) ∧ w' = w := by
 unfold maxLen at hm
 have hc := hv.2.2
 clear hv
 go_enter Try.func148,Try.ntmps148
 go_wp2
 go_loop [8] (fun i => ∃ k : Nat,k ≤ xs.length ∧ i = .int .i64 k ∧ ∀ j,j < k → el xs j ≠ x) (fun i => xs.length - (intOf i).toNat)
 case atStart => exact ⟨0,Nat.zero_le _,rfl,fun j hj => by omega⟩
 case round =>
  obtain ⟨k,hk,rfl,hall⟩ := hrel
  have HA : Hid (∀ j,j < k → el xs j ≠ x) := hall
  clear hall
  by_cases hlt : k < xs.length
  ·rcases hc with h0 | ⟨b,off,rfl,hc⟩
   ·omega
   have hck := hc k hlt
   clear hc
   have k0 : (0 : Int) ≤ (k : Int) := by omega
   have k1 : (k : Int) < (xs.length : Int) := by omega
   by_cases hx : el xs k = x
   ·have HX : Hid (IsIdx xs x (k : Int)) := .inl ⟨k,hlt,rfl,hx,HA.out⟩
    have hq : (x == el xs k) = true := by simp [hx]
    clear hx
    generalize el xs k = E at *
    go_wp2
    go_ret
    exact ⟨⟨_,rfl,HX.out⟩,rfl⟩
   ·have HX : Hid (∀ j,j < k + 1 → el xs j ≠ x) := fun j hj => by
     by_cases e : j = k
     ·rw [e];exact hx
     ·exact HA.out j (by omega)
    have hq : (x == el xs k) = false := by simp [Ne.symm hx]
    clear hx
    generalize el xs k = E at *
    go_wp2
    go_round
    case rel => exact ⟨k + 1,by omega,by go_num,HX.out⟩
    case measure => simp [intOf];omega
  ·have k1 : ¬ ((k : Int) < (xs.length : Int)) := by omega
   obtain rfl : k = xs.length := by omega
   clear hc
   go_wp2
   go_ret
   exact ⟨⟨_,rfl,.inr ⟨rfl,HA.out⟩⟩,rfl⟩
set_option maxHeartbeats 400000 in
theorem con14_any (a : Option Addr) (cap : Nat) (xs : List Int) (x : Int) (w : World) (hv : Vec w a xs.length xs) (hm : xs.length ≤ maxLen) :
  Calls Try.prog 138 #[.slice a xs.length cap,.int .i64 x] w fun e w' => e = .returned (.bool (decide (x ∈ xs))) ∧ w' = w := by
 have hI := idx14_any a cap xs x w hv hm
 clear hv
 go_enter Try.func138,Try.ntmps138
 go_wp2_with (go_at_call 148;refine hI.mono ?_;rintro e w' ⟨⟨z,rfl,hz⟩,hw'⟩;rw [hw'];clear hw';have HZ : Hid (IsIdx xs x z) := hz;clear hz)
 go_ret
 exact ⟨ret_bool (by rw [← HZ.out.mem]),rfl⟩
end Go.Proofs.Ythioodpmgifomaa
namespace Go.Proofs.Ythioodpmgifomaa
set_option linter.unusedVariables false
set_option linter.unusedSimpArgs false
open Go.RowKit Go.Sort
set_option maxHeartbeats 400000 in
theorem cnt_any (B : Nat) (a : Option Addr) (n c : Nat) (X : World) (h1 : X.cell? ⟨B,1,none⟩ = some (.slice a n c)) :
  Calls Try.prog 128 #[.pointer (some ⟨B,0,none⟩)] X fun e w' => e = .returned (.int .i64 (n : Int)) ∧ w' = X := by
 go_enter Try.func128,Try.ntmps128
 go_wp2
 go_ret
 exact ⟨rfl,rfl⟩
set_option maxRecDepth 100000 in
set_option maxHeartbeats 800000 in
theorem own_any (B i n g off c : Nat) (X : World) (h0 : X.cell? ⟨B,0,none⟩ = some (.int .i64 (i : Int))) (h1 : X.cell? ⟨B,1,none⟩ = some (.slice (some ⟨g,off,none⟩) n c)) (hi : i < n) :
  Calls Try.prog 123 #[.pointer (some ⟨B,0,none⟩)] X fun e w' => e = .returned (.pointer (some ⟨g,off + i * 8,none⟩)) ∧ Below X.heap.size X w' := by
 have hmix := mixed17
 have i0 : (0 : Int) ≤ (i : Int) := by omega
 have i1 : (i : Int) < (n : Int) := by omega
 have T : ∀ {x v},X.cell? x = some v → ∀ q : Bk X,q.w.cell? x = some v := fun h q => (q.h.cell (World.block_lt_of_cell? _ _ h)).trans h
 have p0 := T h0
 have p1 := T h1
 clear T h0 h1
 go_enter Try.func123,Try.ntmps123
 go_wp2_with fail
 refine wp_region_bk (by kernel_rfl) (by kernel_rfl) ?_
 repeat (go_big_quiet_step ((first | rfl)))
 refine wpQuiet_nil ?_
 intro wE hw'
 obtain ⟨⟨w11,hb11⟩,hw''⟩ := hw'
 have hwe : wE = w11 := hw''
 clear hw''
 subst hwe
 have HB : Hid (Below X.heap.size X wE) := hb11
 clear p0 p1 hb11
 go_wp2
 go_ret
 exact ⟨rfl,HB.out⟩
end Go.Proofs.Ythioodpmgifomaa
namespace Go.Proofs.Ythioodpmgifomaa
set_option linter.unusedSimpArgs false
set_option linter.unusedVariables false
open Go.RowKit Go.Sort Go.Shelf
def Try.cloneL_ren : Go.Shelf.Ren := ⟨fun | 316 => 144 | n => n,fun | 9 => 9 | 3 => 3 | 4 => 4 | 37 => 22 | 0 => 0 | 127 => 161 | 5 => 5 | n => n,fun | n => n⟩
theorem Try.cloneL : Go.Proofs.LaysM.n316 Try.prog Try.cloneL_ren := {
 mixed := by kernel_rfl
 f316 := Try.func144.trans (congrArg some (by kernel_rfl))
 t0 := Try.underlying0
 a0 := Try.isAgg0
 z0 := Try.sizeOf0
 v0 := Try.zeroValue0
 t3 := Try.underlying3
 a3 := Try.isAgg3
 z3 := Try.sizeOf3
 v3 := Try.zeroValue3
 t4 := Try.underlying4
 a4 := Try.isAgg4
 z4 := Try.sizeOf4
 v4 := Try.zeroValue4
 t9 := Try.underlying9
 a9 := Try.isAgg9
 z9 := Try.sizeOf9
 v9 := Try.zeroValue9
 t37 := Try.underlying22
 a37 := Try.isAgg22
 z37 := Try.sizeOf22
 v37 := Try.zeroValue22
 t127 := Try.underlying161
 a127 := Try.isAgg161
 z127 := Try.sizeOf161
 v127 := Try.zeroValue161
 t5 := Try.underlying5
 a5 := Try.isAgg5
 z5 := Try.sizeOf5
 v5 := Try.zeroValue5
 i0 := by kernel_rfl
 i3 := by kernel_rfl
 i4 := by kernel_rfl
 i5 := by kernel_rfl
 i9 := by kernel_rfl
 i37 := by kernel_rfl
 i127 := by kernel_rfl }
set_option maxHeartbeats 400000 in
theorem clone_any (l : List UInt8) (w : World) (hl : l.length ≤ 1048576) :
  Calls Try.prog 124 #[.string (sv l)] w fun e w' => e = .returned (.string (sv l)) ∧ Below w.heap.size w w' := by
 have h := Any.stringslite_Clone Try.cloneL (sv l) w (by rw [sv_size];omega)
 go_enter Try.func124,Try.ntmps124
 go_wp2_with fail
 refine h.mono ?_
 rintro e w1 ⟨rfl,hb⟩
 have HB : Hid (Below w.heap.size w w1) := hb
 clear hb h
 go_wp2
 go_ret
 exact ⟨rfl,HB.out⟩
end Go.Proofs.Ythioodpmgifomaa
namespace Go.Proofs.Ythioodpmgifomaa
set_option linter.unusedVariables false
set_option linter.unusedSimpArgs false
open Go.RowKit Go.Sort
section
variable {P : Program} {l : List Oper} {Q : Exit → Act → World → Prop} {S : World → Prop}
theorem gt_oneN {i z : Nat} {o : Oper} {fuel : Nat} {listed : Array Bool} {a : Act} {w : World} (hn : ¬ S w) (hi : l[i]? = some o) (hr : Region.ready .any l.toArray listed = [i])
  (h : ∀ K' : Act → World → Prop,Shut (∀ a w,GT P l Q S z fuel (listed.setIfInBounds i true) a w → K' a w) → if Region.wanted o (yielded l.toArray a.tmps) = true then Oper.wp P o a w K' Q else K' (a.put o.dst undef) w) : GT P l Q S z (fuel + 1) listed a w := by
 have hi' : l.toArray[i]? = some o := by simpa using hi
 refine ⟨fun h0 => (by rw [hr] at h0;cases h0),fun j hj => ?_⟩
 rw [hr] at hj
 simp at hj
 subst hj
 exact wpOp_step hi' (fun K' hK => h K' (fun a w hW => hK a w ⟨fun _ hS => absurd hS hn,hW⟩))
theorem gt_oneZ {z : Nat} {o : Oper} {fuel : Nat} {listed : Array Bool} {a : Act} {w : World} (hi : l[z]? = some o) (hr : Region.ready .any l.toArray listed = [z])
  (h : ∀ K' : Act → World → Prop,Shut (∀ a w,GT P l Q S z fuel (listed.setIfInBounds z true) a w → K' a w) → if Region.wanted o (yielded l.toArray a.tmps) = true then Oper.wp P o a w K' Q else K' (a.put o.dst undef) w) : GT P l Q S z (fuel + 1) listed a w := by
 have hi' : l.toArray[z]? = some o := by simpa using hi
 refine ⟨fun h0 => (by rw [hr] at h0;cases h0),fun j hj => ?_⟩
 rw [hr] at hj
 simp at hj
 subst hj
 exact wpOp_step hi' (fun K' hK => h K' (fun a w hW => hK a w ⟨fun e _ => absurd rfl e,hW⟩))
end
set_option maxRecDepth 100000 in
set_option maxHeartbeats 800000 in
theorem cln_any (a : Option Addr) (c : Nat) (xs : List Int) (w : World) (hv : Vec w a xs.length xs) (hl : xs.length ≤ 1000000) :
  Calls Try.prog 145 #[.slice a xs.length c] w fun e w' => AnsL w w' e xs := by
 have q25 : ∀ (w : World) (a : Option Addr) (n c n' c' : Nat),(binOp .eql 24 (.slice a n c) (.slice none n' c')).run Try.prog w = .ok (.bool a.isNone) w := fun w a n c n' c' => Lib.run_eql_slice_nil w _ _ a n c n' c' Try.underlying24
 cases a with
 | none =>
  have hx : xs = [] := by
   rcases hv.2.2 with h | ⟨b,o,e,_⟩
   ·exact List.eq_nil_of_length_eq_zero h
   ·cases e
  subst hx
  clear hv
  go_enter Try.func145,Try.ntmps145
  go_wp2
  go_ret
  exact ⟨none,0,rfl,fun _ => False,ow_icl.2 ⟨none,0,none,rfl,OSo.nil _ _ (fun _ h => by cases h),fun b => by simp⟩,fun _ h => h.elim,Below.refl _ _⟩
 | some ad =>
  have hA := vec_copied (c := c) hv hl
  clear hv
  go_enter Try.func145,Try.ntmps145
  go_wp2_with (at_builtin;refine wpList_append_of (by rfl) _ _ _ _ (by rfl) _ _ (by rfl) (by rfl) hA ⟨rfl,rfl,rfl,rfl⟩ ?_;rintro v1 w1 ⟨a1,e1,f1,rfl,q1,q2,q3⟩;have HQ : Hid (NewO w w1 (icl xs) (.slice a1 xs.length e1)) := ⟨f1,q1,q2,q3⟩;clear q1 q2 q3 hA)
  go_ret
  exact ⟨a1,e1,rfl,HQ.out⟩
end Go.Proofs.Ythioodpmgifomaa