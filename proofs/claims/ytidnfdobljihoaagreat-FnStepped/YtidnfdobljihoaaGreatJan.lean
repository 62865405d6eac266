/-
  Texts in one: Ivk Nmd Nme Nmv Cln Nmg Nmh Rzi.
-/
import Derived.Test.YtidnfdobljihoaaGreatJac
import Derived.Test.YtidnfdobljihoaaGreatJab
import Derived.Test.YtidnfdobljihoaaGreatJam
import Derived.Test.YtidnfdobljihoaaGreatJae
import Derived.Test.YtidnfdobljihoaaGreatJaf
import Derived.Test.YtidnfdobljihoaaGreatJag
import Derived.Shelf.Strconv.Clone
import Derived.Shelf.SlGeneric
import Derived.Lib.SliceRun
import Derived.BigQuiet
namespace Go.Proofs.YtidnfdobljihoaaGreat
set_option linter.unusedVariables false
set_option linter.unusedSimpArgs false
open Go.RowKit Go.Sort
set_option maxHeartbeats 400000 in
theorem isW14_any (n last : Int) (w : World) : Calls Tryz.prog 100 #[.int .i64 n,.int .i64 last] w fun e w' => e = .returned (.bool (inB n 0 last)) ∧ w' = w := by
 by_cases h0 : (0 : Int) ≤ n
 ·have H : Hid (inB n 0 last = decide (n ≤ last)) := by rw [Hid,inB];simp [h0]
  go_enter Tryz.func100,Tryz.ntmps100
  go_wp2
  go_ret
  exact ⟨ret_bool (by rw [H.out]),rfl⟩
 ·have H : Hid (inB n 0 last = false) := by rw [Hid,inB];simp [h0]
  go_enter Tryz.func100,Tryz.ntmps100
  go_wp2
  go_ret
  exact ⟨ret_bool (by rw [H.out]),rfl⟩
set_option maxHeartbeats 800000 in
theorem rw14_any (a : Option Addr) (len cap : Nat) (B : Int) (xs : List Int) (w : World) (hv : Vec w a len xs) (hm : len ≤ maxLen) :
  Calls Tryz.prog 102 #[.slice a len cap,.int .i64 (B - 1)] w fun e w' => e = .returned (.bool (decide (okRow B xs))) ∧ w' = w := by
 unfold maxLen at hm
 have HL : Hid (xs.length = len) := hv.1
 have hc := hv.2.2
 clear hv
 go_enter Tryz.func102,Tryz.ntmps102
 go_wp2
 go_loop [9] (fun i => ∃ k : Nat,k ≤ len ∧ i = .int .i64 k ∧ (∀ j,j < k → 0 ≤ el xs j ∧ el xs j ≤ B - 1) ∧ ∀ j,j + 1 < k → el xs j < el xs (j + 1)) (fun i => len - (intOf i).toNat)
 case atStart => exact ⟨0,Nat.zero_le _,rfl,fun j hj => by omega,fun j hj => by omega⟩
 case round =>
  obtain ⟨k,hk,rfl,hin,hri⟩ := hrel
  have HI : Hid (∀ j,j < k → 0 ≤ el xs j ∧ el xs j ≤ B - 1) := hin
  have HR : Hid (∀ j,j + 1 < k → el xs j < el xs (j + 1)) := hri
  clear hin hri
  by_cases hlt : k < len
  ·rcases hc with h0 | ⟨b,off,rfl,hc⟩
   ·omega
   have hck := hc k hlt
   have k0 : (0 : Int) ≤ (k : Int) := by omega
   have k1 : (k : Int) < (len : Int) := by omega
   cases e4 : inB (el xs k) 0 (B - 1) with
   | false =>
    have HF : Hid (decide (okRow B xs) = false) := decide_eq_false (fun h => by
     have := h.1 k (by rw [HL.out];exact hlt)
     rw [inB7.2 this] at e4
     cases e4)
    go_wp2_with (go_at_call 100;refine (isW14_any _ _ _).mono ?_;rintro e w' ⟨rfl,hw'⟩;rw [hw'];clear hw')
    go_ret
    exact ⟨ret_bool (by rw [HF.out]),rfl⟩
   | true =>
    have HX : Hid (0 ≤ el xs k ∧ el xs k ≤ B - 1) := inB7.1 e4
    by_cases hk0 : 0 < k
    ·obtain ⟨q,rfl⟩ : ∃ q,k = q + 1 := ⟨k - 1,by omega⟩
     have hcq := hc q (by omega)
     have hg : decide (((q + 1 : Nat) : Int) > 0) = true := decide_eq_true (by omega)
     have g0 : (0 : Int) < ((q + 1 : Nat) : Int) := by omega
     have hq : wrap64 (((q + 1 : Nat) : Int) - 1) = (q : Int) := by unfold wrap64;omega
     have q0 : (0 : Int) ≤ (q : Int) := by omega
     have q1 : (q : Int) < (len : Int) := by omega
     by_cases hx : el xs q < el xs (q + 1)
     ·have hd : decide (el xs (q + 1) ≤ el xs q) = false := by simp;omega
      have HY : Hid (el xs q < el xs (q + 1)) := hx
      clear hx
      go_wp2_with (go_at_call 100;refine (isW14_any _ _ _).mono ?_;rintro e w' ⟨rfl,hw'⟩;rw [hw'];clear hw')
      go_round
      case rel => exact ⟨q + 1 + 1,by omega,by go_num,fun j hj => by
       rcases Nat.lt_succ_iff_lt_or_eq.1 hj with h | h
       ·exact HI.out j h
       ·rw [h];exact HX.out,fun j hj => by
       rcases Nat.lt_succ_iff_lt_or_eq.1 hj with h | h
       ·exact HR.out j h
       ·have : j = q := by omega
        rw [this];exact HY.out⟩
      case measure => simp [intOf];omega
     ·have hd : decide (el xs (q + 1) ≤ el xs q) = true := by simp;omega
      have HF : Hid (decide (okRow B xs) = false) := decide_eq_false (fun h => hx (h.2 q (by rw [HL.out];omega)))
      clear hx
      go_wp2_with (go_at_call 100;refine (isW14_any _ _ _).mono ?_;rintro e w' ⟨rfl,hw'⟩;rw [hw'];clear hw')
      go_ret
      exact ⟨ret_bool (by rw [HF.out]),rfl⟩
    ·obtain rfl : k = 0 := by omega
     rw [Nat.add_zero] at hck
     go_wp2_with (go_at_call 100;refine (isW14_any _ _ _).mono ?_;rintro e w' ⟨rfl,hw'⟩;rw [hw'];clear hw')
     go_round
     case rel => exact ⟨1,by omega,by go_num,fun j hj => by
      obtain rfl : j = 0 := by omega
      exact HX.out,fun j hj => by omega⟩
     case measure => simp [intOf];omega
  ·have hkl : k = len := by omega
   have HF : Hid (decide (okRow B xs) = true) := decide_eq_true ⟨fun j hj => HI.out j (by rw [HL.out] at hj;omega),fun j hj => HR.out j (by rw [HL.out] at hj;omega)⟩
   subst hkl
   clear hc
   go_wp2
   go_ret
   exact ⟨ret_bool (by rw [HF.out]),rfl⟩
def IsIdx (xs : List Int) (x z : Int) : Prop := (∃ k : Nat,k < xs.length ∧ z = (k : Int) ∧ el xs k = x ∧ ∀ j,j < k → el xs j ≠ x) ∨ (z = -1 ∧ ∀ j,j < xs.length → el xs j ≠ x)
theorem IsIdx.mem {xs : List Int} {x z : Int} (h : IsIdx xs x z) : decide (0 ≤ z) = decide (x ∈ xs) := by
 rcases h with ⟨k,hk,rfl,rfl,_⟩ | ⟨rfl,h⟩
 ·rw [decide_eq_true (el_in hk),decide_eq_true (by omega)]
 ·rw [decide_eq_false (by omega),decide_eq_false (fun hx => by obtain ⟨i,hi,e⟩ := el_of hx;exact h i hi e)]
set_option maxHeartbeats 800000 in
theorem idx14_any (a : Option Addr) (cap : Nat) (xs : List Int) (x : Int) (w : World) (hv : Vec w a xs.length xs) (hm : xs.length ≤ maxLen) :
  Calls Tryz.prog 156 #[.slice a xs.length cap,.int .i64 x] w fun e w' => (∃ z : Int,e = .returned (.int .i64 z) ∧ IsIdx xs x z) ∧ w' = w := by
 unfold maxLen at hm
 have hc := hv.2.2
 clear hv
 go_enter Tryz.func156,Tryz.ntmps156
 go_wp2
 go_loop [8] (fun i => ∃ k : Nat,k ≤ xs.length ∧ i = .int .i64 k ∧ ∀ j,j < k → el xs j ≠ x) (fun i => xs.length - (intOf i).toNat)
 case atStart => exact ⟨0,Nat.zero_le _,rfl,fun j hj => by omega⟩
 case round =>
  obtain ⟨k,hk,rfl,hall⟩ := hrel
  have HA : Hid (∀ j,j < k → el xs j ≠ x) := hall
  clear hall
  by_cases hlt : k < xs.length
  ·rcases hc with h0 | ⟨b,off,rfl,hc⟩
   ·omega
   have hck := hc k hlt
   clear hc
   have k0 : (0 : Int) ≤ (k : Int) := by omega
   have k1 : (k : Int) < (xs.length : Int) := by omega
   by_cases hx : el xs k = x
   ·have HX : Hid (IsIdx xs x (k : Int)) := .inl ⟨k,hlt,rfl,hx,HA.out⟩
    have hq : (x == el xs k) = true := by simp [hx]
    clear hx
    generalize el xs k = E at *
    go_wp2
    go_ret
    exact ⟨⟨_,rfl,HX.out⟩,rfl⟩
   ·have HX : Hid (∀ j,j < k + 1 → el xs j ≠ x) := fun j hj => by
     by_cases e : j = k
     ·rw [e];exact hx
     ·exact HA.out j (by omega)
    have hq : (x == el xs k) = false := by simp [Ne.symm hx]
    clear hx
    generalize el xs k = E at *
    go_wp2
    go_round
    case rel => exact ⟨k + 1,by omega,by go_num,HX.out⟩
    case measure => simp [intOf];omega
  ·have k1 : ¬ ((k : Int) < (xs.length : Int)) := by omega
   obtain rfl : k = xs.length := by omega
   clear hc
   go_wp2
   go_ret
   exact ⟨⟨_,rfl,.inr ⟨rfl,HA.out⟩⟩,rfl⟩
set_option maxHeartbeats 400000 in
theorem con14_any (a : Option Addr) (cap : Nat) (xs : List Int) (x : Int) (w : World) (hv : Vec w a xs.length xs) (hm : xs.length ≤ maxLen) :
  Calls Tryz.prog 101 #[.slice a xs.length cap,.int .i64 x] w fun e w' => e = .returned (.bool (decide (x ∈ xs))) ∧ w' = w := by
 have hI := idx14_any a cap xs x w hv hm
 clear hv
 go_enter Tryz.func101,Tryz.ntmps101
 go_wp2_with (go_at_call 156;refine hI.mono ?_;rintro e w' ⟨⟨z,rfl,hz⟩,hw'⟩;rw [hw'];clear hw';have HZ : Hid (IsIdx xs x z) := hz;clear hz)
 go_ret
 exact ⟨ret_bool (by rw [← HZ.out.mem]),rfl⟩
end Go.Proofs.YtidnfdobljihoaaGreat
namespace Go.Proofs.YtidnfdobljihoaaGreat
set_option linter.unusedVariables false
set_option linter.unusedSimpArgs false
open Go.RowKit Go.Sort
set_option maxHeartbeats 400000 in
theorem cnt_any (B : Nat) (a : Option Addr) (n c : Nat) (X : World) (h1 : X.cell? ⟨B,1,none⟩ = some (.slice a n c)) :
  Calls Tryz.prog 140 #[.pointer (some ⟨B,0,none⟩)] X fun e w' => e = .returned (.int .i64 (n : Int)) ∧ w' = X := by
 go_enter Tryz.func140,Tryz.ntmps140
 go_wp2
 go_ret
 exact ⟨rfl,rfl⟩
set_option maxRecDepth 100000 in
set_option maxHeartbeats 800000 in
theorem own_any (B i n g off c : Nat) (X : World) (h0 : X.cell? ⟨B,0,none⟩ = some (.int .i64 (i : Int))) (h1 : X.cell? ⟨B,1,none⟩ = some (.slice (some ⟨g,off,none⟩) n c)) (hi : i < n) :
  Calls Tryz.prog 82 #[.pointer (some ⟨B,0,none⟩)] X fun e w' => e = .returned (.pointer (some ⟨g,off + i * 8,none⟩)) ∧ Below X.heap.size X w' := by
 have hmix := mixed17
 have i0 : (0 : Int) ≤ (i : Int) := by omega
 have i1 : (i : Int) < (n : Int) := by omega
 have T : ∀ {x v},X.cell? x = some v → ∀ q : Bk X,q.w.cell? x = some v := fun h q => (q.h.cell (World.block_lt_of_cell? _ _ h)).trans h
 have p0 := T h0
 have p1 := T h1
 clear T h0 h1
 go_enter Tryz.func82,Tryz.ntmps82
 go_wp2_with fail
 refine wp_region_bk (by kernel_rfl) (by kernel_rfl) ?_
 repeat (go_big_quiet_step ((first | rfl)))
 refine wpQuiet_nil ?_
 intro wE hw'
 obtain ⟨⟨w11,hb11⟩,hw''⟩ := hw'
 have hwe : wE = w11 := hw''
 clear hw''
 subst hwe
 have HB : Hid (Below X.heap.size X wE) := hb11
 clear p0 p1 hb11
 go_wp2
 go_ret
 exact ⟨rfl,HB.out⟩
def othB (i n : Nat) (sus : List Int) (who : Int) : Bool := decide (who ≠ (i : Int)) && (inB who 0 ((n : Int) - 1) && decide (who ∉ sus))
set_option maxRecDepth 100000 in
set_option maxHeartbeats 1600000 in
theorem oth_any (B i n g off c : Nat) (sa : Option Addr) (sc : Nat) (sus : List Int) (who : Int) (X : World) (h0 : X.cell? ⟨B,0,none⟩ = some (.int .i64 (i : Int))) (h1 : X.cell? ⟨B,1,none⟩ = some (.slice (some ⟨g,off,none⟩) n c)) (hi : i < n) (hn : n ≤ 5) (h3 : X.cell? ⟨g,off + i * 8 + 3,none⟩ = some (.slice sa sus.length sc)) (hv : Vec X sa sus.length sus) (hm : sus.length ≤ maxLen) :
  Calls Tryz.prog 174 #[.pointer (some ⟨B,0,none⟩),.int .i64 who] X fun e w' => e = .returned (.bool (othB i n sus who)) ∧ Below X.heap.size X w' := by
 have HR : Hid (Below X.heap.size X X) := Below.refl _ _
 by_cases e1 : who = (i : Int)
 ·have HZ : Hid (othB i n sus who = false) := by rw [Hid,othB,e1];simp
  have e1' : (who != (i : Int)) = false := by simp [e1]
  clear e1
  go_enter Tryz.func174,Tryz.ntmps174
  go_wp2_with fail
  go_ret
  exact ⟨ret_bool (by rw [HZ.out]),HR.out⟩
 have e1' : (who != (i : Int)) = true := by simp [e1]
 have hC := fun X h => cnt_any B (some ⟨g,off,none⟩) n c X h
 have hwn : wrap64 ((n : Int) - 1) = (n : Int) - 1 := by unfold wrap64;omega
 cases e2 : inB who 0 ((n : Int) - 1) with
 | false =>
  have HZ : Hid (othB i n sus who = false) := by rw [Hid,othB,e2];simp
  clear e1
  go_enter Tryz.func174,Tryz.ntmps174
  go_wp2_with (first | (go_at_call 140;refine (hC _ h1).mono ?_;rintro e w' ⟨rfl,hw'⟩;rw [hw'];clear hw') | (go_at_call 100;refine (isW14_any _ _ _).mono ?_;rintro e w' ⟨rfl,hw'⟩;rw [hw',e2];clear hw'))
  go_ret
  exact ⟨ret_bool (by rw [HZ.out]),HR.out⟩
 | true =>
  have HZ : Hid (othB i n sus who = !decide (who ∈ sus)) := by rw [Hid,othB,e2,decide_eq_true e1];simp
  have hO := own_any B i n g off c X h0 h1 hi
  have HCon : Hid (∀ Y,Below X.heap.size X Y → Y.cell? ⟨g,off + i * 8 + 3,none⟩ = some (.slice sa sus.length sc) ∧ Calls Tryz.prog 101 #[.slice sa sus.length sc,.int .i64 who] Y fun e w' => e = .returned (.bool (decide (who ∈ sus))) ∧ w' = Y) := fun Y hY => ⟨(hY.cell (World.block_lt_of_cell? _ _ h3)).trans h3,con14_any sa sc sus who Y (hv.below hY (Nat.le_refl _)) hm⟩
  clear e1 hv hm HR
  generalize decide (who ∈ sus) = b at *
  go_enter Tryz.func174,Tryz.ntmps174
  go_wp2_with (first | (go_at_call 140;refine (hC _ h1).mono ?_;rintro e w' ⟨rfl,hw'⟩;rw [hw'];clear hw') | (go_at_call 100;refine (isW14_any _ _ _).mono ?_;rintro e w' ⟨rfl,hw'⟩;rw [hw',e2];clear hw') | (go_at_call 82;refine hO.mono ?_;rintro e w1 ⟨rfl,hb1⟩;obtain ⟨g3,hCn⟩ := HCon.out w1 hb1;have HB1 : Hid (Below X.heap.size X w1) := hb1;clear hb1 h0 h1 h3) | (go_at_call 101;refine hCn.mono ?_;rintro e w' ⟨rfl,hw'⟩;rw [hw'];clear hw'))
  go_ret
  exact ⟨ret_bool (by rw [HZ.out]),HB1.out⟩
set_option maxHeartbeats 800000 in
theorem mst_any (B n c L lc : Nat) (a la : Option Addr) (X : World) (h1 : X.cell? ⟨B,1,none⟩ = some (.slice a n c)) (hL : L ≤ 100) (hn : n ≤ 5) :
  Calls Tryz.prog 145 #[.pointer (some ⟨B,0,none⟩),.slice la L lc] X fun e w' => e = .returned (.bool (decide (n < 2 * L))) ∧ w' = X := by
 have hC := cnt_any B a n c X h1
 have hw : wrap64 (2 * (L : Int)) = 2 * (L : Int) := by unfold wrap64;omega
 have hd : decide (2 * (L : Int) > (n : Int)) = decide (n < 2 * L) := by
  by_cases h : n < 2 * L
  ·rw [decide_eq_true h,decide_eq_true (by omega)]
  ·rw [decide_eq_false h,decide_eq_false (by omega)]
 rw [← hd]
 clear hd
 go_enter Tryz.func145,Tryz.ntmps145
 go_wp2_with (go_at_call 140;refine hC.mono ?_;rintro e w' ⟨rfl,hw'⟩;rw [hw'];clear hw')
 go_ret
 exact ⟨rfl,rfl⟩
end Go.Proofs.YtidnfdobljihoaaGreat
namespace Go.Proofs.YtidnfdobljihoaaGreat
set_option linter.unusedVariables false
set_option linter.unusedSimpArgs false
open Go.RowKit Go.Sort
theorem oth_left {i n : Nat} {sus : List Int} {j : Nat} (hj : j < n) (hi : (i : Int) ∉ sus) : (decide ((j : Int) = (i : Int)) || othB i n sus (j : Int)) = !decide ((j : Int) ∈ sus) := by
 by_cases e : j = i
 ·subst e
  simp [hi]
 ·have e2 : inB (j : Int) 0 ((n : Int) - 1) = true := inB7.2 (by omega)
  have e3 : ¬ ((j : Int) = (i : Int)) := by omega
  rw [othB,e2,decide_eq_true e3,decide_eq_false e3]
  simp
set_option maxRecDepth 100000 in
set_option maxHeartbeats 3200000 in
theorem lft_any (w0 : World) (B : Nat) (m : Mb) (i n : Nat) (fp : Fp) (g off c : Nat) (w : World) (M : Iw w0 w B m fp g off c) (ok : OkM m i n) :
  Calls Tryz.prog 142 #[.pointer (some ⟨B,0,none⟩)] w fun e w' => AnsL w w' e (lN (leftN n (rowN m.rows i).sus)) := by
 have hil : i < m.rows.length := by rw [ok.len];exact ok.lt
 have HM : Hid (Iw w0 w B m fp g off c) := M
 have hr := ok.ok i ok.lt
 have hn5 := hr.n5
 have hln := ok.len
 have hb0 := oneA16 w (.cells #[] 2)
 have HB0 : Hid (Below w.heap.size w (w.alloc (.cells #[] 2))) := hb0
 have HO0 : Hid (Cel.ow (w.alloc (.cells #[] 2)) (icl []) (.slice (some ⟨w.heap.size,0,none⟩) 0 0) (fun _ => False)) := ow_icl.2 ⟨_,0,none,rfl,OSo.nil _ _ (plainS _ _),fun b => by simp⟩
 have c1 := (M.step hb0).rws
 rw [hln] at c1
 have hC := cnt_any B (some ⟨g,off,none⟩) n c _ c1
 clear M hb0 c1
 go_enter Tryz.func142,Tryz.ntmps142
 go_wp2_with (go_at_call 140;refine hC.mono ?_;rintro e w' ⟨rfl,hw'⟩;rw [hw'];clear hw')
 clear hC
 generalize w.alloc (.cells #[] 2) = W0 at *
 go_loopw [3,8] (fun v k wr => ∃ (j : Nat) (a : Option Addr) (cc : Nat) (Z : List Int) (fz : Fp),j ≤ n ∧ k = .int .i64 (j : Int) ∧ v = .slice a Z.length cc ∧ Hid (Z = lN (leftN j (rowN m.rows i).sus)) ∧ Cel.ow wr (icl Z) (.slice a Z.length cc) fz ∧ (∀ b,fz b → w.heap.size ≤ b) ∧ Below w.heap.size w wr) (fun _ k _ => n - (intOf k).toNat)
 case atStart => exact ⟨0,some ⟨w.heap.size,0,none⟩,0,[],_,Nat.zero_le _,rfl,rfl,rfl,HO0.out,fun b h => h.elim,HB0.out⟩
 case round =>
  obtain ⟨j,a,cc,Z,fz,hj,rfl,rfl,hZ,hO,hfz,hb⟩ := hrel
  have M1 := HM.out.step hb
  obtain ⟨c0,c4⟩ := M1.id'
  have c2 := M1.rws
  rw [ok.hid] at c0
  rw [hln] at c2
  by_cases hlt : j < n
  ·have k1 : (j : Int) < (n : Int) := by omega
   obtain ⟨Ak,⟨⟨d0,d1,d2,d3⟩,d4,d5,d6,d7⟩,hrs⟩ := M1.row ok.fit hil
   have hOt := oth_any B i n g off c Ak.sa Ak.sc (rowN m.rows i).sus (j : Int) wr c0 c2 ok.lt hn5.2 d3 hrs.sus hrs.ms
   have HO : Hid (Cel.ow wr (icl Z) (.slice a Z.length cc) fz) := hO
   have HB : Hid (Below w.heap.size w wr) := hb
   have hZl : Z.length ≤ 1000000 := by rw [hZ.out,lN_len];have := leftN_len j (rowN m.rows i).sus;omega
   have HN : Hid (lN (leftN (j + 1) (rowN m.rows i).sus) = if (j : Int) ∈ (rowN m.rows i).sus then Z else Z ++ [(j : Int)]) := by
    rw [Hid,hZ.out,leftN_succ]
    by_cases hm : (j : Int) ∈ (rowN m.rows i).sus <;> simp [hm,lN]
   have HOL : Hid ((decide ((j : Int) = (i : Int)) || othB i n (rowN m.rows i).sus (j : Int)) = !decide ((j : Int) ∈ (rowN m.rows i).sus)) := oth_left hlt ok.self
   have wj : wrap64 ((j : Int) + 1) = (j : Int) + 1 := by unfold wrap64;omega
   clear d0 d1 d2 d3 d4 d5 d6 d7 c2 c4 hrs M1 hO hb
   generalize othB i n (rowN m.rows i).sus (j : Int) = ob at *
   go_upto_region 5 with fail
   go_cut [21] from 11 to 21 (fun v X => v = .bool (!decide ((j : Int) ∈ (rowN m.rows i).sus)) ∧ Below wr.heap.size wr X)
   case first =>
    by_cases ej : j = i
    ·have e1 : ((j : Int) == (i : Int)) = true := by simp [ej]
     have HV : Hid ((!decide ((j : Int) ∈ (rowN m.rows i).sus)) = true) := by rw [Hid,← HOL.out,ej];simp
     clear ej
     go_wp2_with fail
     go_meet
     case rel => exact ⟨by rw [HV.out],Below.refl _ _⟩
    ·have e1 : ((j : Int) == (i : Int)) = false := by simp;omega
     have HV : Hid ((!decide ((j : Int) ∈ (rowN m.rows i).sus)) = ob) := by rw [Hid,← HOL.out,decide_eq_false (by omega)];simp
     clear ej
     go_wp2_with (go_at_call 174;refine hOt.mono ?_;rintro e w1 ⟨rfl,hb1⟩;have HB1 : Hid (Below wr.heap.size wr w1) := hb1;clear hb1)
     go_meet
     case rel => exact ⟨by rw [HV.out],HB1.out⟩
   case rest =>
    obtain ⟨rfl,hBc⟩ := hcut
    generalize wc = V at *
    have HB1 : Hid (Below w.heap.size w V) := HB.out.trans (hBc.mono HB.out.size)
    clear hOt
    by_cases hm : (j : Int) ∈ (rowN m.rows i).sus
    ·have HO2 : Hid (Cel.ow V (icl Z) (.slice a Z.length cc) fz) := Cel.ow_below HO.out hBc
     rw [if_pos hm] at HN
     rw [decide_eq_true hm]
     clear hm hBc
     go_wp2
     go_roundw
     case rel => exact ⟨j + 1,a,cc,Z,fz,by omega,by go_num,rfl,HN.out.symm,HO2.out,hfz,HB1.out⟩
     case measure => simp [intOf];omega
    ·obtain ⟨a',c',ea,hA⟩ := ow_int_app (j : Int) (Cel.ow_below HO.out hBc) hZl
     cases ea
     have hbs := hBc.size
     have hbs2 := HB.out.size
     rw [if_neg hm] at HN
     rw [decide_eq_false hm]
     clear hm hBc
     go_wp2_with (at_builtin;refine wpList_append_of (by rfl) _ _ _ _ (by rfl) _ _ (by rfl) (by rfl) hA ⟨rfl,rfl,rfl,rfl⟩ ?_;rintro v1 w1 ⟨a1,e1,f1,rfl,q1,q2,q3⟩;have HQ1 : Hid (Cel.ow w1 (icl (Z ++ [(j : Int)])) (.slice a1 (Z.length + 1) e1) f1) := q1;have HQ2 : Hid (∀ b,f1 b → fz b ∨ V.heap.size ≤ b) := q2;have HQ3 : Hid (Wrt fz V w1) := q3;clear q1 q2 q3 hA)
     have HL : Hid ((Z ++ [(j : Int)]).length = Z.length + 1) := by rw [Hid,List.length_append];rfl
     go_roundw
     case rel => exact ⟨j + 1,a1,e1,Z ++ [(j : Int)],f1,by omega,by go_num,by rw [HL.out],HN.out.symm,by rw [HL.out];exact HQ1.out,fun b hb => (HQ2.out b hb).elim (hfz b) (fun h => by omega),HQ3.out.below HB1.out (by omega) (fun b hb => hfz b hb)⟩
     case measure => simp [intOf];omega
  ·have k1 : ¬ ((j : Int) < (n : Int)) := by omega
   have ej : j = n := by omega
   have HZ : Hid (Z = lN (leftN n (rowN m.rows i).sus)) := by rw [Hid,hZ.out,ej]
   have HO : Hid (NewO w wr (icl Z) (.slice a Z.length cc)) := ⟨fz,hO,hfz,hb⟩
   clear ej hO hb M1 c0 c2 c4
   go_wp2
   go_ret
   rw [← HZ.out]
   exact ⟨a,cc,rfl,HO.out⟩
end Go.Proofs.YtidnfdobljihoaaGreat
namespace Go.Proofs.YtidnfdobljihoaaGreat
set_option linter.unusedVariables false
set_option linter.unusedSimpArgs false
open Go.RowKit Go.Sort
theorem putL_self : ∀ {l : List Int} {x : Int},l.Pairwise (· < ·) → x ∈ l → putL l x = l
 | y :: l,x,h,hx => by
  obtain ⟨h1,h2⟩ := List.pairwise_cons.1 h
  rw [putL]
  rcases List.mem_cons.1 hx with e | hx
  ·rw [if_neg (by omega),if_pos e.symm]
  ·rw [if_pos (h1 x hx),putL_self h2 hx]
def wdR (i : Nat) (r : Rw) (S : List Int) (k : Nat) : Rw := { r with wed := true,sus := learnS i r.sus (S.take k) }
theorem wdR_sus {i nn : Nat} {r : Rw} {S : List Int} (hr : OkR r nn) (hS : ∀ x ∈ S,0 ≤ x ∧ x < (nn : Int)) (k : Nat) : (wdR i r S k).sus.Pairwise (· < ·) ∧ (∀ x ∈ (wdR i r S k).sus,0 ≤ x ∧ x < (nn : Int)) ∧ (wdR i r S k).sus.length ≤ 5 := by
 have h1 : (wdR i r S k).sus.Pairwise (· < ·) := learnS_ris (ris_iff.1 hr.ris)
 have h2 : ∀ x ∈ (wdR i r S k).sus,0 ≤ x ∧ x < (nn : Int) := fun x hx => by
  rcases mem_learnS.1 hx with h | ⟨h,_⟩
  ·exact hr.sus x h
  ·exact hS x (List.mem_of_mem_take h)
 have h5 := hr.n5
 exact ⟨h1,h2,Nat.le_trans (ris_short (k := nn) h1 h2) h5.2⟩
theorem vec_block {X Y : World} {a : Option Addr} {S : List Int} (h : Vec X a S.length S) (hb : ∀ b o,a = some ⟨b,o,none⟩ → S ≠ [] → Y.heap[b]? = X.heap[b]?) : Vec Y a S.length S := by
 obtain ⟨h1,h2,h3⟩ := h
 refine ⟨h1,h2, ?_⟩
 rcases h3 with h3 | ⟨b,o,e,h3⟩
 ·exact .inl h3
 ·by_cases hn : S = []
  ·exact .inl (by rw [hn];rfl)
  ·exact .inr ⟨b,o,e,fun j hj => (World.cell?_of_block (hb b o e hn)).trans (h3 j hj)⟩
set_option maxRecDepth 100000 in
set_option maxHeartbeats 1600000 in
theorem wdg_any (B i n g off c nn : Nat) (r : Rw) (f : Fp) (S : List Int) (a : Option Addr) (sc : Nat) (X : World) (h : Plc X g (off + i * 8) (rw8 r) f) (hBg : B ≠ g) (hfB : ¬ f B) (c0 : X.cell? ⟨B,0,none⟩ = some (.int .i64 (i : Int))) (c1 : X.cell? ⟨B,1,none⟩ = some (.slice (some ⟨g,off,none⟩) n c)) (hi : i < n)
  (hv : Vec X a S.length S) (hvb : ∀ b o,a = some ⟨b,o,none⟩ → S ≠ [] → ¬ f b ∧ b ≠ g) (hr : OkR r nn) (hS : ∀ x ∈ S,0 ≤ x ∧ x < (nn : Int)) (hSl : S.length ≤ 100) :
  Calls Tryz.prog 143 #[.pointer (some ⟨B,0,none⟩),.slice a S.length sc] X fun e w' => e = .returned (.tuple #[]) ∧ Bcm X w' g (off + i * 8) (rw8 (wdR i r S S.length)) f := by
 have hOw := own_any B i n g off c X c0 c1 hi
 have HP : Hid (Plc X g (off + i * 8) (rw8 r) f) := h
 have HV : Hid (Vec X a S.length S) := hv
 have HVB : Hid (∀ b o,a = some ⟨b,o,none⟩ → S ≠ [] → ¬ f b ∧ b ≠ g) := hvb
 have HC0 : Hid (X.cell? ⟨B,0,none⟩ = some (.int .i64 (i : Int))) := c0
 have HW : Hid (∀ k,(wdR i r S k).sus.Pairwise (· < ·) ∧ (∀ x ∈ (wdR i r S k).sus,0 ≤ x ∧ x < (nn : Int)) ∧ (wdR i r S k).sus.length ≤ 5) := fun k => wdR_sus hr hS k
 have H5 : Hid (1 ≤ nn ∧ nn ≤ 5) := hr.n5
 have HSx : Hid (∀ x ∈ S,0 ≤ x ∧ x < (nn : Int)) := hS
 have hBlt := World.block_lt_of_cell? _ _ c0
 clear h hv hvb c0 c1 hr hS
 go_enter Tryz.func143,Tryz.ntmps143
 go_wp2_with fail
 refine hOw.mono ?_
 rintro e XA ⟨rfl,hbA⟩
 obtain ⟨u4,f4,hu4,hz4,⟨rfl,hf4⟩,hs4,hn4,hset4⟩ := (HP.out.below hbA).at (j := 4) rfl
 obtain ⟨_,_,B4,_⟩ := hset4 XA (.v (.bool true)) (.bool true) (fun _ => False) (Wrt.refl _ _) ⟨rfl,fun _ h => h⟩ (fun b hb => hb.elim)
 have HB4 : Hid (Bcm X (XA.setCell ⟨g,off + i * 8 + 4,none⟩ (.bool true)) g (off + i * 8) (rw8 (wdR i r S 0)) f) := B4.first hbA HP.out.lt HP.out.flt
 clear hset4 B4 hs4 hn4 hf4 hOw
 go_upto_region 3 with fail
 generalize XA.setCell ⟨g,off + i * 8 + 4,none⟩ (.bool true) = W4 at *
 clear hu4 hz4 hbA
 go_loopw [16] (fun v wr => ∃ k : Nat,k ≤ S.length ∧ v = .int .i64 (k : Int) ∧ Bcm X wr g (off + i * 8) (rw8 (wdR i r S k)) f) (fun v _ => S.length - (intOf v).toNat)
 case atStart => exact ⟨0,Nat.zero_le _,rfl,HB4.out⟩
 case round =>
  obtain ⟨k,hk,rfl,hB⟩ := hrel
  have HB : Hid (Bcm X wr g (off + i * 8) (rw8 (wdR i r S k)) f) := hB
  clear HB4
  by_cases hlt : k < S.length
  ·have hne : S ≠ [] := fun e => by rw [e] at hlt;simp at hlt
   have hvw := vec_block HV.out (fun b o e hn => hB.wrt.block b (by
    rcases HV.out.2.2 with h | ⟨b',o',e',h⟩
    ·omega
    ·rw [e'] at e;cases e;exact World.block_lt_of_cell? _ _ (h k hlt)) (fun kk => by have := HVB.out b o e hn;rcases kk with kk | kk;exact this.1 kk;exact this.2 kk))
   rcases hvw.2.2 with h0 | ⟨sb,so,rfl,hsc⟩
   ·omega
   have hck := hsc k hlt
   have b0 : wr.cell? ⟨B,0,none⟩ = some (.int .i64 (i : Int)) := (World.cell?_of_block (hB.wrt.block B hBlt (fun kk => by rcases kk with kk | kk;exact hfB kk;exact hBg kk))).trans HC0.out
   obtain ⟨fp1,hp1,hf1,hgo⟩ := hB.next
   obtain ⟨u,f3,hu,hz,how,hsub,hn3,hset⟩ := hp1.at (j := 3) rfl
   have how' : Cel.ow wr (icl (wdR i r S k).sus) u f3 := how
   obtain ⟨sa,sac,_,rfl,_⟩ := ow_icl.1 how'
   obtain ⟨w1,w2,w3⟩ := HW.out k
   have h5 := H5.out
   have hfit : Fits (wdR i r S k).sus := fun x hx => by have := w2 x hx;omega
   have hBs := bs_any sa sac (wdR i r S k).sus (el S k) wr (vec_of_ow how' hfit) (by omega) w1
   have hT := learnS_take (id := i) (s := r.sus) hlt
   have k0 : (0 : Int) ≤ (k : Int) := by omega
   have k1 : (k : Int) < (S.length : Int) := by omega
   have HN1 : Hid (el S k = (i : Int) → wdR i r S (k + 1) = wdR i r S k) := fun e => by rw [wdR,hT,if_pos e];rfl
   have HN2 : Hid (el S k ≠ (i : Int) → el S k ∈ (wdR i r S k).sus → wdR i r S (k + 1) = wdR i r S k) := fun e hm => by
    rw [wdR,hT,if_neg e,show putL (learnS i r.sus (S.take k)) (el S k) = learnS i r.sus (S.take k) from putL_self w1 hm]
    rfl
   have HN3 : Hid (el S k ≠ (i : Int) → wdR i r S (k + 1) = { wdR i r S k with sus := putL (wdR i r S k).sus (el S k) }) := fun e => by rw [wdR,hT,if_neg e];rfl
   have hx0 : 0 ≤ el S k ∧ el S k < 5 := by have := HSx.out _ (el_mem hlt);omega
   have HSet : Hid (∀ (w1 : World) (c' : Cel) (u' : Value) (f' : Fp),Wrt f3 wr w1 → Cel.ow w1 c' u' f' → (∀ b,f' b → f3 b ∨ wr.heap.size ≤ b) → w1.cell? ⟨g,off + i * 8 + 3,none⟩ = some (.slice sa (wdR i r S k).sus.length sac) ∧ w1.frozen? ⟨g,off + i * 8 + 3,none⟩ = false ∧ Bcm X (w1.setCell ⟨g,off + i * 8 + 3,none⟩ u') g (off + i * 8) ((rw8 (wdR i r S k)).set 3 c') f) := fun w1 c' u' f' q1 q2 q3 => by
    obtain ⟨p1,p2,p3,_⟩ := hset w1 c' u' f' q1 q2 q3
    exact ⟨p1,p2,hgo _ _ (by simp) p3⟩
   have HOw : Hid (Cel.ow wr (icl (wdR i r S k).sus) (.slice sa (wdR i r S k).sus.length sac) f3) := how'
   clear hvw hsc hB hp1 hf1 hgo hset how how' hsub hn3 hfit hT w1 w2
   generalize hwd : wdR i r S k = rk at *
   generalize el S k = x at *
   by_cases hin : x ∈ rk.sus
   ·have HE : Hid (wdR i r S (k + 1) = rk) := by
     by_cases e : x = (i : Int)
     ·exact HN1.out e
     ·exact HN2.out e hin
    rw [decide_eq_true hin] at hBs
    clear hin
    go_wp2_with (go_at_call 175;refine hBs.mono ?_;rintro e w' ⟨kk,hkk,rfl,hw',_⟩;rw [hw'];clear hw')
    go_roundw
    case rel => exact ⟨k + 1,by omega,by go_num,by rw [HE.out];exact HB.out⟩
    case measure => simp [intOf];omega
   rw [decide_eq_false hin] at hBs
   by_cases e : x = (i : Int)
   ·have HE : Hid (wdR i r S (k + 1) = rk) := HN1.out e
    have e' : (x != (i : Int)) = false := by simp [e]
    clear hin e
    go_wp2_with (go_at_call 175;refine hBs.mono ?_;rintro e w' ⟨kk,hkk,rfl,hw',_⟩;rw [hw'];clear hw')
    go_roundw
    case rel => exact ⟨k + 1,by omega,by go_num,by rw [HE.out];exact HB.out⟩
    case measure => simp [intOf];omega
   have HE : Hid (wdR i r S (k + 1) = { rk with sus := putL rk.sus x }) := HN3.out e
   have e' : (x != (i : Int)) = true := by simp [e]
   have HIn : Hid (x ∉ rk.sus) := hin
   have HM : Hid (rk.sus.length ≤ 100) := by rw [Hid];omega
   clear hin e
   go_upto_region 7 with (go_at_call 175;refine hBs.mono ?_;rintro e w' ⟨kk,hkk,rfl,hw',hput⟩;rw [hw'];clear hw')
   have hpt := hput HIn.out
   have hIn := ins_any sa sac kk rk.sus x f3 wr HOw.out hkk HM.out
   rw [hpt] at hIn
   clear hput hpt hBs
   go_wp2_with (go_at_call 176;refine hIn.mono ?_;rintro e w9 ⟨a9,c9,f9,rfl,o9,p9,q9⟩;obtain ⟨z1,z2,hB9⟩ := HSet.out w9 (icl (putL rk.sus x)) (.slice a9 (rk.sus.length + 1) c9) f9 q9 o9 p9;have HB9 : Hid (Bcm X (w9.setCell ⟨g,off + i * 8 + 3,none⟩ (.slice a9 (rk.sus.length + 1) c9)) g (off + i * 8) ((rw8 rk).set 3 (icl (putL rk.sus x))) f) := hB9;clear o9 p9 q9 hB9 hIn hu hz)
   go_roundw
   case rel => exact ⟨k + 1,by omega,by go_num,by rw [HE.out];exact HB9.out⟩
   case measure => simp [intOf];omega
  ·have k1 : ¬ ((k : Int) < (S.length : Int)) := by omega
   obtain rfl : k = S.length := by omega
   clear hB
   go_wp2
   first | go_end0 | go_ret
   exact ⟨rfl,HB.out⟩
end Go.Proofs.YtidnfdobljihoaaGreat
namespace Go.Proofs.YtidnfdobljihoaaGreat
set_option linter.unusedSimpArgs false
set_option linter.unusedVariables false
open Go.RowKit Go.Sort Go.Shelf
def Tryz.cloneL_ren : Go.Shelf.Ren := ⟨fun | 316 => 158 | n => n,fun | 9 => 9 | 3 => 3 | 4 => 4 | 37 => 22 | 0 => 0 | 127 => 199 | 5 => 5 | n => n,fun | n => n⟩
theorem Tryz.cloneL : Go.Proofs.LaysM.n316 Tryz.prog Tryz.cloneL_ren := {
 mixed := by kernel_rfl
 f316 := Tryz.func158.trans (congrArg some (by kernel_rfl))
 t0 := Tryz.underlying0
 a0 := Tryz.isAgg0
 z0 := Tryz.sizeOf0
 v0 := Tryz.zeroValue0
 t3 := Tryz.underlying3
 a3 := Tryz.isAgg3
 z3 := Tryz.sizeOf3
 v3 := Tryz.zeroValue3
 t4 := Tryz.underlying4
 a4 := Tryz.isAgg4
 z4 := Tryz.sizeOf4
 v4 := Tryz.zeroValue4
 t9 := Tryz.underlying9
 a9 := Tryz.isAgg9
 z9 := Tryz.sizeOf9
 v9 := Tryz.zeroValue9
 t37 := Tryz.underlying22
 a37 := Tryz.isAgg22
 z37 := Tryz.sizeOf22
 v37 := Tryz.zeroValue22
 t127 := Tryz.underlying199
 a127 := Tryz.isAgg199
 z127 := Tryz.sizeOf199
 v127 := Tryz.zeroValue199
 t5 := Tryz.underlying5
 a5 := Tryz.isAgg5
 z5 := Tryz.sizeOf5
 v5 := Tryz.zeroValue5
 i0 := by kernel_rfl
 i3 := by kernel_rfl
 i4 := by kernel_rfl
 i5 := by kernel_rfl
 i9 := by kernel_rfl
 i37 := by kernel_rfl
 i127 := by kernel_rfl }
set_option maxHeartbeats 400000 in
theorem clone_any (l : List UInt8) (w : World) (hl : l.length ≤ 1048576) :
  Calls Tryz.prog 106 #[.string (sv l)] w fun e w' => e = .returned (.string (sv l)) ∧ Below w.heap.size w w' := by
 have h := Any.stringslite_Clone Tryz.cloneL (sv l) w (by rw [sv_size];omega)
 go_enter Tryz.func106,Tryz.ntmps106
 go_wp2_with fail
 refine h.mono ?_
 rintro e w1 ⟨rfl,hb⟩
 have HB : Hid (Below w.heap.size w w1) := hb
 clear hb h
 go_wp2
 go_ret
 exact ⟨rfl,HB.out⟩
end Go.Proofs.YtidnfdobljihoaaGreat
namespace Go.Proofs.YtidnfdobljihoaaGreat
set_option linter.unusedVariables false
set_option linter.unusedSimpArgs false
open Go.RowKit Go.Sort
section
variable {P : Program} {l : List Oper} {Q : Exit → Act → World → Prop} {S : World → Prop}
theorem gt_oneN {i z : Nat} {o : Oper} {fuel : Nat} {listed : Array Bool} {a : Act} {w : World} (hn : ¬ S w) (hi : l[i]? = some o) (hr : Region.ready .any l.toArray listed = [i])
  (h : ∀ K' : Act → World → Prop,Shut (∀ a w,GT P l Q S z fuel (listed.setIfInBounds i true) a w → K' a w) → if Region.wanted o (yielded l.toArray a.tmps) = true then Oper.wp P o a w K' Q else K' (a.put o.dst undef) w) : GT P l Q S z (fuel + 1) listed a w := by
 have hi' : l.toArray[i]? = some o := by simpa using hi
 refine ⟨fun h0 => (by rw [hr] at h0;cases h0),fun j hj => ?_⟩
 rw [hr] at hj
 simp at hj
 subst hj
 exact wpOp_step hi' (fun K' hK => h K' (fun a w hW => hK a w ⟨fun _ hS => absurd hS hn,hW⟩))
theorem gt_oneZ {z : Nat} {o : Oper} {fuel : Nat} {listed : Array Bool} {a : Act} {w : World} (hi : l[z]? = some o) (hr : Region.ready .any l.toArray listed = [z])
  (h : ∀ K' : Act → World → Prop,Shut (∀ a w,GT P l Q S z fuel (listed.setIfInBounds z true) a w → K' a w) → if Region.wanted o (yielded l.toArray a.tmps) = true then Oper.wp P o a w K' Q else K' (a.put o.dst undef) w) : GT P l Q S z (fuel + 1) listed a w := by
 have hi' : l.toArray[z]? = some o := by simpa using hi
 refine ⟨fun h0 => (by rw [hr] at h0;cases h0),fun j hj => ?_⟩
 rw [hr] at hj
 simp at hj
 subst hj
 exact wpOp_step hi' (fun K' hK => h K' (fun a w hW => hK a w ⟨fun e _ => absurd rfl e,hW⟩))
end
set_option maxRecDepth 100000 in
set_option maxHeartbeats 800000 in
theorem cln_any (a : Option Addr) (c : Nat) (xs : List Int) (w : World) (hv : Vec w a xs.length xs) (hl : xs.length ≤ 1000000) :
  Calls Tryz.prog 141 #[.slice a xs.length c] w fun e w' => AnsL w w' e xs := by
 have q25 : ∀ (w : World) (a : Option Addr) (n c n' c' : Nat),(binOp .eql 25 (.slice a n c) (.slice none n' c')).run Tryz.prog w = .ok (.bool a.isNone) w := fun w a n c n' c' => Lib.run_eql_slice_nil w _ _ a n c n' c' Tryz.underlying25
 cases a with
 | none =>
  have hx : xs = [] := by
   rcases hv.2.2 with h | ⟨b,o,e,_⟩
   ·exact List.eq_nil_of_length_eq_zero h
   ·cases e
  subst hx
  clear hv
  go_enter Tryz.func141,Tryz.ntmps141
  go_wp2
  go_ret
  exact ⟨none,0,rfl,fun _ => False,ow_icl.2 ⟨none,0,none,rfl,OSo.nil _ _ (fun _ h => by cases h),fun b => by simp⟩,fun _ h => h.elim,Below.refl _ _⟩
 | some ad =>
  have hA := vec_copied (c := c) hv hl
  clear hv
  go_enter Tryz.func141,Tryz.ntmps141
  go_wp2_with (at_builtin;refine wpList_append_of (by rfl) _ _ _ _ (by rfl) _ _ (by rfl) (by rfl) hA ⟨rfl,rfl,rfl,rfl⟩ ?_;rintro v1 w1 ⟨a1,e1,f1,rfl,q1,q2,q3⟩;have HQ : Hid (NewO w w1 (icl xs) (.slice a1 xs.length e1)) := ⟨f1,q1,q2,q3⟩;clear q1 q2 q3 hA)
  go_ret
  exact ⟨a1,e1,rfl,HQ.out⟩
end Go.Proofs.YtidnfdobljihoaaGreat
namespace Go.Proofs.YtidnfdobljihoaaGreat
set_option linter.unusedVariables false
set_option linter.unusedSimpArgs false
open Go.RowKit Go.Sort
attribute [local irreducible] sv
set_option maxRecDepth 100000 in
set_option maxHeartbeats 3200000 in
theorem anw_any (A : Ra) (r : Rw) (w : World) (hv : RwP w A r) (hg : 0 < r.got.length) (hs : szRw r ≤ 1000) :
  Calls Tryz.prog 83 #[rwV A r] w fun e w' => AnsRw w w' e r := by
 have hmix := mixed17
 unfold szRw at hs
 have hb1 := oneA16 w (.cells #[.int .i64 r.ver,.slice A.ta r.txt.length A.tc,.slice A.ga r.got.length A.gc,.slice A.sa r.sus.length A.sc,.bool r.wed,.bool r.rdy,.int .i64 r.by_,.slice A.ma r.trm.length A.mc] 37)
 have hb2 := oneA16 (w.alloc (.cells #[.int .i64 r.ver,.slice A.ta r.txt.length A.tc,.slice A.ga r.got.length A.gc,.slice A.sa r.sus.length A.sc,.bool r.wed,.bool r.rdy,.int .i64 r.by_,.slice A.ma r.trm.length A.mc] 37)) (.cells #[.int .i64 0,.slice none 0 0,.slice none 0 0,.slice none 0 0,.bool false,.bool false,.int .i64 0,.slice none 0 0] 37)
 have hb3 := oneA16 ((w.alloc (.cells #[.int .i64 r.ver,.slice A.ta r.txt.length A.tc,.slice A.ga r.got.length A.gc,.slice A.sa r.sus.length A.sc,.bool r.wed,.bool r.rdy,.int .i64 r.by_,.slice A.ma r.trm.length A.mc] 37)).alloc (.cells #[.int .i64 0,.slice none 0 0,.slice none 0 0,.slice none 0 0,.bool false,.bool false,.int .i64 0,.slice none 0 0] 37)) (.cells #[] 9)
 have hx1 : Bx (((w.alloc (.cells #[.int .i64 r.ver,.slice A.ta r.txt.length A.tc,.slice A.ga r.got.length A.gc,.slice A.sa r.sus.length A.sc,.bool r.wed,.bool r.rdy,.int .i64 r.by_,.slice A.ma r.trm.length A.mc] 37)).alloc (.cells #[.int .i64 0,.slice none 0 0,.slice none 0 0,.slice none 0 0,.bool false,.bool false,.int .i64 0,.slice none 0 0] 37)).alloc (.cells #[] 9)) w.heap.size 37 #[.int .i64 r.ver,.slice A.ta r.txt.length A.tc,.slice A.ga r.got.length A.gc,.slice A.sa r.sus.length A.sc,.bool r.wed,.bool r.rdy,.int .i64 r.by_,.slice A.ma r.trm.length A.mc] := ((Bx.new w 37 #[.int .i64 r.ver,.slice A.ta r.txt.length A.tc,.slice A.ga r.got.length A.gc,.slice A.sa r.sus.length A.sc,.bool r.wed,.bool r.rdy,.int .i64 r.by_,.slice A.ma r.trm.length A.mc]).alloc _).alloc _
 have hx2 : Bx (((w.alloc (.cells #[.int .i64 r.ver,.slice A.ta r.txt.length A.tc,.slice A.ga r.got.length A.gc,.slice A.sa r.sus.length A.sc,.bool r.wed,.bool r.rdy,.int .i64 r.by_,.slice A.ma r.trm.length A.mc] 37)).alloc (.cells #[.int .i64 0,.slice none 0 0,.slice none 0 0,.slice none 0 0,.bool false,.bool false,.int .i64 0,.slice none 0 0] 37)).alloc (.cells #[] 9)) (w.heap.size + 1) 37 #[.int .i64 0,.slice none 0 0,.slice none 0 0,.slice none 0 0,.bool false,.bool false,.int .i64 0,.slice none 0 0] := by
  have := (Bx.new (w.alloc (.cells #[.int .i64 r.ver,.slice A.ta r.txt.length A.tc,.slice A.ga r.got.length A.gc,.slice A.sa r.sus.length A.sc,.bool r.wed,.bool r.rdy,.int .i64 r.by_,.slice A.ma r.trm.length A.mc] 37)) 37 #[.int .i64 0,.slice none 0 0,.slice none 0 0,.slice none 0 0,.bool false,.bool false,.int .i64 0,.slice none 0 0]).alloc (.cells #[] 9)
  simp only [World.size_alloc] at this
  exact this
 have hb12 : Below w.heap.size w ((w.alloc (.cells #[.int .i64 r.ver,.slice A.ta r.txt.length A.tc,.slice A.ga r.got.length A.gc,.slice A.sa r.sus.length A.sc,.bool r.wed,.bool r.rdy,.int .i64 r.by_,.slice A.ma r.trm.length A.mc] 37)).alloc (.cells #[.int .i64 0,.slice none 0 0,.slice none 0 0,.slice none 0 0,.bool false,.bool false,.int .i64 0,.slice none 0 0] 37)) := hb1.trans (hb2.mono hb1.size)
 have hb13 : Below w.heap.size w (((w.alloc (.cells #[.int .i64 r.ver,.slice A.ta r.txt.length A.tc,.slice A.ga r.got.length A.gc,.slice A.sa r.sus.length A.sc,.bool r.wed,.bool r.rdy,.int .i64 r.by_,.slice A.ma r.trm.length A.mc] 37)).alloc (.cells #[.int .i64 0,.slice none 0 0,.slice none 0 0,.slice none 0 0,.bool false,.bool false,.int .i64 0,.slice none 0 0] 37)).alloc (.cells #[] 9)) := hb12.trans (hb3.mono hb12.size)
 have HO0 : Hid (Cel.ow (((w.alloc (.cells #[.int .i64 r.ver,.slice A.ta r.txt.length A.tc,.slice A.ga r.got.length A.gc,.slice A.sa r.sus.length A.sc,.bool r.wed,.bool r.rdy,.int .i64 r.by_,.slice A.ma r.trm.length A.mc] 37)).alloc (.cells #[.int .i64 0,.slice none 0 0,.slice none 0 0,.slice none 0 0,.bool false,.bool false,.int .i64 0,.slice none 0 0] 37)).alloc (.cells #[] 9)) (scl []) (.slice (some ⟨w.heap.size + 1 + 1,0,none⟩) 0 0) (fun _ => False)) := ow_scl.2 ⟨_,0,none,rfl,OSo.nil _ _ (plainS _ _),fun b => by simp⟩
 have HX1 : Hid (Bx (((w.alloc (.cells #[.int .i64 r.ver,.slice A.ta r.txt.length A.tc,.slice A.ga r.got.length A.gc,.slice A.sa r.sus.length A.sc,.bool r.wed,.bool r.rdy,.int .i64 r.by_,.slice A.ma r.trm.length A.mc] 37)).alloc (.cells #[.int .i64 0,.slice none 0 0,.slice none 0 0,.slice none 0 0,.bool false,.bool false,.int .i64 0,.slice none 0 0] 37)).alloc (.cells #[] 9)) w.heap.size 37 #[.int .i64 r.ver,.slice A.ta r.txt.length A.tc,.slice A.ga r.got.length A.gc,.slice A.sa r.sus.length A.sc,.bool r.wed,.bool r.rdy,.int .i64 r.by_,.slice A.ma r.trm.length A.mc]) := hx1
 have HX2 : Hid (Bx (((w.alloc (.cells #[.int .i64 r.ver,.slice A.ta r.txt.length A.tc,.slice A.ga r.got.length A.gc,.slice A.sa r.sus.length A.sc,.bool r.wed,.bool r.rdy,.int .i64 r.by_,.slice A.ma r.trm.length A.mc] 37)).alloc (.cells #[.int .i64 0,.slice none 0 0,.slice none 0 0,.slice none 0 0,.bool false,.bool false,.int .i64 0,.slice none 0 0] 37)).alloc (.cells #[] 9)) (w.heap.size + 1) 37 #[.int .i64 0,.slice none 0 0,.slice none 0 0,.slice none 0 0,.bool false,.bool false,.int .i64 0,.slice none 0 0]) := hx2
 have HB0 : Hid (Below w.heap.size w (((w.alloc (.cells #[.int .i64 r.ver,.slice A.ta r.txt.length A.tc,.slice A.ga r.got.length A.gc,.slice A.sa r.sus.length A.sc,.bool r.wed,.bool r.rdy,.int .i64 r.by_,.slice A.ma r.trm.length A.mc] 37)).alloc (.cells #[.int .i64 0,.slice none 0 0,.slice none 0 0,.slice none 0 0,.bool false,.bool false,.int .i64 0,.slice none 0 0] 37)).alloc (.cells #[] 9))) := hb13
 have HV : Hid (RwP w A r) := hv
 have hsz : w.heap.size + 1 + 1 ≤ (((w.alloc (.cells #[.int .i64 r.ver,.slice A.ta r.txt.length A.tc,.slice A.ga r.got.length A.gc,.slice A.sa r.sus.length A.sc,.bool r.wed,.bool r.rdy,.int .i64 r.by_,.slice A.ma r.trm.length A.mc] 37)).alloc (.cells #[.int .i64 0,.slice none 0 0,.slice none 0 0,.slice none 0 0,.bool false,.bool false,.int .i64 0,.slice none 0 0] 37)).alloc (.cells #[] 9)).heap.size := by simp only [World.size_alloc];omega
 have HSz : Hid (w.heap.size + 1 + 1 ≤ (((w.alloc (.cells #[.int .i64 r.ver,.slice A.ta r.txt.length A.tc,.slice A.ga r.got.length A.gc,.slice A.sa r.sus.length A.sc,.bool r.wed,.bool r.rdy,.int .i64 r.by_,.slice A.ma r.trm.length A.mc] 37)).alloc (.cells #[.int .i64 0,.slice none 0 0,.slice none 0 0,.slice none 0 0,.bool false,.bool false,.int .i64 0,.slice none 0 0] 37)).alloc (.cells #[] 9)).heap.size) := hsz
 obtain ⟨⟨c0,c1,c2,c3⟩,c4,c5,c6,c7⟩ := Bx.r8 hx1
 clear hb1 hb2 hb3 hb12 hb13 hx1 hx2 hv hsz
 unfold rwV rwC
 go_enter Tryz.func83,Tryz.ntmps83
 go_wp2_with fail
 generalize ((w.alloc (.cells #[.int .i64 r.ver,.slice A.ta r.txt.length A.tc,.slice A.ga r.got.length A.gc,.slice A.sa r.sus.length A.sc,.bool r.wed,.bool r.rdy,.int .i64 r.by_,.slice A.ma r.trm.length A.mc] 37)).alloc (.cells #[.int .i64 0,.slice none 0 0,.slice none 0 0,.slice none 0 0,.bool false,.bool false,.int .i64 0,.slice none 0 0] 37)).alloc (.cells #[] 9) = W0 at *
 clear c0 c1 c2 c3 c4 c5 c6 c7
 go_loopw [3,10] (fun v k wr => ∃ (j : Nat) (a : Option Addr) (cc : Nat) (Z : List (List UInt8)) (fz : Fp),j ≤ r.txt.length ∧ k = .int .i64 (j : Int) ∧ v = .slice a Z.length cc ∧ Hid (Z = r.txt.take j) ∧ Cel.ow wr (scl Z) (.slice a Z.length cc) fz ∧ (∀ b,fz b → w.heap.size + 1 + 1 ≤ b) ∧ Bx wr w.heap.size 37 #[.int .i64 r.ver,.slice A.ta r.txt.length A.tc,.slice A.ga r.got.length A.gc,.slice A.sa r.sus.length A.sc,.bool r.wed,.bool r.rdy,.int .i64 r.by_,.slice A.ma r.trm.length A.mc] ∧ Bx wr (w.heap.size + 1) 37 #[.int .i64 0,.slice none 0 0,.slice none 0 0,.slice none 0 0,.bool false,.bool false,.int .i64 0,.slice none 0 0] ∧ Below w.heap.size w wr) (fun _ k _ => r.txt.length - (intOf k).toNat)
 case atStart => exact ⟨0,some ⟨w.heap.size + 1 + 1,0,none⟩,0,[],_,Nat.zero_le _,rfl,rfl,rfl,HO0.out,fun b h => h.elim,HX1.out,HX2.out,HB0.out⟩
 case round =>
  obtain ⟨j,a,cc,Z,fz,hj,rfl,rfl,hZ,hO,hfz,hx1,hx2,hb⟩ := hrel
  have HO : Hid (Cel.ow wr (scl Z) (.slice a Z.length cc) fz) := hO
  have HY1 : Hid (Bx wr w.heap.size 37 #[.int .i64 r.ver,.slice A.ta r.txt.length A.tc,.slice A.ga r.got.length A.gc,.slice A.sa r.sus.length A.sc,.bool r.wed,.bool r.rdy,.int .i64 r.by_,.slice A.ma r.trm.length A.mc]) := hx1
  have HY2 : Hid (Bx wr (w.heap.size + 1) 37 #[.int .i64 0,.slice none 0 0,.slice none 0 0,.slice none 0 0,.bool false,.bool false,.int .i64 0,.slice none 0 0]) := hx2
  have HB : Hid (Below w.heap.size w wr) := hb
  have hsr := hx2.lt
  clear hO HX1 HX2 HB0 HO0 HSz
  by_cases hlt : j < r.txt.length
  ·rcases (HV.out.below hb).txt.txs with h0 | ⟨tb,tq,hta,htc⟩
   ·omega
   have hck := htc j hlt
   have hlen : (r.txt.getD j []).length ≤ 1048576 := by have := totS_at r.txt hlt;omega
   have hC := clone_any (r.txt.getD j []) wr hlen
   have HN : Hid (r.txt.take (j + 1) = Z ++ [r.txt.getD j []]) := by rw [Hid,hZ.out,List.take_succ_eq_append_getElem hlt];simp [List.getD,hlt]
   have HZl : Hid (Z.length ≤ 1000000) := by rw [Hid,hZ.out,List.length_take];omega
   have k0 : (0 : Int) ≤ (j : Int) := by omega
   have k1 : (j : Int) < (r.txt.length : Int) := by omega
   rw [hta]
   clear hx1 hx2 hb htc hZ hlen
   generalize r.txt.getD j [] = t at *
   go_wp2_with (first | (go_at_call 106;refine hC.mono ?_;rintro e w1 ⟨rfl,hb1⟩;have HY1a : Hid (Bx w1 w.heap.size 37 #[.int .i64 r.ver,.slice A.ta r.txt.length A.tc,.slice A.ga r.got.length A.gc,.slice A.sa r.sus.length A.sc,.bool r.wed,.bool r.rdy,.int .i64 r.by_,.slice A.ma r.trm.length A.mc]) := HY1.out.below hb1;have HY2a : Hid (Bx w1 (w.heap.size + 1) 37 #[.int .i64 0,.slice none 0 0,.slice none 0 0,.slice none 0 0,.bool false,.bool false,.int .i64 0,.slice none 0 0]) := HY2.out.below hb1;have HB1 : Hid (Below w.heap.size w w1) := HB.out.trans (hb1.mono HB.out.size);have hs1 := hb1.size;obtain ⟨a',c',ea,hA⟩ := ow_txt_app t (Cel.ow_below HO.out hb1) HZl.out;cases ea;clear hb1 hck) | (at_builtin;refine wpList_append_of (by rfl) _ _ _ _ (by rfl) _ _ (by rfl) (by rfl) hA ⟨rfl,rfl,rfl,rfl⟩ ?_;rintro v1 w2 ⟨a1,e1,f1,rfl,q1,q2,q3⟩;have HQ1 : Hid (Cel.ow w2 (scl (Z ++ [t])) (.slice a1 (Z.length + 1) e1) f1) := q1;have HQ2 : Hid (∀ b,f1 b → fz b ∨ w1.heap.size ≤ b) := q2;have HQ3 : Hid (Wrt fz w1 w2) := q3;clear q1 q2 q3 hA))
   have HL : Hid ((Z ++ [t]).length = Z.length + 1) := by rw [Hid,List.length_append];rfl
   go_roundw
   case rel => exact ⟨j + 1,a1,e1,Z ++ [t],f1,by omega,by go_num,by rw [HL.out],HN.out.symm,by rw [HL.out];exact HQ1.out,fun b hb => (HQ2.out b hb).elim (hfz b) (fun h => by omega),by rw [← hta];exact HY1a.out.wrt HQ3.out (fun k => by have := hfz _ k;omega),HY2a.out.wrt HQ3.out (fun k => by have := hfz _ k;omega),HQ3.out.below HB1.out HB1.out.size (fun b hb => by have := hfz b hb;omega)⟩
   case measure => simp [intOf];omega
  ·have k1 : ¬ ((j : Int) < (r.txt.length : Int)) := by omega
   have ej : j = r.txt.length := by omega
   have eZ : Z = r.txt := by rw [hZ.out,ej,List.take_length]
   subst eZ
   have hrp := HV.out.below hb
   have KS : ∀ X,Below wr.heap.size wr X → X.cell? ⟨w.heap.size,2,none⟩ = some (.slice A.ga r.got.length A.gc) ∧ X.cell? ⟨w.heap.size,3,none⟩ = some (.slice A.sa r.sus.length A.sc) ∧ X.cell? ⟨w.heap.size,7,none⟩ = some (.slice A.ma r.trm.length A.mc) := fun X hX => by
    obtain ⟨⟨d0,d1,d2,d3⟩,d4,d5,d6,d7⟩ := Bx.r8 (HY1.out.below hX)
    exact ⟨d2,d3,d7⟩
   have hbd : Below wr.heap.size wr wr.drew := (Same.drewN wr 1).below
   have hC1 := cln_any A.ga A.gc r.got wr.drew (hrp.below hbd).got.vec (by omega)
   have HC2 : Hid (∀ X,Below wr.heap.size wr X → Calls Tryz.prog 141 #[.slice A.sa r.sus.length A.sc] X fun e w' => AnsL X w' e r.sus) := fun X hX => cln_any A.sa A.sc r.sus X (hrp.below hX).sus.vec (by omega)
   have HC3 : Hid (∀ X,Below wr.heap.size wr X → Calls Tryz.prog 141 #[.slice A.ma r.trm.length A.mc] X fun e w' => AnsL X w' e r.trm) := fun X hX => cln_any A.ma A.mc r.trm X (hrp.below hX).trm.vec (by omega)
   have HGa : Hid (∃ gb go,A.ga = some ⟨gb,go,none⟩ ∧ gb < w.heap.size) := by
    rcases HV.out.got.vec.2.2 with h | ⟨gb,go,e,h⟩
    ·omega
    ·exact ⟨gb,go,e,World.block_lt_of_cell? _ _ (h 0 hg)⟩
   have hwr := HB.out.size
   clear hrp hx1 hx2 hb hZ hs ej HV
   go_wp2_with fail
   refine gt_begin (S := fun X : World => X.cell? ⟨w.heap.size,2,none⟩ = some (.slice A.ga r.got.length A.gc) ∧ X.cell? ⟨w.heap.size,3,none⟩ = some (.slice A.sa r.sus.length A.sc) ∧ X.cell? ⟨w.heap.size,7,none⟩ = some (.slice A.ma r.trm.length A.mc)) 13 hmix (by kernel_rfl) ?_
   have hHeld : (fun X : World => X.cell? ⟨w.heap.size,2,none⟩ = some (.slice A.ga r.got.length A.gc) ∧ X.cell? ⟨w.heap.size,3,none⟩ = some (.slice A.sa r.sus.length A.sc) ∧ X.cell? ⟨w.heap.size,7,none⟩ = some (.slice A.ma r.trm.length A.mc)) wr.drew := (KS _ hbd)
   refine gt_take (i := 0) (v := ?_) rfl (by kernel_rfl) (by kernel_rfl) (by kernel_rfl) (by kernel_rfl) (fun _ _ _ h => h) (Or.inl ⟨by rfl, ?_⟩) hHeld ?_
   rotate_left
   ·(intro X hSX;(try dsimp only at hSX);obtain ⟨g0,g1,g2⟩ := hSX;go_simp;try with_reducible rfl)
   try simp only [Act.put,List.setIfInBounds_toArray,List.set_cons_zero,List.set_cons_succ]
   refine gt_take (i := 1) (v := ?_) rfl (by kernel_rfl) (by kernel_rfl) (by kernel_rfl) (by kernel_rfl) (fun _ _ _ h => h) (Or.inl ⟨by rfl, ?_⟩) hHeld ?_
   rotate_left
   ·(intro X hSX;(try dsimp only at hSX);obtain ⟨g0,g1,g2⟩ := hSX;go_simp;try with_reducible rfl)
   try simp only [Act.put,List.setIfInBounds_toArray,List.set_cons_zero,List.set_cons_succ]
   refine gt_take (i := 2) (v := ?_) rfl (by kernel_rfl) (by kernel_rfl) (by kernel_rfl) (by kernel_rfl) (fun _ _ _ h => h) (Or.inl ⟨by rfl, ?_⟩) hHeld ?_
   rotate_left
   ·(intro X hSX;(try dsimp only at hSX);obtain ⟨g0,g1,g2⟩ := hSX;go_simp;try with_reducible rfl)
   try simp only [Act.put,List.setIfInBounds_toArray,List.set_cons_zero,List.set_cons_succ]
   refine gt_take (i := 4) (v := ?_) rfl (by kernel_rfl) (by kernel_rfl) (by kernel_rfl) (by kernel_rfl) (fun _ _ _ h => h) (Or.inl ⟨by rfl, ?_⟩) hHeld ?_
   rotate_left
   ·(intro X hSX;(try dsimp only at hSX);obtain ⟨g0,g1,g2⟩ := hSX;go_simp;try with_reducible rfl)
   try simp only [Act.put,List.setIfInBounds_toArray,List.set_cons_zero,List.set_cons_succ]
   refine gt_take (i := 5) (v := ?_) rfl (by kernel_rfl) (by kernel_rfl) (by kernel_rfl) (by kernel_rfl) (fun _ _ _ h => h) (Or.inl ⟨by rfl, ?_⟩) hHeld ?_
   rotate_left
   ·(intro X hSX;(try dsimp only at hSX);obtain ⟨g0,g1,g2⟩ := hSX;go_simp;try with_reducible rfl)
   try simp only [Act.put,List.setIfInBounds_toArray,List.set_cons_zero,List.set_cons_succ]
   refine gt_take (i := 7) (v := ?_) rfl (by kernel_rfl) (by kernel_rfl) (by kernel_rfl) (by kernel_rfl) (fun _ _ _ h => h) (Or.inl ⟨by rfl, ?_⟩) hHeld ?_
   rotate_left
   ·(intro X hSX;(try dsimp only at hSX);obtain ⟨g0,g1,g2⟩ := hSX;go_simp;try with_reducible rfl)
   try simp only [Act.put,List.setIfInBounds_toArray,List.set_cons_zero,List.set_cons_succ]
   refine gt_take (i := 8) (v := ?_) rfl (by kernel_rfl) (by kernel_rfl) (by kernel_rfl) (by kernel_rfl) (fun _ _ _ h => h) (Or.inl ⟨by rfl, ?_⟩) hHeld ?_
   rotate_left
   ·(intro X hSX;(try dsimp only at hSX);obtain ⟨g0,g1,g2⟩ := hSX;go_simp;try with_reducible rfl)
   try simp only [Act.put,List.setIfInBounds_toArray,List.set_cons_zero,List.set_cons_succ]
   refine gt_pure (i := 10) (v := ?_) rfl (by kernel_rfl) (by kernel_rfl) (by kernel_rfl) (fun _ _ _ h => h) (Or.inl ⟨by rfl, ?_⟩) ?_
   rotate_left
   ·(intro X;go_simp;try with_reducible rfl)
   try simp only [Act.put,List.setIfInBounds_toArray,List.set_cons_zero,List.set_cons_succ]
   refine gt_one (i := 3) rfl (by kernel_rfl) (by kernel_rfl) (fun K hK => ?_)
   go_simp
   go_at_call 141
   refine hC1.mono ?_
   rintro e V1 ⟨a1,e1,rfl,f1,o1,p1,b1⟩
   have hbV1 : Below wr.heap.size wr V1 := hbd.trans (b1.mono hbd.size)
   refine hK.out _ _ (KS _ hbV1) (fun hHeldN => ?_)
   clear hK hHeld
   have hHeld := hHeldN
   try simp only [Act.put,List.setIfInBounds_toArray,List.set_cons_zero,List.set_cons_succ]
   refine gt_one (i := 6) rfl (by kernel_rfl) (by kernel_rfl) (fun K hK => ?_)
   go_simp
   go_at_call 141
   refine (HC2.out V1 hbV1).mono ?_
   rintro e V2 ⟨a2,e2,rfl,f2,o2,p2,b2⟩
   have hbV2 : Below wr.heap.size wr V2 := hbV1.trans (b2.mono hbV1.size)
   refine hK.out _ _ (KS _ hbV2) (fun hHeldN => ?_)
   clear hK hHeld
   have hHeld := hHeldN
   try simp only [Act.put,List.setIfInBounds_toArray,List.set_cons_zero,List.set_cons_succ]
   refine gt_one (i := 9) rfl (by kernel_rfl) (by kernel_rfl) (fun K hK => ?_)
   go_simp
   go_at_call 141
   refine (HC3.out V2 hbV2).mono ?_
   rintro e V3 ⟨a3,e3,rfl,f3,o3,p3,b3⟩
   have hbV3 : Below wr.heap.size wr V3 := hbV2.trans (b3.mono hbV2.size)
   refine hK.out _ _ (KS _ hbV3) (fun hHeldN => ?_)
   clear hK hHeld
   have hHeld := hHeldN
   try simp only [Act.put,List.setIfInBounds_toArray,List.set_cons_zero,List.set_cons_succ]
   have hX3 : Bx V3 w.heap.size 37 #[.int .i64 r.ver,.slice A.ta r.txt.length A.tc,.slice A.ga r.got.length A.gc,.slice A.sa r.sus.length A.sc,.bool r.wed,.bool r.rdy,.int .i64 r.by_,.slice A.ma r.trm.length A.mc] := HY1.out.below hbV3
   have hX4 : Bx (V3.setCell ⟨w.heap.size,1,none⟩ (.slice a r.txt.length cc)) w.heap.size 37 #[.int .i64 r.ver,.slice a r.txt.length cc,.slice A.ga r.got.length A.gc,.slice A.sa r.sus.length A.sc,.bool r.wed,.bool r.rdy,.int .i64 r.by_,.slice A.ma r.trm.length A.mc] := by simpa using hX3.setC 1 (.slice a r.txt.length cc)
   have hX5 : Bx ((V3.setCell ⟨w.heap.size,1,none⟩ (.slice a r.txt.length cc)).setCell ⟨w.heap.size,2,none⟩ (.slice a1 r.got.length e1)) w.heap.size 37 #[.int .i64 r.ver,.slice a r.txt.length cc,.slice a1 r.got.length e1,.slice A.sa r.sus.length A.sc,.bool r.wed,.bool r.rdy,.int .i64 r.by_,.slice A.ma r.trm.length A.mc] := by simpa using hX4.setC 2 (.slice a1 r.got.length e1)
   have hX6 : Bx (((V3.setCell ⟨w.heap.size,1,none⟩ (.slice a r.txt.length cc)).setCell ⟨w.heap.size,2,none⟩ (.slice a1 r.got.length e1)).setCell ⟨w.heap.size,3,none⟩ (.slice a2 r.sus.length e2)) w.heap.size 37 #[.int .i64 r.ver,.slice a r.txt.length cc,.slice a1 r.got.length e1,.slice a2 r.sus.length e2,.bool r.wed,.bool r.rdy,.int .i64 r.by_,.slice A.ma r.trm.length A.mc] := by simpa using hX5.setC 3 (.slice a2 r.sus.length e2)
   have hX7 : Bx ((((V3.setCell ⟨w.heap.size,1,none⟩ (.slice a r.txt.length cc)).setCell ⟨w.heap.size,2,none⟩ (.slice a1 r.got.length e1)).setCell ⟨w.heap.size,3,none⟩ (.slice a2 r.sus.length e2)).setCell ⟨w.heap.size,7,none⟩ (.slice a3 r.trm.length e3)) w.heap.size 37 #[.int .i64 r.ver,.slice a r.txt.length cc,.slice a1 r.got.length e1,.slice a2 r.sus.length e2,.bool r.wed,.bool r.rdy,.int .i64 r.by_,.slice a3 r.trm.length e3] := by simpa using hX6.setC 7 (.slice a3 r.trm.length e3)
   have hs3 := hbV3.size
   have hs12 := b2.size
   have hs23 := b3.size
   have hs2 := hbV2.size
   have hs1 := hbV1.size
   have hW7 : Wrt (fun x => x = w.heap.size) V3 ((((V3.setCell ⟨w.heap.size,1,none⟩ (.slice a r.txt.length cc)).setCell ⟨w.heap.size,2,none⟩ (.slice a1 r.got.length e1)).setCell ⟨w.heap.size,3,none⟩ (.slice a2 r.sus.length e2)).setCell ⟨w.heap.size,7,none⟩ (.slice a3 r.trm.length e3)) := (((Wrt.set V3 w.heap.size 1 _).trans (Wrt.set _ w.heap.size 2 _) (fun _ _ h => h)).trans (Wrt.set _ w.heap.size 3 _) (fun _ _ h => h)).trans (Wrt.set _ w.heap.size 7 _) (fun _ _ h => h)
   have hR3 : Bx V3 (w.heap.size + 1) 37 #[.int .i64 0,.slice none 0 0,.slice none 0 0,.slice none 0 0,.bool false,.bool false,.int .i64 0,.slice none 0 0] := HY2.out.below hbV3
   have HNe : Hid (∀ X : World,X.cell? ⟨w.heap.size,2,none⟩ = some (.slice a1 r.got.length e1) → ¬ (X.cell? ⟨w.heap.size,2,none⟩ = some (.slice A.ga r.got.length A.gc) ∧ X.cell? ⟨w.heap.size,3,none⟩ = some (.slice A.sa r.sus.length A.sc) ∧ X.cell? ⟨w.heap.size,7,none⟩ = some (.slice A.ma r.trm.length A.mc))) := fun X h hk => by
    have e := Option.some.inj (h.symm.trans hk.1)
    obtain ⟨g1,q1,k1,e',hf1,_⟩ := ow_int_set o1 hg
    obtain ⟨gb,go,hga,hlt⟩ := HGa.out
    rw [hga] at e
    rw [e] at e'
    cases e'
    have := p1 _ hf1
    have hd : wr.drew.heap.size = wr.heap.size := rfl
    omega
   have HFin : Hid (Bx ((((V3.setCell ⟨w.heap.size,1,none⟩ (.slice a r.txt.length cc)).setCell ⟨w.heap.size,2,none⟩ (.slice a1 r.got.length e1)).setCell ⟨w.heap.size,3,none⟩ (.slice a2 r.sus.length e2)).setCell ⟨w.heap.size,7,none⟩ (.slice a3 r.trm.length e3)) w.heap.size 37 #[.int .i64 r.ver,.slice a r.txt.length cc,.slice a1 r.got.length e1,.slice a2 r.sus.length e2,.bool r.wed,.bool r.rdy,.int .i64 r.by_,.slice a3 r.trm.length e3] ∧ Bx ((((V3.setCell ⟨w.heap.size,1,none⟩ (.slice a r.txt.length cc)).setCell ⟨w.heap.size,2,none⟩ (.slice a1 r.got.length e1)).setCell ⟨w.heap.size,3,none⟩ (.slice a2 r.sus.length e2)).setCell ⟨w.heap.size,7,none⟩ (.slice a3 r.trm.length e3)) (w.heap.size + 1) 37 #[.int .i64 0,.slice none 0 0,.slice none 0 0,.slice none 0 0,.bool false,.bool false,.int .i64 0,.slice none 0 0] ∧ ∃ f,owL ((((V3.setCell ⟨w.heap.size,1,none⟩ (.slice a r.txt.length cc)).setCell ⟨w.heap.size,2,none⟩ (.slice a1 r.got.length e1)).setCell ⟨w.heap.size,3,none⟩ (.slice a2 r.sus.length e2)).setCell ⟨w.heap.size,7,none⟩ (.slice a3 r.trm.length e3)) (rwCels r) (rwVals ⟨a,cc,a1,e1,a2,e2,a3,e3⟩ r) f ∧ (∀ b,f b → w.heap.size + 1 + 1 ≤ b) ∧ Below w.heap.size w ((((V3.setCell ⟨w.heap.size,1,none⟩ (.slice a r.txt.length cc)).setCell ⟨w.heap.size,2,none⟩ (.slice a1 r.got.length e1)).setCell ⟨w.heap.size,3,none⟩ (.slice a2 r.sus.length e2)).setCell ⟨w.heap.size,7,none⟩ (.slice a3 r.trm.length e3))) := by
    have hd : wr.drew.heap.size = wr.heap.size := rfl
    have q0 : Cel.ow V3 (scl r.txt) (.slice a r.txt.length cc) fz := Cel.ow_below HO.out hbV3
    have q1 : Cel.ow V3 (icl r.got) (.slice a1 r.got.length e1) f1 := Cel.ow_below (Cel.ow_below o1 b2) b3
    have q2 : Cel.ow V3 (icl r.sus) (.slice a2 r.sus.length e2) f2 := Cel.ow_below o2 b3
    have l0 := Cel.ow_lt HO.out
    have l1 := Cel.ow_lt o1
    have l2 := Cel.ow_lt o2
    have hall : ∀ b,(fz b ∨ f1 b ∨ f2 b ∨ f3 b) → w.heap.size + 1 + 1 ≤ b := by
     rintro b (k | k | k | k)
     ·exact hfz b k
     ·have := p1 b k;omega
     ·have := p2 b k;omega
     ·have := p3 b k;omega
    have hL := owL4 q0 q1 q2 o3 (fun b k k' => by
     have := l0 b k
     rcases k' with k' | k' | k'
     ·have := p1 b k';omega
     ·have := p2 b k';omega
     ·have := p3 b k';omega) (fun b k k' => by
     have := l1 b k
     rcases k' with k' | k'
     ·have := p2 b k';omega
     ·have := p3 b k';omega) (fun b k k' => by
     have := l2 b k
     have := p3 b k'
     omega)
    have hB3 : Below w.heap.size w V3 := HB.out.trans (hbV3.mono HB.out.size)
    exact ⟨hX7,hR3.wrt hW7 (fun e => by omega),_,owL_wrt hL hW7 (fun b hb e => by have := hall b hb;omega),hall,hW7.below hB3 hB3.size (fun b e => by omega)⟩
   have x1 := hX3.at 1 (v := .slice A.ta r.txt.length A.tc) rfl
   have y1 := hX3.f 1
   have x2 := hX4.at 2 (v := .slice A.ga r.got.length A.gc) rfl
   have y2 := hX4.f 2
   have x3 := hX5.at 3 (v := .slice A.sa r.sus.length A.sc) rfl
   have y3 := hX5.f 3
   have x7 := hX6.at 7 (v := .slice A.ma r.trm.length A.mc) rfl
   have y7 := hX6.f 7
   have n5 := HNe.out _ (hX5.at 2 (v := .slice a1 r.got.length e1) rfl)
   have n6 := HNe.out _ (hX6.at 2 (v := .slice a1 r.got.length e1) rfl)
   have k4 : (V3.setCell ⟨w.heap.size,1,none⟩ (.slice a r.txt.length cc)).cell? ⟨w.heap.size,2,none⟩ = some (.slice A.ga r.got.length A.gc) ∧ (V3.setCell ⟨w.heap.size,1,none⟩ (.slice a r.txt.length cc)).cell? ⟨w.heap.size,3,none⟩ = some (.slice A.sa r.sus.length A.sc) ∧ (V3.setCell ⟨w.heap.size,1,none⟩ (.slice a r.txt.length cc)).cell? ⟨w.heap.size,7,none⟩ = some (.slice A.ma r.trm.length A.mc) := ⟨x2,hX4.at 3 (v := .slice A.sa r.sus.length A.sc) rfl,hX4.at 7 (v := .slice A.ma r.trm.length A.mc) rfl⟩
   clear o1 o2 o3 p1 p2 p3 b1 b2 b3 hX3 hX4 hX5 hX6 hX7 hW7 hR3 HNe HY1 HY2 HC2 HC3 hbV1 hbV2 hbV3 hbd KS HGa
   refine gt_one (i := 11) rfl (by kernel_rfl) (by kernel_rfl) (fun K hK => ?_)
   go_simp
   refine hK.out _ _ k4 (fun hHeldN => ?_)
   clear hK hHeld
   have hHeld := hHeldN
   try simp only [Act.put,List.setIfInBounds_toArray,List.set_cons_zero,List.set_cons_succ]
   refine gt_pure (i := 12) (v := ?_) rfl (by kernel_rfl) (by kernel_rfl) (by kernel_rfl) (fun _ _ _ h => h) (Or.inl ⟨by rfl, ?_⟩) ?_
   rotate_left
   ·(intro X;go_simp;try with_reducible rfl)
   try simp only [Act.put,List.setIfInBounds_toArray,List.set_cons_zero,List.set_cons_succ]
   refine gt_oneZ rfl (by kernel_rfl) (fun K hK => ?_)
   go_simp
   refine hK.out _ _ ?_
   try simp only [Act.put,List.setIfInBounds_toArray,List.set_cons_zero,List.set_cons_succ]
   refine gt_pure (i := 14) (v := ?_) rfl (by kernel_rfl) (by kernel_rfl) (by kernel_rfl) (fun _ _ _ h => h) (Or.inl ⟨by rfl, ?_⟩) ?_
   rotate_left
   ·(intro X;go_simp;try with_reducible rfl)
   try simp only [Act.put,List.setIfInBounds_toArray,List.set_cons_zero,List.set_cons_succ]
   refine gt_oneN (i := 15) n5 rfl (by kernel_rfl) (fun K hK => ?_)
   go_simp
   refine hK.out _ _ ?_
   try simp only [Act.put,List.setIfInBounds_toArray,List.set_cons_zero,List.set_cons_succ]
   refine gt_pure (i := 16) (v := ?_) rfl (by kernel_rfl) (by kernel_rfl) (by kernel_rfl) (fun _ _ _ h => h) (Or.inl ⟨by rfl, ?_⟩) ?_
   rotate_left
   ·(intro X;go_simp;try with_reducible rfl)
   try simp only [Act.put,List.setIfInBounds_toArray,List.set_cons_zero,List.set_cons_succ]
   refine gt_oneN (i := 17) n6 rfl (by kernel_rfl) (fun K hK => ?_)
   go_simp
   refine hK.out _ _ ?_
   try simp only [Act.put,List.setIfInBounds_toArray,List.set_cons_zero,List.set_cons_succ]
   refine gt_end (by kernel_rfl) ?_
   clear hHeld x1 x2 x3 x7 y1 y2 y3 y7 n5 n6 k4
   obtain ⟨hX7,hR7,f,hL7,hf7,hB7⟩ := HFin.out
   generalize (((V3.setCell ⟨w.heap.size,1,none⟩ (.slice a r.txt.length cc)).setCell ⟨w.heap.size,2,none⟩ (.slice a1 r.got.length e1)).setCell ⟨w.heap.size,3,none⟩ (.slice a2 r.sus.length e2)).setCell ⟨w.heap.size,7,none⟩ (.slice a3 r.trm.length e3) = W7 at *
   have HN : Hid (∀ {z0 z1 z2 z3 z4 z5 z6 z7 : Value},NewL w ((((((((W7.setCell ⟨w.heap.size + 1,0,none⟩ z0).setCell ⟨w.heap.size + 1,1,none⟩ z1).setCell ⟨w.heap.size + 1,2,none⟩ z2).setCell ⟨w.heap.size + 1,3,none⟩ z3).setCell ⟨w.heap.size + 1,4,none⟩ z4).setCell ⟨w.heap.size + 1,5,none⟩ z5).setCell ⟨w.heap.size + 1,6,none⟩ z6).setCell ⟨w.heap.size + 1,7,none⟩ z7) (rwCels r) (rwVals ⟨a,cc,a1,e1,a2,e2,a3,e3⟩ r)) := fun {z0 z1 z2 z3 z4 z5 z6 z7} => ⟨f,owL_wrt hL7 (wrt8 W7 (w.heap.size + 1)) (fun b hb e => by have := hf7 b hb;omega),fun b hb => by have := hf7 b hb;omega,(wrt8 W7 (w.heap.size + 1)).below hB7 hB7.size (fun b e => by omega)⟩
   obtain ⟨⟨x0,x1,x2,x3⟩,x4,x5,x6,x7⟩ := Bx.r8 hX7
   obtain ⟨⟨z0,z1,z2,z3⟩,z4,z5,z6,z7⟩ := Bx.r8 hR7
   obtain ⟨⟨f0,f1',f2',f3'⟩,f4,f5,f6,f7⟩ := hR7.f8
   clear HFin hX7 hR7 hL7 hf7 hB7
   go_wp2
   refine bodyPost_ret (v := rwV ⟨a,cc,a1,e1,a2,e2,a3,e3⟩ r) (by simp [results,Tryz.results83,go_sem,rwV,rwC, *]) rfl ?_
   exact ⟨_,rfl,HN.out⟩
end Go.Proofs.YtidnfdobljihoaaGreat
namespace Go.Proofs.YtidnfdobljihoaaGreat
set_option linter.unusedVariables false
set_option linter.unusedSimpArgs false
open Go.RowKit Go.Sort
set_option maxHeartbeats 400000 in
theorem isRl_any (n : Int) (w : World) : Calls Tryz.prog 71 #[.int .i64 n] w fun e w' => e = .returned (.bool (inB n 1 5)) ∧ w' = w := by
 by_cases h0 : (1 : Int) ≤ n
 ·have H : Hid (inB n 1 5 = decide (n ≤ 5)) := by rw [Hid,inB];simp [h0]
  go_enter Tryz.func71,Tryz.ntmps71
  go_wp2
  go_ret
  exact ⟨ret_bool (by rw [H.out]),rfl⟩
 ·have H : Hid (inB n 1 5 = false) := by rw [Hid,inB];simp [h0]
  go_enter Tryz.func71,Tryz.ntmps71
  go_wp2
  go_ret
  exact ⟨ret_bool (by rw [H.out]),rfl⟩
def txB (T : List (List UInt8)) : Bool := decide (T.length ≤ 12) && T.all (fun t => decide (t.length ≤ 20))
theorem txB_long {T : List (List UInt8)} {k : Nat} (hk : k < T.length) (h : ¬ (T.getD k []).length ≤ 20) : txB T = false := by
 have : T.all (fun t => decide (t.length ≤ 20)) = false := by
  rw [List.all_eq_false]
  refine ⟨T[k],List.getElem_mem hk, ?_⟩
  rw [List.getD_eq_getElem?_getD,List.getElem?_eq_getElem hk] at h
  simpa using h
 rw [txB,this]
 simp
theorem txB_all {T : List (List UInt8)} (h0 : T.length ≤ 12) (h : ∀ k,k < T.length → (T.getD k []).length ≤ 20) : txB T = true := by
 have : T.all (fun t => decide (t.length ≤ 20)) = true := by
  rw [List.all_eq_true]
  intro t ht
  obtain ⟨j,hj,rfl⟩ := List.mem_iff_getElem.1 ht
  have := h j hj
  rw [List.getD_eq_getElem?_getD,List.getElem?_eq_getElem hj] at this
  simpa using this
 rw [txB,decide_eq_true h0,this]
 rfl
attribute [local irreducible] sv
set_option maxHeartbeats 800000 in
theorem areTx_any (a : Option Addr) (cap : Nat) (T : List (List UInt8)) (w : World) (hv : TxS w a T) (hm : T.length ≤ maxLen) :
  Calls Tryz.prog 110 #[.slice a T.length cap] w fun e w' => e = .returned (.bool (txB T)) ∧ w' = w := by
 unfold maxLen at hm
 by_cases h12 : T.length ≤ 12
 ·have g12 : ¬ ((12 : Int) < (T.length : Int)) := by omega
  have H12 : Hid (T.length ≤ 12) := h12
  have HV : Hid (TxS w a T) := hv
  clear hv h12
  go_enter Tryz.func110,Tryz.ntmps110
  go_wp2
  go_loop [10] (fun i => ∃ k : Nat,k ≤ T.length ∧ i = .int .i64 k ∧ ∀ j,j < k → (T.getD j []).length ≤ 20) (fun i => T.length - (intOf i).toNat)
  case atStart => exact ⟨0,Nat.zero_le _,rfl,fun j hj => by omega⟩
  case round =>
   obtain ⟨k,hk,rfl,hall⟩ := hrel
   have HA : Hid (∀ j,j < k → (T.getD j []).length ≤ 20) := hall
   clear hall
   by_cases hlt : k < T.length
   ·rcases HV.out with h0 | ⟨b,off,rfl,hc⟩
    ·omega
    have hck := hc k hlt
    have k1 : (k : Int) < (T.length : Int) := by omega
    have k0 : (0 : Int) ≤ (k : Int) := by omega
    clear hc
    by_cases h20 : (T.getD k []).length ≤ 20
    ·have g20 : ¬ ((20 : Int) < ((T.getD k []).length : Int)) := by omega
     have HN : Hid (∀ j,j < k + 1 → (T.getD j []).length ≤ 20) := fun j hj => by
      rcases Nat.lt_succ_iff_lt_or_eq.1 hj with h1 | h1
      ·exact HA.out j h1
      ·rw [h1];exact h20
     generalize T.getD k [] = t at *
     have hz : (sv t).size = t.length := sv_size t
     clear h20
     go_wp2
     go_round
     case rel => exact ⟨k + 1,by omega,by go_num,HN.out⟩
     case measure => simp [intOf];omega
    ·have g20 : (20 : Int) < ((T.getD k []).length : Int) := by omega
     have HZ : Hid (txB T = false) := txB_long (k := k) hlt h20
     generalize T.getD k [] = t at *
     have hz : (sv t).size = t.length := sv_size t
     clear h20
     go_wp2
     go_ret
     exact ⟨ret_bool (by rw [HZ.out]),rfl⟩
   ·have k1 : ¬ ((k : Int) < (T.length : Int)) := by omega
    have HZ : Hid (txB T = true) := txB_all H12.out (fun j hj => HA.out j (by omega))
    go_wp2
    go_ret
    exact ⟨ret_bool (by rw [HZ.out]),rfl⟩
 ·have g12 : (12 : Int) < (T.length : Int) := by omega
  have HZ : Hid (txB T = false) := by rw [Hid,txB,decide_eq_false h12];rfl
  clear hv h12
  go_enter Tryz.func110,Tryz.ntmps110
  go_wp2
  go_ret
  exact ⟨ret_bool (by rw [HZ.out]),rfl⟩
theorem hi16 {x m : Int} : ∀ {xs : List Int},hiL x xs ≤ m ↔ x ≤ m ∧ ∀ y ∈ xs,y ≤ m := by
 intro xs
 induction xs generalizing x with
 | nil => simp [hiL]
 | cons y ys ih =>
  show hiL (max x y) ys ≤ m ↔ _
  rw [ih]
  simp only [List.mem_cons]
  constructor
  ·rintro ⟨h1,h2⟩
   exact ⟨by omega,fun z hz => by rcases hz with rfl | hz;omega;exact h2 z hz⟩
  ·rintro ⟨h1,h2⟩
   exact ⟨by have := h2 y (.inl rfl);omega,fun z hz => h2 z (.inr hz)⟩
theorem sm_gr {v : List Int} {n : Int} (h1 : (v.length : Int) = n) (h2 : okB v = true) : smB v n = decide (hiL (el v 0) v.tail ≤ 12) := by
 have hl := (okB_len h2).1
 rw [smB,h2,decide_eq_true h1,Bool.true_and,Bool.true_and,Bool.eq_iff_iff,decide_eq_true_eq,hi16,List.all_eq_true]
 cases v with
 | nil => simp at hl
 | cons x xs =>
  simp only [decide_eq_true_eq,List.mem_cons,List.tail_cons]
  constructor
  ·intro h
   exact ⟨h _ (.inl rfl),fun y hy => h y (.inr hy)⟩
  ·rintro ⟨h,h'⟩ y hy
   rcases hy with rfl | hy
   ·exact h
   ·exact h' y hy
set_option maxRecDepth 100000 in
set_option maxHeartbeats 800000 in
theorem areCt_any (a : Option Addr) (cap : Nat) (v : List Int) (n : Int) (w : World) (hv : Vec w a v.length v) (hcap : v.length ≤ cap) (hm : cap ≤ maxLen) :
  Calls Tryz.prog 111 #[.slice a v.length cap,.int .i64 n] w fun e w' => e = .returned (.bool (smB v n)) ∧ ∃ m,w' = w.drewN m := by
 have hV := vok_any a v.length cap v w hv hcap hm
 have hml : v.length ≤ maxLen := Nat.le_trans hcap hm
 unfold maxLen at hml
 by_cases hl : (v.length : Int) = n
 ·have e1 : ((v.length : Int) == n) = true := by simpa using hl
  cases hb : okB v with
  | false =>
   rw [hb] at hV
   have HZ : Hid (smB v n = false) := by rw [Hid,smB,hb];rfl
   clear hb hl hv
   go_enter Tryz.func111,Tryz.ntmps111
   go_wp2_with (go_at_call 159;refine hV.mono ?_;rintro e w' ⟨rfl,n1,rfl⟩)
   go_ret
   exact ⟨ret_bool (by rw [HZ.out]),_,rfl⟩
  | true =>
   rw [hb] at hV
   have HZ : Hid (smB v n = decide (hiL (el v 0) v.tail ≤ 12)) := sm_gr hl hb
   have h18 := okB_len hb
   clear hb hl
   obtain ⟨_,hf,hcs⟩ := hv
   have hG : Hid (∀ n,Calls Tryz.prog 160 #[.slice a v.length cap] (w.drewN n) fun e w' => e = .returned (.int .i64 (hiL (el v 0) v.tail)) ∧ ∃ m,w' = (w.drewN n).drewN m) := by
    intro n
    rcases hcs with h0 | ⟨b,off,rfl,hc⟩
    ·omega
    ·exact vgreatest_any b off v.length cap v _ rfl hf (fun k hk => by rw [World.cell?_drewN];exact hc k hk) (by omega) hcap hm
   clear hcs hf h18
   generalize hiL (el v 0) v.tail = G at *
   go_enter Tryz.func111,Tryz.ntmps111
   go_wp2_with (first | (go_at_call 159;refine hV.mono ?_;rintro e w' ⟨rfl,n1,rfl⟩) | (go_at_call 160;refine (hG.out _).mono ?_;rintro e w' ⟨rfl,n2,rfl⟩))
   go_ret
   exact ⟨ret_bool (by rw [HZ.out]),_,rfl⟩
 ·have e1 : ((v.length : Int) == n) = false := by simpa using hl
  have HZ : Hid (smB v n = false) := by rw [Hid,smB,decide_eq_false hl];simp
  clear hl hv hV
  go_enter Tryz.func111,Tryz.ntmps111
  go_wp2
  go_ret
  exact ⟨ret_bool (by rw [HZ.out]),0,rfl⟩
theorem sus_row (n : Int) (l : List Int) : decide (okRow n l) = susB l n := by
 rw [Bool.eq_iff_iff,decide_eq_true_eq,susB,Bool.and_eq_true,List.all_eq_true,okRow,risB,decide_eq_true_eq]
 constructor
 ·rintro ⟨h1,h2⟩
  refine ⟨fun x hx => ?_,h2⟩
  obtain ⟨j,hj,rfl⟩ := List.mem_iff_getElem.1 hx
  have := h1 j hj
  rw [el_eq hj] at this
  exact inB7.2 this
 ·rintro ⟨h1,h2⟩
  exact ⟨fun i hi => inB7.1 (h1 _ (el_mem hi)),h2⟩
set_option maxHeartbeats 800000 in
theorem eqTx_any (a a' : Option Addr) (cap cap' : Nat) (S T : List (List UInt8)) (w : World) (hv : TxS w a S) (hv' : TxS w a' T) (hm : S.length ≤ maxLen) (hl : S.length = T.length) :
  Calls Tryz.prog 149 #[.slice a S.length cap,.slice a' T.length cap'] w fun e w' => e = .returned (.bool (decide (S = T))) ∧ ∃ n,w' = w.drewN n := by
 unfold maxLen at hm
 have hne : ((S.length : Int) != (T.length : Int)) = false := by simp [hl]
 have HL : Hid (S.length = T.length) := hl
 have HV : Hid (TxS w a S) := hv
 have HV' : Hid (TxS w a' T) := hv'
 clear hl hv hv'
 go_enter Tryz.func149,Tryz.ntmps149
 go_wp2
 go_loopw [13] (fun i wr => ∃ k : Nat,k ≤ S.length ∧ i = .int .i64 k ∧ (∀ j,j < k → S.getD j [] = T.getD j []) ∧ ∃ n,wr = w.drewN n) (fun i _ => S.length - (intOf i).toNat)
 case atStart => exact ⟨0,Nat.zero_le _,rfl,fun j hj => by omega,0,rfl⟩
 case round =>
  obtain ⟨k,hk,rfl,hall,n,rfl⟩ := hrel
  have HA : Hid (∀ j,j < k → S.getD j [] = T.getD j []) := hall
  clear hall
  by_cases hlt : k < S.length
  ·have hlq : k < T.length := by rw [← HL.out];exact hlt
   rcases HV.out with h0 | ⟨b,off,rfl,hc⟩
   ·omega
   rcases HV'.out with h0 | ⟨b2,off2,rfl,hc2⟩
   ·omega
   have hck := hc k hlt
   have hck2 := hc2 k hlq
   have k1 : (k : Int) < (S.length : Int) := by omega
   have k2 : (k : Int) < (T.length : Int) := by omega
   have k0 : (0 : Int) ≤ (k : Int) := by omega
   clear hc hc2
   by_cases he : S.getD k [] = T.getD k []
   ·have HN : Hid (∀ j,j < k + 1 → S.getD j [] = T.getD j []) := fun j hj => by
     rcases Nat.lt_succ_iff_lt_or_eq.1 hj with h1 | h1
     ·exact HA.out j h1
     ·rw [h1];exact he
    rw [← he] at hck2
    generalize S.getD k [] = t at *
    have ns : ((sv t).toList == (sv t).toList) = true := by simp
    clear he
    go_wp2_with fail
    go_quiet (fail)
    go_wp2
    go_roundw
    case rel => exact ⟨k + 1,by omega,by go_num,HN.out,_,rfl⟩
    case measure => simp [intOf];omega
   ·have HZ : Hid (decide (S = T) = false) := decide_eq_false (fun h => he (by rw [h]))
    have ns : ((sv (S.getD k [])).toList == (sv (T.getD k [])).toList) = false := by rw [sv_list,sv_list];simpa using he
    generalize S.getD k [] = t at *
    generalize T.getD k [] = t2 at *
    clear he
    go_wp2_with fail
    go_quiet (fail)
    go_wp2
    go_ret
    exact ⟨ret_bool (by rw [HZ.out]),_,World.drewN_drewN _ _ _⟩
  ·have k1 : ¬ ((k : Int) < (S.length : Int)) := by omega
   have HZ : Hid (decide (S = T) = true) := decide_eq_true (List.ext_getElem HL.out (fun i h1 h2 => by
    have := HA.out i (by omega)
    rwa [List.getD_eq_getElem?_getD,List.getElem?_eq_getElem h1,List.getD_eq_getElem?_getD,List.getElem?_eq_getElem h2] at this))
   go_wp2
   go_ret
   exact ⟨ret_bool (by rw [HZ.out]),_,rfl⟩
theorem take_tx {w : World} {a : Option Addr} {cap : Nat} {T : List (List UInt8)} (hv : TxP w a cap T) {j : Nat} (hj : j ≤ T.length) :
  ∃ a' c',(∀ X,(Instr.slice 32 (.slice a T.length cap) none (some (.int .i64 (j : Int))) none).run Tryz.prog X = .ok (.slice a' j c') X) ∧ TxS w a' (T.take j) := by
 obtain ⟨i0,hi0,hz0,hz1,hz2⟩ := info_parts9 Tryz.info9
 have hcap : T.length ≤ cap := by
  rcases hv with ⟨rfl,rfl,_⟩ | ⟨b,off,_,h,_⟩
  ·exact Nat.le_refl _
  ·exact h
 have hs : ∀ X,(Instr.slice 32 (.slice a T.length cap) none (some (.int .i64 (j : Int))) none).run Tryz.prog X = .ok (sliced a 0 j cap 1) X := fun X => by
  rw [run_slice_h X 32 a T.length cap (by kernel_rfl) .i64 (j : Int) (by omega) (by omega)]
  rw [show Tryz.prog.elem 32 = 9 by kernel_rfl]
  rw [run_sizeOf X hi0,show Tryz.prog.cellsOf 9 = 1 by kernel_rfl]
  simp [Result.andThen]
 have hs2 : ∀ X,(Instr.slice 32 (.slice a T.length cap) none (some (.int .i64 (j : Int))) none).run Tryz.prog X = .ok (.slice a j cap) X := fun X => by
  rw [hs X]
  have e : (if cap = 0 then a else a.map (·.add (0 * 1))) = a := by
   split
   ·rfl
   ·rcases hv with ⟨rfl,rfl,_⟩ | ⟨b,off,rfl,_⟩
    ·omega
    ·simp [Addr.add]
  simp only [sliced,e,Nat.sub_zero]
 refine ⟨_,_,hs2,hv.txs.take j⟩
def begB (T S : List (List UInt8)) : Bool := decide (S.length ≤ T.length) && decide (T.take S.length = S)
set_option maxHeartbeats 800000 in
theorem begW_any (a b : Option Addr) (cap c : Nat) (T S : List (List UInt8)) (w : World) (hv : TxP w a cap T) (hu : TxS w b S) (hm : T.length ≤ maxLen) (hm2 : S.length ≤ maxLen) :
  Calls Tryz.prog 228 #[.slice a T.length cap,.slice b S.length c] w fun e w' => e = .returned (.bool (begB T S)) ∧ ∃ n,w' = w.drewN n := by
 by_cases hl : S.length ≤ T.length
 ·have k1 : (S.length : Int) ≤ (T.length : Int) := by omega
  obtain ⟨a',c',hs,ht⟩ := take_tx hv hl
  have hE : Calls Tryz.prog 149 #[.slice b S.length c,.slice a' S.length c'] w fun e w' => e = .returned (.bool (decide (S = T.take S.length))) ∧ ∃ n,w' = w.drewN n := by
   have := eqTx_any b a' c c' S (T.take S.length) w hu ht hm2 (by rw [List.length_take];omega)
   rw [List.length_take,Nat.min_eq_left hl] at this
   exact this
  have HZ : Hid (begB T S = decide (S = T.take S.length)) := by
   rw [Hid,begB,decide_eq_true hl,Bool.true_and]
   exact decide_eq_decide.2 eq_comm
  generalize decide (S = T.take S.length) = Q at *
  unfold maxLen at hm hm2
  clear hv hu ht hl
  go_enter Tryz.func228,Tryz.ntmps228
  go_wp2_with (go_at_call 149;refine hE.mono ?_;rintro e w' ⟨rfl,n1,rfl⟩)
  go_ret
  exact ⟨ret_bool (by rw [HZ.out]),_,rfl⟩
 ·have k1 : ¬ ((S.length : Int) ≤ (T.length : Int)) := by omega
  have HZ : Hid (begB T S = false) := by rw [Hid,begB,decide_eq_false hl,Bool.false_and]
  unfold maxLen at hm hm2
  clear hv hu hl
  go_enter Tryz.func228,Tryz.ntmps228
  go_wp2
  go_ret
  exact ⟨ret_bool (by rw [HZ.out]),0,rfl⟩
set_option maxHeartbeats 800000 in
theorem ammI_any (a b : Option Addr) (c d : Nat) (l o : List Int) (w : World) (hv : Vec w a l.length l) (hu : Vec w b o.length o) (hm : l.length ≤ maxLen) (hm2 : o.length ≤ maxLen) :
  Calls Tryz.prog 198 #[.slice b o.length d,.slice a l.length c] w fun e w' => e = .returned (.bool (o.all (fun x => decide (x ∈ l)))) ∧ w' = w := by
 have hH := fun x => con14_any a c l x w hv hm
 have HU : Hid (Vec w b o.length o) := hu
 unfold maxLen at hm hm2
 clear hu hv
 go_enter Tryz.func198,Tryz.ntmps198
 go_wp2
 go_loop [9] (fun i => ∃ k : Nat,k ≤ o.length ∧ i = .int .i64 k ∧ ∀ j,j < k → el o j ∈ l) (fun i => o.length - (intOf i).toNat)
 case atStart => exact ⟨0,Nat.zero_le _,rfl,fun j hj => by omega⟩
 case round =>
  obtain ⟨k,hk,rfl,hall⟩ := hrel
  have HA : Hid (∀ j,j < k → el o j ∈ l) := hall
  clear hall
  by_cases hlt : k < o.length
  ·rcases HU.out.2.2 with h0 | ⟨b',off,rfl,hc⟩
   ·omega
   have hck := hc k hlt
   have k1 : (k : Int) < (o.length : Int) := by omega
   have k0 : (0 : Int) ≤ (k : Int) := by omega
   have hI := hH (el o k)
   clear hc hH
   by_cases hb : el o k ∈ l
   ·rw [decide_eq_true hb] at hI
    have HN : Hid (∀ j,j < k + 1 → el o j ∈ l) := fun j hj => by
     rcases Nat.lt_succ_iff_lt_or_eq.1 hj with h1 | h1
     ·exact HA.out j h1
     ·rw [h1];exact hb
    generalize el o k = x at *
    clear hb
    go_wp2_with (go_at_call 101;refine hI.mono ?_;rintro e w' ⟨rfl,hw'⟩;rw [hw'];clear hw')
    go_round
    case rel => exact ⟨k + 1,by omega,by go_num,HN.out⟩
    case measure => simp [intOf];omega
   ·rw [decide_eq_false hb] at hI
    have HZ : Hid (o.all (fun x => decide (x ∈ l)) = false) := all_miss16 hlt hb
    generalize el o k = x at *
    clear hb
    go_wp2_with (go_at_call 101;refine hI.mono ?_;rintro e w' ⟨rfl,hw'⟩;rw [hw'];clear hw')
    go_ret
    exact ⟨ret_bool (by rw [HZ.out]),rfl⟩
  ·have k1 : ¬ ((k : Int) < (o.length : Int)) := by omega
   have HZ : Hid (o.all (fun x => decide (x ∈ l)) = true) := all_hit16 (fun j hj => HA.out j (by omega))
   go_wp2
   go_ret
   exact ⟨ret_bool (by rw [HZ.out]),rfl⟩
end Go.Proofs.YtidnfdobljihoaaGreat