/-
  Texts in one: Rzs Rzo Rzf Rzn Vwp Vws Vwt Rlo Rfu Rcn Rpu Rpn Cqs Dhl Vwa Iti Vwh Rzh Rzt Rzm Rzq Mbq Rnw.
-/
import Derived.Test.YtidnfdobljihoaaGreatJab
import Derived.Test.YtidnfdobljihoaaGreatJaa
import Derived.Deep.QuietTactic
import Derived.BigQuiet
import Derived.Deep.RegionHeld3
namespace Go.Proofs.YtidnfdobljihoaaGreat
set_option linter.unusedVariables false
set_option linter.unusedSimpArgs false
open Go.RowKit Go.Sort
structure Ra where
 ta : Option Addr
 tc : Nat
 ga : Option Addr
 gc : Nat
 sa : Option Addr
 sc : Nat
 ma : Option Addr
 mc : Nat
def rwC (A : Ra) (r : Rw) : Array Value := #[.int .i64 r.ver,.slice A.ta r.txt.length A.tc,.slice A.ga r.got.length A.gc,.slice A.sa r.sus.length A.sc,.bool r.wed,.bool r.rdy,.int .i64 r.by_,.slice A.ma r.trm.length A.mc]
def rwV (A : Ra) (r : Rw) : Value := .agg (rwC A r)
structure RwS (w : World) (A : Ra) (r : Rw) : Prop where
 txt : TxS w A.ta r.txt
 got : Vec w A.ga r.got.length r.got
 sus : Vec w A.sa r.sus.length r.sus
 trm : Vec w A.ma r.trm.length r.trm
 mt : r.txt.length ≤ maxLen
 mg : r.got.length ≤ maxLen
 ms : r.sus.length ≤ maxLen
 mm : r.trm.length ≤ maxLen
theorem RwS.below {w w' : World} {A : Ra} {r : Rw} (h : RwS w A r) (hb : Below w.heap.size w w') : RwS w' A r := ⟨h.txt.below hb,h.got.below hb (Nat.le_refl _),h.sus.below hb (Nat.le_refl _),h.trm.below hb (Nat.le_refl _),h.mt,h.mg,h.ms,h.mm⟩
theorem Bx.r8 {w : World} {B : Nat} {T : TypeId} {x0 x1 x2 x3 x4 x5 x6 x7 : Value} (h : Bx w B T #[x0,x1,x2,x3,x4,x5,x6,x7]) : (w.cell? ⟨B,0,none⟩ = some x0 ∧ w.cell? ⟨B,1,none⟩ = some x1 ∧ w.cell? ⟨B,2,none⟩ = some x2 ∧ w.cell? ⟨B,3,none⟩ = some x3) ∧ w.cell? ⟨B,4,none⟩ = some x4 ∧ w.cell? ⟨B,5,none⟩ = some x5 ∧ w.cell? ⟨B,6,none⟩ = some x6 ∧ w.cell? ⟨B,7,none⟩ = some x7 :=
 ⟨⟨h.at 0 rfl,h.at 1 rfl,h.at 2 rfl,h.at 3 rfl⟩,h.at 4 rfl,h.at 5 rfl,h.at 6 rfl,h.at 7 rfl⟩
theorem oneA16 (w : World) (o : Obj) : Below w.heap.size w (w.alloc o) := (Below.refl _ _).alloc (Nat.le_refl _) _
theorem susB_miss {l : List Int} {n : Int} {k : Nat} (hk : k < l.length) (h : inB (el l k) 0 (n - 1) = false) : susB l n = false := by
 have : l.all (fun x => inB x 0 (n - 1)) = false := by
  rw [List.all_eq_false]
  exact ⟨el l k,el_mem hk,by simp [h]⟩
 rw [susB,this]
 rfl
theorem susB_all {l : List Int} {n : Int} (h : ∀ k,k < l.length → inB (el l k) 0 (n - 1) = true) : susB l n = risB l := by
 have : l.all (fun x => inB x 0 (n - 1)) = true := by
  rw [List.all_eq_true]
  intro x hx
  obtain ⟨j,hj,rfl⟩ := List.mem_iff_getElem.1 hx
  have := h j hj
  simpa [el,hj] using this
 rw [susB,this]
 rfl
set_option maxRecDepth 100000 in
set_option maxHeartbeats 1600000 in
theorem susS_any (a : Option Addr) (cap : Nat) (l : List Int) (n : Int) (w : World) (hv : Vec w a l.length l) (hm : l.length ≤ maxLen) (hn : -1000 ≤ n ∧ n ≤ 1000) :
  Calls Tryz.prog 108 #[.slice a l.length cap,.int .i64 n] w fun e w' => e = .returned (.bool (susB l n)) ∧ Below w.heap.size w w' := by
 have hR := l1Rises_any a l.length cap l w hv hm
 have HV : Hid (Vec w a l.length l) := hv
 have hwn : wrap64 (n - 1) = n - 1 := by unfold wrap64;omega
 unfold maxLen at hm
 clear hv
 go_enter Tryz.func108,Tryz.ntmps108
 go_wp2
 go_loop [5] (fun i => ∃ k : Nat,k ≤ l.length ∧ i = .int .i64 k ∧ ∀ j,j < k → inB (el l j) 0 (n - 1) = true) (fun i => l.length - (intOf i).toNat)
 case atStart => exact ⟨0,Nat.zero_le _,rfl,fun j hj => by omega⟩
 case round =>
  obtain ⟨k,hk,rfl,hall⟩ := hrel
  have HA : Hid (∀ j,j < k → inB (el l j) 0 (n - 1) = true) := hall
  clear hall
  by_cases hlt : k < l.length
  ·rcases HV.out.2.2 with h0 | ⟨b,off,rfl,hc⟩
   ·omega
   have hck := hc k hlt
   have k1 : (k : Int) < (l.length : Int) := by omega
   have k0 : (0 : Int) ≤ (k : Int) := by omega
   have hI := fun X => l1In_any (el l k) 0 (n - 1) X
   clear hc
   cases hb : inB (el l k) 0 (n - 1) with
   | true =>
    rw [hb] at hI
    have HN : Hid (∀ j,j < k + 1 → inB (el l j) 0 (n - 1) = true) := fun j hj => by
     rcases Nat.lt_succ_iff_lt_or_eq.1 hj with h1 | h1
     ·exact HA.out j h1
     ·rw [h1];exact hb
    generalize el l k = x at *
    clear hb
    go_wp2_with (go_at_call 48;refine (hI _).mono ?_;rintro e w' ⟨rfl,hw'⟩;rw [hw'];clear hw')
    go_round
    case rel => exact ⟨k + 1,by omega,by go_num,HN.out⟩
    case measure => simp [intOf];omega
   | false =>
    rw [hb] at hI
    have HZ : Hid (susB l n = false) := susB_miss hlt hb
    generalize el l k = x at *
    clear hb
    go_wp2_with (go_at_call 48;refine (hI _).mono ?_;rintro e w' ⟨rfl,hw'⟩;rw [hw'];clear hw')
    go_ret
    exact ⟨ret_bool (by rw [HZ.out]),Below.refl _ _⟩
  ·have k1 : ¬ ((k : Int) < (l.length : Int)) := by omega
   have HZ : Hid (susB l n = risB l) := susB_all (fun j hj => HA.out j (by omega))
   generalize risB l = Q at *
   go_wp2_with (go_at_call 49;refine hR.mono ?_;rintro e w2 ⟨rfl,q,hw2⟩)
   go_ret
   exact ⟨ret_bool (by rw [HZ.out]),belowN (Below.refl _ _)⟩
theorem smB_parts {v : List Int} {n : Int} (h1 : okB v = true) (h2 : (v.length : Int) = n) (h3 : ∀ k,k < v.length → el v k ≤ 12) : smB v n = true := by
 have : v.all (fun x => decide (x ≤ 12)) = true := by
  rw [List.all_eq_true]
  intro x hx
  obtain ⟨j,hj,rfl⟩ := List.mem_iff_getElem.1 hx
  have := h3 j hj
  simpa [el,hj] using this
 rw [smB,h1,this,decide_eq_true h2]
 rfl
theorem smB_not {v : List Int} {n : Int} {k : Nat} (hk : k < v.length) (h : ¬ el v k ≤ 12) : smB v n = false := by
 have : v.all (fun x => decide (x ≤ 12)) = false := by
  rw [List.all_eq_false]
  exact ⟨el v k,el_mem hk,by simpa using h⟩
 rw [smB,this]
 simp
set_option maxRecDepth 100000 in
set_option maxHeartbeats 1600000 in
theorem trmS16_any (a : Option Addr) (cap : Nat) (l : List Int) (n : Int) (w : World) (hv : Vec w a l.length l) (hm : l.length ≤ maxLen) :
  Calls Tryz.prog 109 #[.slice a l.length cap,.int .i64 n] w fun e w' => e = .returned (.bool (smB l n)) ∧ w' = w := by
 have hO := specOk_any a l.length cap l w hv hm
 have HV : Hid (Vec w a l.length l) := hv
 unfold maxLen at hm
 clear hv
 cases hok : okB l with
 | false =>
  have HZ : Hid (smB l n = false) := by rw [Hid,smB,hok];rfl
  rw [hok] at hO
  clear hok
  go_enter Tryz.func109,Tryz.ntmps109
  go_wp2_with (go_at_call 107;refine hO.mono ?_;rintro e w' ⟨rfl,hw'⟩;rw [hw'];clear hw')
  go_ret
  exact ⟨ret_bool (by rw [HZ.out]),rfl⟩
 | true =>
  rw [hok] at hO
  by_cases hl : (l.length : Int) = n
  ·have e1 : ((l.length : Int) != n) = false := by simpa using hl
   have HP : Hid ((∀ k,k < l.length → el l k ≤ 12) → smB l n = true) := fun h => smB_parts hok hl h
   clear hok hl
   go_enter Tryz.func109,Tryz.ntmps109
   go_wp2_with (go_at_call 107;refine hO.mono ?_;rintro e w' ⟨rfl,hw'⟩;rw [hw'];clear hw')
   go_loop [5] (fun i => ∃ k : Nat,k ≤ l.length ∧ i = .int .i64 k ∧ ∀ j,j < k → el l j ≤ 12) (fun i => l.length - (intOf i).toNat)
   case atStart => exact ⟨0,Nat.zero_le _,rfl,fun j hj => by omega⟩
   case round =>
    obtain ⟨k,hk,rfl,hall⟩ := hrel
    have HA : Hid (∀ j,j < k → el l j ≤ 12) := hall
    clear hall
    by_cases hlt : k < l.length
    ·rcases HV.out.2.2 with h0 | ⟨b,off,rfl,hc⟩
     ·omega
     have hck := hc k hlt
     have k1 : (k : Int) < (l.length : Int) := by omega
     have k0 : (0 : Int) ≤ (k : Int) := by omega
     clear hc
     by_cases h12 : el l k ≤ 12
     ·have g12 : ¬ (12 < el l k) := by omega
      have HN : Hid (∀ j,j < k + 1 → el l j ≤ 12) := fun j hj => by
       rcases Nat.lt_succ_iff_lt_or_eq.1 hj with h1 | h1
       ·exact HA.out j h1
       ·rw [h1];exact h12
      generalize el l k = x at *
      clear h12
      go_wp2
      go_round
      case rel => exact ⟨k + 1,by omega,by go_num,HN.out⟩
      case measure => simp [intOf];omega
     ·have g12 : 12 < el l k := by omega
      have HZ : Hid (smB l n = false) := smB_not hlt h12
      generalize el l k = x at *
      clear h12
      go_wp2
      go_ret
      exact ⟨ret_bool (by rw [HZ.out]),rfl⟩
    ·have k1 : ¬ ((k : Int) < (l.length : Int)) := by omega
     have HZ : Hid (smB l n = true) := HP.out (fun j hj => HA.out j (by omega))
     go_wp2
     go_ret
     exact ⟨ret_bool (by rw [HZ.out]),rfl⟩
  ·have e1 : ((l.length : Int) != n) = true := by simpa using hl
   have HZ : Hid (smB l n = false) := by rw [Hid,smB,decide_eq_false hl];simp
   clear hok hl
   go_enter Tryz.func109,Tryz.ntmps109
   go_wp2_with (go_at_call 107;refine hO.mono ?_;rintro e w' ⟨rfl,hw'⟩;rw [hw'];clear hw')
   go_ret
   exact ⟨ret_bool (by rw [HZ.out]),rfl⟩
end Go.Proofs.YtidnfdobljihoaaGreat
namespace Go.Proofs.YtidnfdobljihoaaGreat
set_option linter.unusedVariables false
set_option linter.unusedSimpArgs false
open Go.RowKit Go.Sort
theorem okRw_n {r : Rw} {n : Int} (h : inB n 1 5 = false) : okRw r n = false := by rw [okRw,h];rfl
theorem okRw_v {r : Rw} {n : Int} (h : inB r.ver 0 1000000 = false) : okRw r n = false := by rw [okRw,h];simp
theorem okRw_t {r : Rw} {n : Int} (h : ¬ r.txt.length ≤ 12) : okRw r n = false := by rw [okRw,decide_eq_false h];simp
theorem okRw_g {r : Rw} {n : Int} (h : smB r.got n = false) : okRw r n = false := by rw [okRw,h];simp
theorem okRw_s {r : Rw} {n : Int} (h : susB r.sus n = false) : okRw r n = false := by rw [okRw,h];simp
theorem okRw_x {r : Rw} {n : Int} {k : Nat} (hk : k < r.txt.length) (h : ¬ (r.txt.getD k []).length ≤ 20) : okRw r n = false := by
 have : r.txt.all (fun t => decide (t.length ≤ 20)) = false := by
  rw [List.all_eq_false]
  refine ⟨r.txt[k],List.getElem_mem hk, ?_⟩
  rw [List.getD_eq_getElem?_getD,List.getElem?_eq_getElem hk] at h
  simpa using h
 rw [okRw,this]
 simp
def endB (r : Rw) (n : Int) : Bool := if r.rdy then r.wed && (inB r.by_ 0 (n - 1) && smB r.trm n) else decide (r.by_ = 0) && decide (r.trm = [])
theorem okRw_end {r : Rw} {n : Int} (h1 : inB n 1 5 = true) (h2 : inB r.ver 0 1000000 = true) (h3 : r.txt.length ≤ 12) (h4 : smB r.got n = true) (h5 : susB r.sus n = true) (h6 : ∀ k,k < r.txt.length → (r.txt.getD k []).length ≤ 20) : okRw r n = endB r n := by
 have : r.txt.all (fun t => decide (t.length ≤ 20)) = true := by
  rw [List.all_eq_true]
  intro t ht
  obtain ⟨j,hj,rfl⟩ := List.mem_iff_getElem.1 ht
  have := h6 j hj
  rw [List.getD_eq_getElem?_getD,List.getElem?_eq_getElem hj] at this
  simpa using this
 rw [okRw,h1,h2,decide_eq_true h3,h4,h5,this]
 rfl
attribute [local irreducible] sv
set_option maxRecDepth 100000 in
set_option maxHeartbeats 3200000 in
theorem rowS_any (A : Ra) (r : Rw) (n : Int) (w : World) (hv : RwS w A r) :
  Calls Tryz.prog 50 #[rwV A r,.int .i64 n] w fun e w' => e = .returned (.bool (okRw r n)) ∧ Below w.heap.size w w' := by
 have hB0 := oneA16 w (.cells (rwC A r) 37)
 have hx := Bx.new w 37 (rwC A r)
 have h0 := hv.below hB0
 generalize hW : w.alloc (.cells (rwC A r) 37) = W at *
 have hsz : w.heap.size < W.heap.size := hx.lt
 obtain ⟨ver,txt,got,sus,wed,rdy,by_,trm⟩ := r
 obtain ⟨ta,tc,ga,gc,sa,sc,ma,mc⟩ := A
 have hw0 : w.alloc (.cells #[.int .i64 ver,.slice ta txt.length tc,.slice ga got.length gc,.slice sa sus.length sc,.bool wed,.bool rdy,.int .i64 by_,.slice ma trm.length mc] 37) = W := hW
 obtain ⟨⟨c0,c1,c2,c3⟩,c4,c5,c6,c7⟩ := Bx.r8 hx
 have HX : Hid (Bx W w.heap.size 37 #[.int .i64 ver,.slice ta txt.length tc,.slice ga got.length gc,.slice sa sus.length sc,.bool wed,.bool rdy,.int .i64 by_,.slice ma trm.length mc]) := hx
 obtain ⟨htx,hgo,hsu,htr,mt,mg,ms,mm⟩ := h0
 simp only at htx hgo hsu htr mt mg ms mm c0 c1 c2 c3 c4 c5 c6 c7
 have HB0 : Hid (Below w.heap.size w W) := hB0
 unfold rwV rwC
 clear hv hx hW hB0
 have hVo := specOk_any ga got.length gc got W hgo mg
 simp only
 cases e1 : inB n 1 5 with
 | false =>
  have HZ : Hid (okRw ⟨ver,txt,got,sus,wed,rdy,by_,trm⟩ n = false) := okRw_n e1
  go_enter Tryz.func50,Tryz.ntmps50
  go_wp2_with (first | (go_at_call 48;refine (l1In_any _ _ _ _).mono ?_;rintro e w' ⟨rfl,hw'⟩;rw [hw'];clear hw'))
  go_ret
  exact ⟨ret_bool (by rw [HZ.out]),HB0.out⟩
 | true =>
 have hn5 := inB7.1 e1
 have hSu := susS_any sa sc sus n W hsu ms (by omega)
 have HN1 : Hid (inB n 1 5 = true) := e1
 cases e2 : inB ver 0 1000000 with
 | false =>
  have HZ : Hid (okRw ⟨ver,txt,got,sus,wed,rdy,by_,trm⟩ n = false) := okRw_v e2
  go_enter Tryz.func50,Tryz.ntmps50
  go_wp2_with (first | (go_at_call 48;refine (l1In_any _ _ _ _).mono ?_;rintro e w' ⟨rfl,hw'⟩;rw [hw'];clear hw'))
  go_ret
  exact ⟨ret_bool (by rw [HZ.out]),HB0.out⟩
 | true =>
 have HN2 : Hid (inB ver 0 1000000 = true) := e2
 by_cases h12 : txt.length ≤ 12
 rotate_left
 ·have g12 : (12 : Int) < (txt.length : Int) := by omega
  have HZ : Hid (okRw ⟨ver,txt,got,sus,wed,rdy,by_,trm⟩ n = false) := okRw_t h12
  go_enter Tryz.func50,Tryz.ntmps50
  go_wp2_with (first | (go_at_call 48;refine (l1In_any _ _ _ _).mono ?_;rintro e w' ⟨rfl,hw'⟩;rw [hw'];clear hw'))
  go_ret
  exact ⟨ret_bool (by rw [HZ.out]),HB0.out⟩
 have g12 : ¬ ((12 : Int) < (txt.length : Int)) := by omega
 cases e4 : okB got with
 | false =>
  rw [e4] at hVo
  have HZ : Hid (okRw ⟨ver,txt,got,sus,wed,rdy,by_,trm⟩ n = false) := okRw_g (by simp [smB,e4])
  go_enter Tryz.func50,Tryz.ntmps50
  go_wp2_with (first | (go_at_call 48;refine (l1In_any _ _ _ _).mono ?_;rintro e w' ⟨rfl,hw'⟩;rw [hw'];clear hw') | (go_at_call 107;refine hVo.mono ?_;rintro e w' ⟨rfl,hw'⟩;rw [hw'];clear hw'))
  go_ret
  exact ⟨ret_bool (by rw [HZ.out]),HB0.out⟩
 | true =>
 rw [e4] at hVo
 by_cases h5 : (got.length : Int) = n
 rotate_left
 ·have g5 : ((got.length : Int) != n) = true := by simpa using h5
  have HZ : Hid (okRw ⟨ver,txt,got,sus,wed,rdy,by_,trm⟩ n = false) := okRw_g (by simp [smB,h5])
  go_enter Tryz.func50,Tryz.ntmps50
  go_wp2_with (first | (go_at_call 48;refine (l1In_any _ _ _ _).mono ?_;rintro e w' ⟨rfl,hw'⟩;rw [hw'];clear hw') | (go_at_call 107;refine hVo.mono ?_;rintro e w' ⟨rfl,hw'⟩;rw [hw'];clear hw'))
  go_ret
  exact ⟨ret_bool (by rw [HZ.out]),HB0.out⟩
 have g5 : ((got.length : Int) != n) = false := by simpa using h5
 have HSM : Hid ((∀ k,k < got.length → el got k ≤ 12) → smB got n = true) := fun h => smB_parts e4 h5 h
 have HG5 : Hid ((got.length : Int) = n) := h5
 clear h5 e4
 cases e6 : susB sus n with
 | false =>
  rw [e6] at hSu
  have HZ : Hid (okRw ⟨ver,txt,got,sus,wed,rdy,by_,trm⟩ n = false) := okRw_s e6
  go_enter Tryz.func50,Tryz.ntmps50
  go_wp2_with (first | (go_at_call 48;refine (l1In_any _ _ _ _).mono ?_;rintro e w' ⟨rfl,hw'⟩;rw [hw'];clear hw') | (go_at_call 107;refine hVo.mono ?_;rintro e w' ⟨rfl,hw'⟩;rw [hw'];clear hw') | (go_at_call 108;refine hSu.mono ?_;rintro e w2 ⟨rfl,hb2⟩;obtain ⟨⟨d0,d1,d2,d3⟩,d4,d5,d6,d7⟩ := Bx.r8 (HX.out.below hb2)))
  go_ret
  exact ⟨ret_bool (by rw [HZ.out]),HB0.out.trans (hb2.mono HB0.out.size)⟩
 | true =>
 rw [e6] at hSu
 have HN6 : Hid (susB sus n = true) := e6
 clear e6
 have HTX : Hid (TxS W ta txt) := htx
 have HGO : Hid (Vec W ga got.length got) := hgo
 have HTR : Hid (Vec W ma trm.length trm) := htr
 clear htx hgo hsu htr
 go_enter Tryz.func50,Tryz.ntmps50
 go_wp2_with (first | (go_at_call 48;refine (l1In_any _ _ _ _).mono ?_;rintro e w' ⟨rfl,hw'⟩;rw [hw'];clear hw') | (go_at_call 107;refine hVo.mono ?_;rintro e w' ⟨rfl,hw'⟩;rw [hw'];clear hw') | (go_at_call 108;refine hSu.mono ?_;rintro e w2 ⟨rfl,hb2⟩;obtain ⟨⟨d0,d1,d2,d3⟩,d4,d5,d6,d7⟩ := Bx.r8 (HX.out.below hb2)))
 have HB2 : Hid (Below w.heap.size w w2) := HB0.out.trans (hb2.mono HB0.out.size)
 have HT2 : Hid (TxS w2 ta txt) := HTX.out.below hb2
 have HG2 : Hid (Vec w2 ga got.length got) := HGO.out.below hb2 (Nat.le_refl _)
 have hTr := trmS16_any ma mc trm n w2 (HTR.out.below hb2 (Nat.le_refl _)) mm
 unfold maxLen at mt mg ms mm
 clear hVo hSu hb2 c0 c1 c2 c3 c4 c5 c6 c7 hw0 g5 e1 e2 HTX HGO HTR
 go_loop [5] (fun i => ∃ k : Nat,k ≤ txt.length ∧ i = .int .i64 k ∧ ∀ j,j < k → (txt.getD j []).length ≤ 20) (fun i => txt.length - (intOf i).toNat)
 case atStart => exact ⟨0,Nat.zero_le _,rfl,fun j hj => by omega⟩
 case round =>
  obtain ⟨k,hk,rfl,hall⟩ := hrel
  have HA : Hid (∀ j,j < k → (txt.getD j []).length ≤ 20) := hall
  clear hall
  by_cases hlt : k < txt.length
  ·rcases HT2.out with h0 | ⟨b,off,rfl,hc⟩
   ·omega
   have hck := hc k hlt
   have k1 : (k : Int) < (txt.length : Int) := by omega
   have k0 : (0 : Int) ≤ (k : Int) := by omega
   clear hc
   have hszt := sv_size (txt.getD k [])
   by_cases h20 : (txt.getD k []).length ≤ 20
   ·have g20 : ¬ ((20 : Int) < ((txt.getD k []).length : Int)) := by omega
    have HN : Hid (∀ j,j < k + 1 → (txt.getD j []).length ≤ 20) := fun j hj => by
     rcases Nat.lt_succ_iff_lt_or_eq.1 hj with h1 | h1
     ·exact HA.out j h1
     ·rw [h1];exact h20
    generalize txt.getD k [] = t at *
    clear h20
    go_wp2
    go_round
    case rel => exact ⟨k + 1,by omega,by go_num,HN.out⟩
    case measure => simp [intOf];omega
   ·have g20 : (20 : Int) < ((txt.getD k []).length : Int) := by omega
    have HZ : Hid (okRw ⟨ver,txt,got,sus,wed,rdy,by_,trm⟩ n = false) := okRw_x (k := k) hlt h20
    generalize txt.getD k [] = t at *
    clear h20
    go_wp2
    go_ret
    exact ⟨ret_bool (by rw [HZ.out]),HB2.out⟩
  ·have k1 : ¬ ((k : Int) < (txt.length : Int)) := by omega
   have HAll : Hid (∀ j,j < txt.length → (txt.getD j []).length ≤ 20) := fun j hj => HA.out j (by omega)
   clear HA HT2
   go_wp2
   go_loop [6] (fun i => ∃ m : Nat,m ≤ got.length ∧ i = .int .i64 m ∧ ∀ j,j < m → el got j ≤ 12) (fun i => got.length - (intOf i).toNat)
   case atStart => exact ⟨0,Nat.zero_le _,rfl,fun j hj => by omega⟩
   case round =>
    obtain ⟨m,hm,rfl,hall⟩ := hrel
    have HA : Hid (∀ j,j < m → el got j ≤ 12) := hall
    clear hall
    by_cases hlt2 : m < got.length
    ·rcases HG2.out.2.2 with h0 | ⟨b,off,rfl,hc⟩
     ·omega
     have hck := hc m hlt2
     have k1 : (m : Int) < (got.length : Int) := by omega
     have k0 : (0 : Int) ≤ (m : Int) := by omega
     clear hc
     by_cases h12' : el got m ≤ 12
     ·have g12' : ¬ (12 < el got m) := by omega
      have HN : Hid (∀ j,j < m + 1 → el got j ≤ 12) := fun j hj => by
       rcases Nat.lt_succ_iff_lt_or_eq.1 hj with h1 | h1
       ·exact HA.out j h1
       ·rw [h1];exact h12'
      generalize el got m = x at *
      clear h12'
      go_wp2
      go_round
      case rel => exact ⟨m + 1,by omega,by go_num,HN.out⟩
      case measure => simp [intOf];omega
     ·have g12' : 12 < el got m := by omega
      have HZ : Hid (okRw ⟨ver,txt,got,sus,wed,rdy,by_,trm⟩ n = false) := okRw_g (smB_not (v := got) hlt2 h12')
      generalize el got m = x at *
      clear h12'
      go_wp2
      go_ret
      exact ⟨ret_bool (by rw [HZ.out]),HB2.out⟩
    ·have k1 : ¬ ((m : Int) < (got.length : Int)) := by omega
     have HE : Hid (okRw ⟨ver,txt,got,sus,wed,rdy,by_,trm⟩ n = endB ⟨ver,txt,got,sus,wed,rdy,by_,trm⟩ n) := okRw_end HN1.out HN2.out h12 (HSM.out (fun j hj => HA.out j (by omega))) HN6.out HAll.out
     clear HA HG2 HAll
     have hwn : wrap64 (n - 1) = n - 1 := by unfold wrap64;omega
     cases rdy with
     | true =>
      cases wed with
      | false =>
       have HZ : Hid (okRw ⟨ver,txt,got,sus,false,true,by_,trm⟩ n = false) := by rw [Hid,HE.out];rfl
       go_wp2
       go_ret
       exact ⟨ret_bool (by rw [HZ.out]),HB2.out⟩
      | true =>
       cases e7 : inB by_ 0 (n - 1) with
       | false =>
        have HZ : Hid (okRw ⟨ver,txt,got,sus,true,true,by_,trm⟩ n = false) := by rw [Hid,HE.out,endB];simp [e7]
        go_wp2_with (first | (go_at_call 48;refine (l1In_any _ _ _ _).mono ?_;rintro e w' ⟨rfl,hw'⟩;rw [hw'];clear hw'))
        go_ret
        exact ⟨ret_bool (by rw [HZ.out]),HB2.out⟩
       | true =>
        have HZ : Hid (okRw ⟨ver,txt,got,sus,true,true,by_,trm⟩ n = smB trm n) := by rw [Hid,HE.out,endB];simp [e7]
        generalize smB trm n = Q at *
        go_wp2_with (first | (go_at_call 48;refine (l1In_any _ _ _ _).mono ?_;rintro e w' ⟨rfl,hw'⟩;rw [hw'];clear hw') | (go_at_call 109;refine hTr.mono ?_;rintro e w' ⟨rfl,hw'⟩;rw [hw'];clear hw'))
        go_ret
        exact ⟨ret_bool (by rw [HZ.out]),HB2.out⟩
     | false =>
      have HZ : Hid (okRw ⟨ver,txt,got,sus,wed,false,by_,trm⟩ n = (decide (by_ = 0) && decide (trm = []))) := by rw [Hid,HE.out];rfl
      by_cases h7 : by_ = 0
      ·have g7 : (by_ == 0) = true := by simpa using h7
       have HZ2 : Hid (okRw ⟨ver,txt,got,sus,wed,false,by_,trm⟩ n = decide (trm = [])) := by rw [Hid,HZ.out,decide_eq_true h7];rfl
       by_cases h8 : trm = []
       ·have g8 : ((trm.length : Int) == 0) = true := by rw [h8];rfl
        have HZ3 : Hid (okRw ⟨ver,txt,got,sus,wed,false,by_,trm⟩ n = true) := by rw [Hid,HZ2.out,decide_eq_true h8]
        clear h7 h8
        go_wp2
        go_ret
        exact ⟨ret_bool (by rw [HZ3.out]),HB2.out⟩
       ·have g8 : ((trm.length : Int) == 0) = false := by
         have := List.length_pos_iff.2 h8
         simp;omega
        have HZ3 : Hid (okRw ⟨ver,txt,got,sus,wed,false,by_,trm⟩ n = false) := by rw [Hid,HZ2.out,decide_eq_false h8]
        clear h7 h8
        go_wp2
        go_ret
        exact ⟨ret_bool (by rw [HZ3.out]),HB2.out⟩
      ·have g7 : (by_ == 0) = false := by simpa using h7
       have HZ3 : Hid (okRw ⟨ver,txt,got,sus,wed,false,by_,trm⟩ n = false) := by rw [Hid,HZ.out,decide_eq_false h7];rfl
       clear h7
       go_wp2
       go_ret
       exact ⟨ret_bool (by rw [HZ3.out]),HB2.out⟩
end Go.Proofs.YtidnfdobljihoaaGreat
namespace Go.Proofs.YtidnfdobljihoaaGreat
set_option linter.unusedVariables false
set_option linter.unusedSimpArgs false
open Go.RowKit Go.Sort
theorem all_miss16 {l o : List Int} {k : Nat} (hk : k < o.length) (h : el o k ∉ l) : o.all (fun x => decide (x ∈ l)) = false := by
 rw [List.all_eq_false]
 exact ⟨el o k,el_mem hk,by simpa using h⟩
theorem all_hit16 {l o : List Int} (h : ∀ k,k < o.length → el o k ∈ l) : o.all (fun x => decide (x ∈ l)) = true := by
 rw [List.all_eq_true]
 intro x hx
 obtain ⟨j,hj,rfl⟩ := List.mem_iff_getElem.1 hx
 have := h j hj
 simpa [el,hj] using this
set_option maxRecDepth 100000 in
set_option maxHeartbeats 1600000 in
theorem allS_any (a b : Option Addr) (c d : Nat) (l o : List Int) (w : World) (hv : Vec w a l.length l) (hu : Vec w b o.length o) (hm : l.length ≤ maxLen) (hm2 : o.length ≤ maxLen) :
  Calls Tryz.prog 152 #[.slice a l.length c,.slice b o.length d] w fun e w' => e = .returned (.bool (o.all (fun x => decide (x ∈ l)))) ∧ w' = w := by
 have hH := fun x => l1Has_any a l.length c x l w hv hm
 have HU : Hid (Vec w b o.length o) := hu
 unfold maxLen at hm hm2
 clear hu hv
 go_enter Tryz.func152,Tryz.ntmps152
 go_wp2
 go_loop [5] (fun i => ∃ k : Nat,k ≤ o.length ∧ i = .int .i64 k ∧ ∀ j,j < k → el o j ∈ l) (fun i => o.length - (intOf i).toNat)
 case atStart => exact ⟨0,Nat.zero_le _,rfl,fun j hj => by omega⟩
 case round =>
  obtain ⟨k,hk,rfl,hall⟩ := hrel
  have HA : Hid (∀ j,j < k → el o j ∈ l) := hall
  clear hall
  by_cases hlt : k < o.length
  ·rcases HU.out.2.2 with h0 | ⟨b',off,rfl,hc⟩
   ·omega
   have hck := hc k hlt
   have k1 : (k : Int) < (o.length : Int) := by omega
   have k0 : (0 : Int) ≤ (k : Int) := by omega
   have hI := hH (el o k)
   clear hc hH
   by_cases hb : el o k ∈ l
   ·rw [decide_eq_true hb] at hI
    have HN : Hid (∀ j,j < k + 1 → el o j ∈ l) := fun j hj => by
     rcases Nat.lt_succ_iff_lt_or_eq.1 hj with h1 | h1
     ·exact HA.out j h1
     ·rw [h1];exact hb
    generalize el o k = x at *
    clear hb
    go_wp2_with (go_at_call 51;refine hI.mono ?_;rintro e w' ⟨rfl,hw'⟩;rw [hw'];clear hw')
    go_round
    case rel => exact ⟨k + 1,by omega,by go_num,HN.out⟩
    case measure => simp [intOf];omega
   ·rw [decide_eq_false hb] at hI
    have HZ : Hid (o.all (fun x => decide (x ∈ l)) = false) := all_miss16 hlt hb
    generalize el o k = x at *
    clear hb
    go_wp2_with (go_at_call 51;refine hI.mono ?_;rintro e w' ⟨rfl,hw'⟩;rw [hw'];clear hw')
    go_ret
    exact ⟨ret_bool (by rw [HZ.out]),rfl⟩
  ·have k1 : ¬ ((k : Int) < (o.length : Int)) := by omega
   have HZ : Hid (o.all (fun x => decide (x ∈ l)) = true) := all_hit16 (fun j hj => HA.out j (by omega))
   go_wp2
   go_ret
   exact ⟨ret_bool (by rw [HZ.out]),rfl⟩
attribute [local irreducible] sv
end Go.Proofs.YtidnfdobljihoaaGreat
namespace Go.Proofs.YtidnfdobljihoaaGreat
set_option linter.unusedVariables false
set_option linter.unusedSimpArgs false
open Go.RowKit Go.Sort
def rwCels (r : Rw) : List Cel := [scl r.txt,icl r.got,icl r.sus,icl r.trm]
def rwVals (A : Ra) (r : Rw) : List Value := [.slice A.ta r.txt.length A.tc,.slice A.ga r.got.length A.gc,.slice A.sa r.sus.length A.sc,.slice A.ma r.trm.length A.mc]
def AnsRw (w w' : World) (e : Ending) (r : Rw) : Prop := ∃ A : Ra,e = .returned (rwV A r) ∧ NewL w w' (rwCels r) (rwVals A r)
theorem owL4 {w : World} {c1 c2 c3 c4 : Cel} {v1 v2 v3 v4 : Value} {f1 f2 f3 f4 : Fp} (h1 : Cel.ow w c1 v1 f1) (h2 : Cel.ow w c2 v2 f2) (h3 : Cel.ow w c3 v3 f3) (h4 : Cel.ow w c4 v4 f4) (d1 : ∀ b,f1 b → ¬ (f2 b ∨ f3 b ∨ f4 b)) (d2 : ∀ b,f2 b → ¬ (f3 b ∨ f4 b)) (d3 : ∀ b,f3 b → ¬ f4 b) :
  owL w [c1,c2,c3,c4] [v1,v2,v3,v4] (fun b => f1 b ∨ f2 b ∨ f3 b ∨ f4 b) :=
 ⟨v1,_,f1,fun b => f2 b ∨ f3 b ∨ f4 b,rfl,h1,⟨v2,_,f2,fun b => f3 b ∨ f4 b,rfl,h2,⟨v3,_,f3,f4,rfl,h3,⟨v4,[],f4,fun _ => False,rfl,h4,⟨rfl,fun _ h => h⟩,fun _ _ h => h,fun b => by simp⟩,d3,fun b => Iff.rfl⟩,d2,fun b => Iff.rfl⟩,d1,fun b => Iff.rfl⟩
theorem ow_none_s (w : World) : Cel.ow w (scl []) (.slice none 0 0) (fun _ => False) := ow_scl.2 ⟨none,0,none,rfl,OSo.nil _ _ plainN,fun b => by simp⟩
theorem ow_none_i (w : World) : Cel.ow w (icl []) (.slice none 0 0) (fun _ => False) := ow_icl.2 ⟨none,0,none,rfl,OSo.nil _ _ plainN,fun b => by simp⟩
theorem ans_zero {w w' : World} (hb : Below w.heap.size w w') : NewL w w' (rwCels zeroRw) (rwVals ⟨none,0,none,0,none,0,none,0⟩ zeroRw) :=
 ⟨_,owL4 (ow_none_s w') (ow_none_i w') (ow_none_i w') (ow_none_i w') (fun b h => absurd h id) (fun b h => absurd h id) (fun b h => absurd h id),fun b h => by rcases h with h | h | h | h <;> exact absurd h id,hb⟩
theorem made_oi (w : World) (n : Nat) (hn : n ≤ maxLen) : OI (w.alloc (.cells (madeCells #[.int .i64 0] n) 2)) w.heap.size 0 n n (List.replicate n 0) := by
 have h := osl_made w #[.int .i64 0] 1 n 2 rfl (by omega) hn
 rw [Nat.mul_one] at h
 have e : (List.replicate n (#[Value.int .i64 0] : Array Value).toList).flatten = (List.replicate n (0 : Int)).map (Value.int .i64) := by
  rw [List.map_replicate]
  clear h hn
  induction n with
  | zero => rfl
  | succ n ih => rw [List.replicate_succ,List.replicate_succ,List.flatten_cons,ih];rfl
 rw [e] at h
 exact h
theorem wrt8 (w : World) (g : Nat) {a b c d e f h i : Value} : Wrt (fun x => x = g) w ((((((((w.setCell ⟨g,0,none⟩ a).setCell ⟨g,1,none⟩ b).setCell ⟨g,2,none⟩ c).setCell ⟨g,3,none⟩ d).setCell ⟨g,4,none⟩ e).setCell ⟨g,5,none⟩ f).setCell ⟨g,6,none⟩ h).setCell ⟨g,7,none⟩ i) :=
 (((((((Wrt.set w g 0 a).trans (Wrt.set _ g 1 b) (fun _ _ h => h)).trans (Wrt.set _ g 2 c) (fun _ _ h => h)).trans (Wrt.set _ g 3 d) (fun _ _ h => h)).trans (Wrt.set _ g 4 e) (fun _ _ h => h)).trans (Wrt.set _ g 5 f) (fun _ _ h => h)).trans (Wrt.set _ g 6 h) (fun _ _ h => h)).trans (Wrt.set _ g 7 i) (fun _ _ h => h)
theorem Bx.f8 {w : World} {B : Nat} {T : TypeId} {cs : Array Value} (h : Bx w B T cs) : (w.frozen? ⟨B,0,none⟩ = false ∧ w.frozen? ⟨B,1,none⟩ = false ∧ w.frozen? ⟨B,2,none⟩ = false ∧ w.frozen? ⟨B,3,none⟩ = false) ∧ w.frozen? ⟨B,4,none⟩ = false ∧ w.frozen? ⟨B,5,none⟩ = false ∧ w.frozen? ⟨B,6,none⟩ = false ∧ w.frozen? ⟨B,7,none⟩ = false :=
 ⟨⟨h.f 0,h.f 1,h.f 2,h.f 3⟩,h.f 4,h.f 5,h.f 6,h.f 7⟩
set_option maxRecDepth 100000 in
set_option maxHeartbeats 3200000 in
theorem nrwS_any (n : Int) (w : World) :
  Calls Tryz.prog 127 #[.int .i64 n] w fun e w' => AnsRw w w' e (newRw n) := by
 have hb0 := oneA16 w (.cells #[.int .i64 0,.slice none 0 0,.slice none 0 0,.slice none 0 0,.bool false,.bool false,.int .i64 0,.slice none 0 0] 37)
 have hx := Bx.new w 37 #[.int .i64 0,.slice none 0 0,.slice none 0 0,.slice none 0 0,.bool false,.bool false,.int .i64 0,.slice none 0 0]
 have HB0 : Hid (Below w.heap.size w (w.alloc (.cells #[.int .i64 0,.slice none 0 0,.slice none 0 0,.slice none 0 0,.bool false,.bool false,.int .i64 0,.slice none 0 0] 37))) := hb0
 generalize hW : w.alloc (.cells #[.int .i64 0,.slice none 0 0,.slice none 0 0,.slice none 0 0,.bool false,.bool false,.int .i64 0,.slice none 0 0] 37) = W at *
 have hlt := hx.lt
 cases e1 : inB n 1 5 with
 | false =>
  have HZ : Hid (newRw n = zeroRw) := by rw [Hid,newRw,e1];rfl
  obtain ⟨⟨c0,c1,c2,c3⟩,c4,c5,c6,c7⟩ := hx.r8
  obtain ⟨⟨f0,f1,f2,f3⟩,f4,f5,f6,f7⟩ := hx.f8
  clear hx hb0
  go_enter Tryz.func127,Tryz.ntmps127
  go_wp2_with (go_at_call 48;refine (l1In_any _ _ _ _).mono ?_;rintro e w' ⟨rfl,hw'⟩;rw [hw'];clear hw')
  refine bodyPost_ret (v := rwV ⟨none,0,none,0,none,0,none,0⟩ zeroRw) (by simp [results,Tryz.results127,go_sem,rwV,rwC,zeroRw, *]) rfl ?_
  rw [HZ.out]
  exact ⟨_,rfl,ans_zero ((wrt8 W w.heap.size).below HB0.out HB0.out.size (fun b h => by rw [h];exact Nat.le_refl _))⟩
 | true =>
  have hn := inB7.1 e1
  obtain ⟨N,rfl⟩ : ∃ N : Nat,n = (N : Int) := ⟨n.toNat,by omega⟩
  have HZ : Hid (newRw (N : Int) = ⟨0,[],List.replicate N 0,[],false,false,0,[]⟩) := by rw [Hid,newRw,e1];simp
  have hmk := run_make_row' (P := Tryz.prog) 25 2 (.int .i64 0) 8 Tryz.underlying25 Tryz.info2 rfl .i64 .i64 N (by omega) (by omega)
  have hM := made_oi (w.alloc (.cells #[.int .i64 0,.slice none 0 0,.slice (some ⟨w.heap.size + 1,0,none⟩) N N,.slice none 0 0,.bool false,.bool false,.int .i64 0,.slice none 0 0] 37)) N (by unfold maxLen;omega)
  have hbM : Below w.heap.size w ((w.alloc (.cells #[.int .i64 0,.slice none 0 0,.slice (some ⟨w.heap.size + 1,0,none⟩) N N,.slice none 0 0,.bool false,.bool false,.int .i64 0,.slice none 0 0] 37)).alloc (.cells (madeCells #[.int .i64 0] N) 2)) := (oneA16 w _).trans ((oneA16 _ _).mono (oneA16 w _).size)
  rw [World.size_alloc] at hM
  have HA : Hid (NewL w ((w.alloc (.cells #[.int .i64 0,.slice none 0 0,.slice (some ⟨w.heap.size + 1,0,none⟩) N N,.slice none 0 0,.bool false,.bool false,.int .i64 0,.slice none 0 0] 37)).alloc (.cells (madeCells #[.int .i64 0] N) 2)) (rwCels ⟨0,[],List.replicate N 0,[],false,false,0,[]⟩) (rwVals ⟨none,0,some ⟨w.heap.size + 1,0,none⟩,N,none,0,none,0⟩ ⟨0,[],List.replicate N 0,[],false,false,0,[]⟩)) := by
   refine ⟨_,owL4 (ow_none_s _) (f2 := fun b => b = w.heap.size + 1) ?_ (ow_none_i _) (ow_none_i _) (fun b h => absurd h id) (fun b _ h => by rcases h with h | h <;> exact absurd h id) (fun b h => absurd h id),fun b h => ?_,hbM⟩
   ·refine ow_icl.2 ⟨_,N,some (w.heap.size + 1),rfl,OSo.of ?_,fun b => by simp [eq_comm]⟩
    have e : (List.replicate N (0 : Int)).length = N := List.length_replicate
    simp only [e]
    exact hM
   ·rcases h with h | h | h | h
    ·exact absurd h id
    ·rw [h];omega
    ·exact absurd h id
    ·exact absurd h id
  clear hx hb0 hM hbM hW hlt HB0
  go_enter Tryz.func127,Tryz.ntmps127
  go_wp2_with (go_at_call 48;refine (l1In_any _ _ _ _).mono ?_;rintro e w' ⟨rfl,hw'⟩;rw [hw'];clear hw')
  refine bodyPost_ret (v := rwV ⟨none,0,some ⟨w.heap.size + 1,0,none⟩,N,none,0,none,0⟩ ⟨0,[],List.replicate N 0,[],false,false,0,[]⟩) (by simp [results,Tryz.results127,go_sem,rwV,rwC]) rfl ?_
  rw [HZ.out]
  exact ⟨_,rfl,HA.out⟩
end Go.Proofs.YtidnfdobljihoaaGreat
namespace Go.Proofs.YtidnfdobljihoaaGreat
set_option linter.unusedVariables false
set_option linter.unusedSimpArgs false
abbrev Vw := Int × List Int
def okVw (v : Vw) : Prop := (1 ≤ v.1 ∧ v.1 ≤ 1000000) ∧ (1 ≤ v.2.length ∧ v.2.length ≤ 8) ∧ v.2.Pairwise (· < ·) ∧ ∀ x ∈ v.2,0 ≤ x ∧ x ≤ 99
instance (v : Vw) : Decidable (okVw v) := by unfold okVw;infer_instance
theorem el_in {xs : List Int} {i : Nat} (h : i < xs.length) : el xs i ∈ xs := by simp [el,List.getD,h]
theorem el_of {xs : List Int} {x : Int} (h : x ∈ xs) : ∃ i,i < xs.length ∧ el xs i = x := by
 obtain ⟨i,hi,e⟩ := List.mem_iff_getElem.1 h
 exact ⟨i,hi,by simp [el,List.getD,hi,e]⟩
def cntL (m l : List Int) : Nat := (m.filter (fun x => decide (x ∈ l))).length
def mjP (v : Vw) (l : List Int) : Prop := okVw v ∧ v.2.length < 2 * cntL v.2 l
instance (v : Vw) (l : List Int) : Decidable (mjP v l) := by unfold mjP;infer_instance
def lftL (m gone : List Int) : List Int := m.filter (fun x => decide (x ∉ gone))
def putsL (m come : List Int) : List Int := come.foldl putL m
def aftP (v : Vw) (gone come : List Int) : Prop := okVw v ∧ mjP v (lftL v.2 gone) ∧ okVw (v.1 + 1,putsL (lftL v.2 gone) come)
instance (v : Vw) (gone come : List Int) : Decidable (aftP v gone come) := by unfold aftP;infer_instance
theorem putL_len (h : List Int) (n : Int) : (putL h n).length ≤ h.length + 1 := by
 induction h with
 | nil => simp [putL]
 | cons x h ih =>
  unfold putL
  split
  ·simp only [List.length_cons];omega
  ·split <;> simp only [List.length_cons] <;> omega
set_option linter.unusedVariables false
set_option linter.unusedSimpArgs false
open Go.RowKit Go.Sort
end Go.Proofs.YtidnfdobljihoaaGreat
namespace Go.Proofs.YtidnfdobljihoaaGreat
set_option linter.unusedVariables false
set_option linter.unusedSimpArgs false
open Go.RowKit Go.Sort
end Go.Proofs.YtidnfdobljihoaaGreat
namespace Go.Proofs.YtidnfdobljihoaaGreat
set_option linter.unusedVariables false
set_option linter.unusedSimpArgs false
open Go.RowKit Go.Sort
end Go.Proofs.YtidnfdobljihoaaGreat
namespace Go.Proofs.YtidnfdobljihoaaGreat
set_option linter.unusedVariables false
set_option linter.unusedSimpArgs false
open Go.RowKit Go.Sort
end Go.Proofs.YtidnfdobljihoaaGreat
namespace Go.Proofs.YtidnfdobljihoaaGreat
set_option linter.unusedVariables false
set_option linter.unusedSimpArgs false
open Go.RowKit Go.Sort
theorem VV.below {w w' : World} {a : Option Addr} {len cap : Nat} {H : List (List Int)} (h : VV w a len cap H) (hb : Below w.heap.size w w') : VV w' a len cap H :=
 ⟨h.n,h.le,h.mx,fun i hi => by
  obtain ⟨b,off,x,c,e,h1,h2,h3,h4⟩ := h.row i hi
  exact ⟨b,off,x,c,e,(hb.cell (World.block_lt_of_cell? _ _ h1)).trans h1,h2.below hb (Nat.le_refl _),h3,h4⟩⟩
theorem below_cell {w w' : World} (hb : Below w.heap.size w w') {p : Addr} {v : Value} (h : w.cell? p = some v) : w'.cell? p = some v := (hb.cell (World.block_lt_of_cell? _ _ h)).trans h
end Go.Proofs.YtidnfdobljihoaaGreat
namespace Go.Proofs.YtidnfdobljihoaaGreat
set_option linter.unusedVariables false
set_option linter.unusedSimpArgs false
open Go.RowKit Go.Sort
theorem putL_at (n : Int) : ∀ (h : List Int) (k : Nat),k ≤ h.length → (∀ t,t < k → el h t < n) → (k < h.length → ¬ el h k < n) →
  putL h n = if k < h.length ∧ el h k = n then h else h.take k ++ n :: h.drop k := by
 intro h
 induction h with
 | nil => intro k hk _ _;simp at hk;subst hk;simp [putL]
 | cons x l ih =>
  intro k hk hlt hge
  cases k with
  | zero =>
   have h0 : ¬ x < n := by simpa [el] using hge (by simp)
   unfold putL
   rw [if_neg h0]
   by_cases e : x = n
   ·rw [if_pos e,if_pos ⟨by simp,by simpa [el] using e⟩]
   ·rw [if_neg e,if_neg (by simp [el];exact e)]
    simp
  | succ k =>
   have h0 : x < n := by simpa [el] using hlt 0 (by omega)
   have hs : ∀ t,el (x :: l) (t + 1) = el l t := fun t => by simp [el]
   unfold putL
   rw [if_pos h0,ih k (by simpa using hk) (fun t ht => by rw [← hs];exact hlt (t + 1) (by omega)) (fun hk' => by rw [← hs];exact hge (by simpa using hk')),hs]
   by_cases e : k < l.length ∧ el l k = n
   ·rw [if_pos e,if_pos ⟨by simpa using e.1,e.2⟩]
   ·rw [if_neg e,if_neg (by simpa using e)]
    simp
theorem el_take {xs : List Int} {k i : Nat} (h : i < k) : el (xs.take k) i = el xs i := by simp [el,List.getElem?_take,h]
theorem el_drop {xs : List Int} {k i : Nat} : el (xs.drop k) i = el xs (k + i) := by simp [el,List.getElem?_drop]
theorem app_one {w w2 : World} {g2 o2 c2 m : Nat} {Z : List Int} (ho2 : OSl w2 1 g2 o2 (0 + m) c2 (([] : List Int).map (Value.int .i64) ++ Z.map (Value.int .i64))) (hg2 : (w.alloc (.cells #[] 2)).grownBy w2 (some w.heap.size))
  (hat2 : g2 = w.heap.size ∨ g2 = (w.alloc (.cells #[] 2)).heap.size) : OI w2 g2 o2 m c2 Z ∧ w.heap.size ≤ g2 ∧ Below w.heap.size w w2 ∧ g2 < w2.heap.size := by
 simp only [List.map_nil,List.nil_append,Nat.zero_add] at ho2
 refine ⟨ho2, ?_,below_grown6 ((Below.refl _ _).alloc (Nat.le_refl _) _) hg2 (Nat.le_refl _) (by simp),ho2.blk⟩
 rcases hat2 with h | h
 ·rw [h];exact Nat.le_refl _
 ·rw [h];simp
theorem app_more {w w3 w4 : World} {o : Obj} {g3 g4 o4 c4 m k : Nat} {T : List Int} {n : Int} (hB : Below w.heap.size w w3) (hg : w.heap.size ≤ g3) (ho : OSl w4 1 g4 o4 (k + 1) c4 (T.map (Value.int .i64) ++ [.int .i64 n])) (hg4 : (w3.alloc o).grownBy w4 (some g3))
  (hat : g4 = g3 ∨ g4 = (w3.alloc o).heap.size) : OI w4 g4 o4 (k + 1) c4 (T ++ [n]) ∧ w.heap.size ≤ g4 ∧ Below w.heap.size w w4 := by
 refine ⟨by rw [OI,List.map_append];exact ho, ?_,below_grown6 (hB.alloc hB.size _) hg4 hg (Nat.le_trans hB.size (by simp))⟩
 rcases hat with h | h
 ·rw [h];exact hg
 ·rw [h];exact Nat.le_trans hB.size (by simp)
theorem app_last {w w4 w5 : World} {g4 g5 o5 c5 m k : Nat} {T D : List Int} {n : Int} (hB : Below w.heap.size w w4) (hg : w.heap.size ≤ g4) (ho : OSl w5 1 g5 o5 (k + 1 + m) c5 ((T ++ [n]).map (Value.int .i64) ++ D.map (Value.int .i64))) (hg5 : w4.grownBy w5 (some g4))
  (hat : g5 = g4 ∨ g5 = w4.heap.size) : OI w5 g5 o5 (k + 1 + m) c5 (T ++ n :: D) ∧ w.heap.size ≤ g5 ∧ Below w.heap.size w w5 := by
 refine ⟨by rw [OI,show T ++ n :: D = (T ++ [n]) ++ D by simp,List.map_append];exact ho, ?_,below_grown6 hB hg5 hg hB.size⟩
 rcases hat with h | h
 ·rw [h];exact hg
 ·rw [h];exact hB.size
set_option maxRecDepth 100000 in
set_option maxHeartbeats 3200000 in
theorem putS_any (b off len cap : Nat) (xs : List Int) (n : Int) (w : World) (hl : xs.length = len) (hc : ∀ i,i < len → w.cell? ⟨b,off + i,none⟩ = some (.int .i64 (el xs i))) (hcap : len ≤ cap) (hm : cap ≤ maxLen) (hn : len ≤ 100000000) :
  Calls Tryz.prog 151 #[.slice (some ⟨b,off,none⟩) len cap,.int .i64 n] w fun e w' => (e = .returned (.slice (some ⟨b,off,none⟩) len cap) ∧ putL xs n = xs ∧ w' = w) ∨ AnsN w w' e (putL xs n) := by
 obtain ⟨i0,hi0,hz0,hz1,hz2⟩ := info_parts2n Tryz.info2n
 unfold maxLen at hm
 have HL : Hid (xs.length = len) := hl
 have HP : Hid (∀ k,k ≤ len → (∀ t,t < k → el xs t < n) → (k < len → ¬ el xs k < n) → putL xs n = if k < len ∧ el xs k = n then xs else xs.take k ++ n :: xs.drop k) := fun k h1 h2 h3 => by
  have := putL_at n xs k (by omega) h2 (by rw [hl];exact h3)
  rw [hl] at this
  exact this
 clear hl
 go_enter Tryz.func151,Tryz.ntmps151
 go_wp2_with fail
 go_loop [5] (fun i => ∃ k : Nat,k ≤ len ∧ i = .int .i64 k ∧ ∀ t,t < k → el xs t < n) (fun i => len - (intOf i).toNat)
 case atStart => exact ⟨0,Nat.zero_le _,rfl,fun t ht => by omega⟩
 case round =>
  obtain ⟨k,hk,rfl,hlo⟩ := hrel
  have HO : Hid (∀ t,t < k → el xs t < n) := hlo
  clear hlo
  have k0 : (0 : Int) ≤ (k : Int) := by omega
  by_cases hlt : k < len
  ·have hck := hc k hlt
   have k1 : (k : Int) < (len : Int) := by omega
   by_cases hx : el xs k < n
   ·have hd : decide (el xs k < n) = true := by simpa using hx
    have HE : Hid (∀ t,t < k + 1 → el xs t < n) := fun t ht => by
     rcases Nat.lt_succ_iff_lt_or_eq.1 ht with h1 | h1
     ·exact HO.out t h1
     ·rw [h1];exact hx
    go_wp2
    go_round
    case rel => exact ⟨k + 1,by omega,by go_num,HE.out⟩
    case measure => simp [intOf];omega
   ·have hd : decide (el xs k < n) = false := by simpa using hx
    have HQ := HP.out k hk HO.out (fun _ => by omega)
    by_cases he : el xs k = n
    ·have hb : (el xs k == n) = true := by simpa using he
     have HZ : Hid (putL xs n = xs) := by rw [Hid,HQ,if_pos ⟨hlt,he⟩]
     clear HQ he hx
     go_wp2
     go_ret
     exact .inl ⟨rfl,HZ.out,rfl⟩
    ·have hb : (el xs k == n) = false := by simpa using he
     have HZ : Hid (putL xs n = xs.take k ++ n :: xs.drop k) := by rw [Hid,HQ,if_neg (fun h => he h.2)]
     clear HQ he hx
     have k2 : (k : Int) ≤ (len : Int) := by omega
     have k3 : (k : Int) ≤ (cap : Int) := by omega
     have HTl : Hid ((xs.take k).length = k) := by rw [Hid,List.length_take,HL.out];omega
     have HDl : Hid ((xs.drop k).length = len - k) := by rw [Hid,List.length_drop,HL.out]
     have HD : Hid (∀ i,i < (xs.drop k).length → (w.alloc (.cells #[] 2)).cell? ⟨b,off + k + i,none⟩ = some (.int .i64 (el (xs.drop k) i))) := fun i hi => by
      rw [el_drop,Nat.add_assoc]
      exact below_cell ((Below.refl _ _).alloc (Nat.le_refl _) _) (hc (k + i) (by have := HDl.out;omega))
     have HT : Hid (∀ i,i < (xs.take k).length → w.cell? ⟨b,off + i,none⟩ = some (.int .i64 (el (xs.take k) i))) := fun i hi => by
      rw [el_take (by have := HTl.out;omega)]
      exact hc i (by have := HTl.out;omega)
     clear hc
     generalize xs.take k = T at *
     generalize xs.drop k = D at *
     have hTn : (T.map (Value.int .i64)).length = k * 1 := by rw [List.length_map,HTl.out];omega
     have hDn : (D.map (Value.int .i64)).length = (len - k) * 1 := by rw [List.length_map,HDl.out];omega
     go_wp2_with (first
      | (at_builtin;refine wpList_append_os _ rfl (.tmp 34) (.tmp 37) _ rfl 2 i0 _ 1 8 Tryz.underlying25 hi0 hz0 hz1 hz2 rfl (by omega) w.heap.size 0 0 0 (([] : List Int).map (Value.int .i64)) rfl (num_empty w 2) ⟨b,off + k,none⟩ (len - k) (cap - k) (D.map (Value.int .i64)) rfl hDn (num_news HD.out) (by simp [Value.oneCell']) (by unfold maxLen;omega) (by omega) ?_;intro g2 o2 c2 w2 ho2 hg2 hat2;obtain ⟨q2,r2,s2,t2⟩ := app_one ho2 hg2 hat2;clear ho2 hg2 hat2)
      | (at_builtin;refine wpList_append_os _ rfl (.tmp 39) (.tmp 42) _ rfl 2 i0 _ 1 8 Tryz.underlying25 hi0 hz0 hz1 hz2 rfl (by omega) w2.heap.size 0 0 0 (([] : List Int).map (Value.int .i64)) rfl (num_empty w2 2) ⟨b,off,none⟩ k cap (T.map (Value.int .i64)) rfl hTn (num_news (fun i hi => below_cell ((Below.refl _ _).alloc (Nat.le_refl _) _) (below_cell s2 (HT.out i hi)))) (by simp [Value.oneCell']) (by unfold maxLen;omega) (by omega) ?_;intro g3 o3 c3 w3 ho3 hg3 hat3;obtain ⟨q3,r3,s3,t3⟩ := app_one ho3 hg3 hat3;clear ho3 hg3 hat3)
      | (at_builtin;refine wpList_append_os _ rfl (.tmp 43) (.tmp 45) _ rfl 2 i0 _ 1 8 Tryz.underlying25 hi0 hz0 hz1 hz2 rfl (by omega) g3 o3 k c3 (T.map (Value.int .i64)) rfl (OSl.below q3 ((Below.refl _ _).alloc (Nat.le_refl _) _) t3) ⟨w3.heap.size,0,none⟩ 1 1 [.int .i64 n] rfl rfl (World.news_of_block (cs := #[.int .i64 n]) (t := 2) (fr := (0,0)) (heap_alloc_new _ _)) (by simp [Value.oneCell']) (by unfold maxLen;omega) (by omega) ?_;intro g4 o4 c4 w4 ho4 hg4 hat4;obtain ⟨q4,r4,s4⟩ := app_more (m := 0) s3 r3 ho4 hg4 hat4;clear ho4 hg4 hat4)
      | (at_builtin;refine wpList_append_os _ rfl (.tmp 46) (.tmp 47) _ rfl 2 i0 _ 1 8 Tryz.underlying25 hi0 hz0 hz1 hz2 rfl (by omega) g4 o4 (k + 1) c4 ((T ++ [n]).map (Value.int .i64)) rfl q4 ⟨g2,o2,none⟩ (len - k) c2 (D.map (Value.int .i64)) rfl hDn (num_news (fun i hi => OI.cellAt (show OI w4 g2 o2 (len - k) c2 D from OSl.below q2 s4 t2) (by have := HDl.out;omega))) (by simp [Value.oneCell']) (by unfold maxLen;omega) (by omega) ?_;intro g5 o5 c5 w5 ho5 hg5 hat5;obtain ⟨q5,r5,s5⟩ := app_last s4 r4 ho5 hg5 hat5;clear ho5 hg5 hat5))
     go_ret
     refine .inr ⟨g5,o5,c5, ?_,Nat.le_trans s2.size r5, ?_,s2.trans (s5.mono s2.size)⟩
     ·rw [HZ.out,List.length_append,List.length_cons,HTl.out,HDl.out]
      exact congrArg (fun z => Ending.returned (.slice (some ⟨g5,o5,none⟩) z c5)) (by omega)
     ·rw [HZ.out,List.length_append,List.length_cons,HTl.out,HDl.out,show k + (len - k + 1) = k + 1 + (len - k) by omega]
      exact q5
  ·have HQ := HP.out k hk HO.out (fun h => absurd h hlt)
   have HZ : Hid (putL xs n = xs.take k ++ n :: xs.drop k) := by rw [Hid,HQ,if_neg (fun h => hlt h.1)]
   clear HQ
   have hkl : len = k := by omega
   subst hkl
   clear hlt
   by_cases hcl : len = cap
   ·subst hcl
    have k2 : (0 : Int) ≤ (len : Int) := by omega
    have k3 : (len : Int) ≤ (len : Int) := by omega
    have HTl : Hid ((xs.take len).length = len) := by rw [Hid,List.length_take,HL.out];omega
    have HDl : Hid ((xs.drop len).length = 0) := by rw [Hid,List.length_drop,HL.out];omega
    have HD : Hid (∀ i,i < (xs.drop len).length → (w.alloc (.cells #[] 2)).cell? ⟨b,off + i,none⟩ = some (.int .i64 (el (xs.drop len) i))) := fun i hi => absurd hi (by have := HDl.out;omega)
    have HT : Hid (∀ i,i < (xs.take len).length → w.cell? ⟨b,off + i,none⟩ = some (.int .i64 (el (xs.take len) i))) := fun i hi => by
     rw [el_take (by have := HTl.out;omega)]
     exact hc i (by have := HTl.out;omega)
    clear hc
    generalize xs.take len = T at *
    generalize xs.drop len = D at *
    have hTn : (T.map (Value.int .i64)).length = len * 1 := by rw [List.length_map,HTl.out];omega
    have hDn : (D.map (Value.int .i64)).length = 0 * 1 := by rw [List.length_map,HDl.out]
    go_wp2_with (first
     | (at_builtin;refine wpList_append_os _ rfl (.tmp 34) (.tmp 37) _ rfl 2 i0 _ 1 8 Tryz.underlying25 hi0 hz0 hz1 hz2 rfl (by omega) w.heap.size 0 0 0 (([] : List Int).map (Value.int .i64)) rfl (num_empty w 2) ⟨b,off,none⟩ 0 0 (D.map (Value.int .i64)) rfl hDn (num_news HD.out) (by simp [Value.oneCell']) (by unfold maxLen;omega) (by omega) ?_;intro g2 o2 c2 w2 ho2 hg2 hat2;obtain ⟨q2,r2,s2,t2⟩ := app_one ho2 hg2 hat2;clear ho2 hg2 hat2)
     | (at_builtin;refine wpList_append_os _ rfl (.tmp 39) (.tmp 42) _ rfl 2 i0 _ 1 8 Tryz.underlying25 hi0 hz0 hz1 hz2 rfl (by omega) w2.heap.size 0 0 0 (([] : List Int).map (Value.int .i64)) rfl (num_empty w2 2) ⟨b,off,none⟩ len len (T.map (Value.int .i64)) rfl hTn (num_news (fun i hi => below_cell ((Below.refl _ _).alloc (Nat.le_refl _) _) (below_cell s2 (HT.out i hi)))) (by simp [Value.oneCell']) (by unfold maxLen;omega) (by omega) ?_;intro g3 o3 c3 w3 ho3 hg3 hat3;obtain ⟨q3,r3,s3,t3⟩ := app_one ho3 hg3 hat3;clear ho3 hg3 hat3)
     | (at_builtin;refine wpList_append_os _ rfl (.tmp 43) (.tmp 45) _ rfl 2 i0 _ 1 8 Tryz.underlying25 hi0 hz0 hz1 hz2 rfl (by omega) g3 o3 len c3 (T.map (Value.int .i64)) rfl (OSl.below q3 ((Below.refl _ _).alloc (Nat.le_refl _) _) t3) ⟨w3.heap.size,0,none⟩ 1 1 [.int .i64 n] rfl rfl (World.news_of_block (cs := #[.int .i64 n]) (t := 2) (fr := (0,0)) (heap_alloc_new _ _)) (by simp [Value.oneCell']) (by unfold maxLen;omega) (by omega) ?_;intro g4 o4 c4 w4 ho4 hg4 hat4;obtain ⟨q4,r4,s4⟩ := app_more (m := 0) s3 r3 ho4 hg4 hat4;clear ho4 hg4 hat4)
     | (at_builtin;refine wpList_append_os _ rfl (.tmp 46) (.tmp 47) _ rfl 2 i0 _ 1 8 Tryz.underlying25 hi0 hz0 hz1 hz2 rfl (by omega) g4 o4 (len + 1) c4 ((T ++ [n]).map (Value.int .i64)) rfl q4 ⟨g2,o2,none⟩ 0 c2 (D.map (Value.int .i64)) rfl hDn (num_news (fun i hi => OI.cellAt (show OI w4 g2 o2 0 c2 D from OSl.below q2 s4 t2) (by have := HDl.out;omega))) (by simp [Value.oneCell']) (by unfold maxLen;omega) (by omega) ?_;intro g5 o5 c5 w5 ho5 hg5 hat5;obtain ⟨q5,r5,s5⟩ := app_last s4 r4 ho5 hg5 hat5;clear ho5 hg5 hat5))
    go_ret
    refine .inr ⟨g5,o5,c5, ?_,Nat.le_trans s2.size r5, ?_,s2.trans (s5.mono s2.size)⟩
    ·rw [HZ.out,List.length_append,List.length_cons,HTl.out,HDl.out]
     exact congrArg (fun z => Ending.returned (.slice (some ⟨g5,o5,none⟩) z c5)) (by omega)
    ·rw [HZ.out,List.length_append,List.length_cons,HTl.out,HDl.out,show len + (0 + 1) = len + 1 + 0 by omega]
     exact q5
   ·have hcl2 : ¬ (cap = len) := fun h => hcl h.symm
    have k2 : (0 : Int) ≤ (len : Int) := by omega
    have k3 : (len : Int) ≤ (cap : Int) := by omega
    have HTl : Hid ((xs.take len).length = len) := by rw [Hid,List.length_take,HL.out];omega
    have HDl : Hid ((xs.drop len).length = 0) := by rw [Hid,List.length_drop,HL.out];omega
    have HD : Hid (∀ i,i < (xs.drop len).length → (w.alloc (.cells #[] 2)).cell? ⟨b,off + len + i,none⟩ = some (.int .i64 (el (xs.drop len) i))) := fun i hi => absurd hi (by have := HDl.out;omega)
    have HT : Hid (∀ i,i < (xs.take len).length → w.cell? ⟨b,off + i,none⟩ = some (.int .i64 (el (xs.take len) i))) := fun i hi => by
     rw [el_take (by have := HTl.out;omega)]
     exact hc i (by have := HTl.out;omega)
    clear hc
    generalize xs.take len = T at *
    generalize xs.drop len = D at *
    have hTn : (T.map (Value.int .i64)).length = len * 1 := by rw [List.length_map,HTl.out];omega
    have hDn : (D.map (Value.int .i64)).length = 0 * 1 := by rw [List.length_map,HDl.out]
    go_wp2_with (first
     | (at_builtin;refine wpList_append_os _ rfl (.tmp 34) (.tmp 37) _ rfl 2 i0 _ 1 8 Tryz.underlying25 hi0 hz0 hz1 hz2 rfl (by omega) w.heap.size 0 0 0 (([] : List Int).map (Value.int .i64)) rfl (num_empty w 2) ⟨b,off + len,none⟩ 0 (cap - len) (D.map (Value.int .i64)) rfl hDn (num_news HD.out) (by simp [Value.oneCell']) (by unfold maxLen;omega) (by omega) ?_;intro g2 o2 c2 w2 ho2 hg2 hat2;obtain ⟨q2,r2,s2,t2⟩ := app_one ho2 hg2 hat2;clear ho2 hg2 hat2)
     | (at_builtin;refine wpList_append_os _ rfl (.tmp 39) (.tmp 42) _ rfl 2 i0 _ 1 8 Tryz.underlying25 hi0 hz0 hz1 hz2 rfl (by omega) w2.heap.size 0 0 0 (([] : List Int).map (Value.int .i64)) rfl (num_empty w2 2) ⟨b,off,none⟩ len cap (T.map (Value.int .i64)) rfl hTn (num_news (fun i hi => below_cell ((Below.refl _ _).alloc (Nat.le_refl _) _) (below_cell s2 (HT.out i hi)))) (by simp [Value.oneCell']) (by unfold maxLen;omega) (by omega) ?_;intro g3 o3 c3 w3 ho3 hg3 hat3;obtain ⟨q3,r3,s3,t3⟩ := app_one ho3 hg3 hat3;clear ho3 hg3 hat3)
     | (at_builtin;refine wpList_append_os _ rfl (.tmp 43) (.tmp 45) _ rfl 2 i0 _ 1 8 Tryz.underlying25 hi0 hz0 hz1 hz2 rfl (by omega) g3 o3 len c3 (T.map (Value.int .i64)) rfl (OSl.below q3 ((Below.refl _ _).alloc (Nat.le_refl _) _) t3) ⟨w3.heap.size,0,none⟩ 1 1 [.int .i64 n] rfl rfl (World.news_of_block (cs := #[.int .i64 n]) (t := 2) (fr := (0,0)) (heap_alloc_new _ _)) (by simp [Value.oneCell']) (by unfold maxLen;omega) (by omega) ?_;intro g4 o4 c4 w4 ho4 hg4 hat4;obtain ⟨q4,r4,s4⟩ := app_more (m := 0) s3 r3 ho4 hg4 hat4;clear ho4 hg4 hat4)
     | (at_builtin;refine wpList_append_os _ rfl (.tmp 46) (.tmp 47) _ rfl 2 i0 _ 1 8 Tryz.underlying25 hi0 hz0 hz1 hz2 rfl (by omega) g4 o4 (len + 1) c4 ((T ++ [n]).map (Value.int .i64)) rfl q4 ⟨g2,o2,none⟩ 0 c2 (D.map (Value.int .i64)) rfl hDn (num_news (fun i hi => OI.cellAt (show OI w4 g2 o2 0 c2 D from OSl.below q2 s4 t2) (by have := HDl.out;omega))) (by simp [Value.oneCell']) (by unfold maxLen;omega) (by omega) ?_;intro g5 o5 c5 w5 ho5 hg5 hat5;obtain ⟨q5,r5,s5⟩ := app_last s4 r4 ho5 hg5 hat5;clear ho5 hg5 hat5))
    go_ret
    refine .inr ⟨g5,o5,c5, ?_,Nat.le_trans s2.size r5, ?_,s2.trans (s5.mono s2.size)⟩
    ·rw [HZ.out,List.length_append,List.length_cons,HTl.out,HDl.out]
     exact congrArg (fun z => Ending.returned (.slice (some ⟨g5,o5,none⟩) z c5)) (by omega)
    ·rw [HZ.out,List.length_append,List.length_cons,HTl.out,HDl.out,show len + (0 + 1) = len + 1 + 0 by omega]
     exact q5
end Go.Proofs.YtidnfdobljihoaaGreat
namespace Go.Proofs.YtidnfdobljihoaaGreat
set_option linter.unusedVariables false
set_option linter.unusedSimpArgs false
open Go.RowKit Go.Sort
set_option maxRecDepth 100000 in
set_option maxHeartbeats 3200000 in
theorem putN_any (n : Int) (w : World) : Calls Tryz.prog 151 #[.slice none 0 0,.int .i64 n] w fun e w' => AnsN w w' e [n] := by
 obtain ⟨i0,hi0,hz0,hz1,hz2⟩ := info_parts2n Tryz.info2n
 go_enter Tryz.func151,Tryz.ntmps151
 go_wp2_with fail
 go_loop [5] (fun i => i = .int .i64 0) (fun i => 0)
 case atStart => rfl
 case round =>
  subst hrel
  go_wp2_with (first
   | (at_builtin;refine wpList_append_none _ rfl (.tmp 34) (.tmp 37) _ rfl 2 i0 Tryz.underlying25 hi0 (some ⟨w.heap.size,0,none⟩) 0 0 rfl (Nat.le_refl _) none 0 rfl ?_)
   | (at_builtin;refine wpList_append_none _ rfl (.tmp 39) (.tmp 42) _ rfl 2 i0 Tryz.underlying25 hi0 (some ⟨w.heap.size + 1,0,none⟩) 0 0 rfl (Nat.le_refl _) none 0 rfl ?_)
   | (at_builtin;refine wpList_append_oo _ rfl (.tmp 43) (.tmp 45) _ rfl 2 i0 _ 1 8 Tryz.underlying25 hi0 hz0 hz1 hz2 rfl (by omega) (some ⟨w.heap.size + 1,0,none⟩) 0 0 [] none rfl (OSo.nil _ _ (plainS _ _)) (some ⟨w.heap.size + 1 + 1,0,none⟩) 1 1 [.int .i64 n] rfl rfl (.inr ⟨_,rfl,World.news_of_block (cs := #[.int .i64 n]) (t := 2) (fr := (0,0)) (by simpa using heap_alloc_new ((w.alloc (.cells #[] 2)).alloc (.cells #[] 2)) (.cells #[.int .i64 n] 2))⟩) (by simp [Value.oneCell']) (by unfold maxLen;omega) (by omega) ?_;intro a2 c2 G2 w2 ho2 hg2 hat2)
   | (at_builtin;refine wpList_append_none _ rfl (.tmp 46) (.tmp 47) _ rfl 2 i0 Tryz.underlying25 hi0 a2 (0 + 1) c2 rfl ho2.le.1 (some ⟨w.heap.size,0,none⟩) 0 rfl ?_))
  go_ret
  rcases ho2 with ⟨h0,_⟩ | ⟨g,off,rfl,ho2,rfl⟩
  ·omega
  ·have hG : g = w.heap.size + 1 + 1 + 1 := by
    rcases hat2 with h | h
    ·cases h
    ·simpa using h
   refine ⟨g,off,c2,rfl,by omega,by simpa [OI] using ho2, ?_⟩
   have h3 : Below w.heap.size w (((w.alloc (.cells #[] 2)).alloc (.cells #[] 2)).alloc (.cells #[.int .i64 n] 2)) := (((Below.refl _ _).alloc (Nat.le_refl _) _).alloc (by simp) _).alloc (by simp;omega) _
   exact below_of_grown h3 hg2 (fun k hk => by cases hk) h3.size
theorem putO_any (a : Option Addr) (cap : Nat) (xs : List Int) (n : Int) (w : World) (hv : Vec w a xs.length xs) (ha : a = none → cap = 0) (hcap : xs.length ≤ cap) (hm : cap ≤ maxLen) (hn : xs.length ≤ 100000000) (hoff : PlainA a) :
  Calls Tryz.prog 151 #[.slice a xs.length cap,.int .i64 n] w fun e w' => (e = .returned (.slice a xs.length cap) ∧ putL xs n = xs ∧ w' = w) ∨ AnsN w w' e (putL xs n) := by
 cases a with
 | none =>
  have hc := ha rfl
  subst hc
  have hx : xs = [] := List.eq_nil_of_length_eq_zero (by omega)
  subst hx
  exact (putN_any n w).mono (fun e w' h => .inr h)
 | some x =>
  obtain ⟨b,off,rfl⟩ := hoff x rfl
  refine putS_any b off xs.length cap xs n w rfl (fun i hi => ?_) hcap hm hn
  rcases hv.2.2 with h | ⟨b',off',hb,hc⟩
  ·omega
  ·cases hb
   exact hc i hi
end Go.Proofs.YtidnfdobljihoaaGreat
namespace Go.Proofs.YtidnfdobljihoaaGreat
set_option linter.unusedVariables false
set_option linter.unusedSimpArgs false
open Go.RowKit Go.Sort
structure Cc (w X : World) (p : Nat) (a : Option Addr) (len cap : Nat) (bs : Nat → Int) : Prop where
 cur : CurAt X p a len cap
 code : BVec w a len bs
 below : Below w.heap.size w X
 off : OffB a len p
 hl : len ≤ 4096
 hp : w.heap.size ≤ p
theorem Cc.bvec {w X : World} {p : Nat} {a : Option Addr} {len cap : Nat} {bs : Nat → Int} (h : Cc w X p a len cap bs) : BVec X a len bs := h.code.below h.below (Nat.le_refl _)
theorem Cc.step {w X X' : World} {p : Nat} {a : Option Addr} {len cap : Nat} {bs : Nat → Int} (h : Cc w X p a len cap bs) (hb : Below X.heap.size X X') : Cc w X' p a len cap bs :=
 ⟨h.cur.below hb h.cur.lt,h.code,h.below.trans (hb.mono h.below.size),h.off,h.hl,h.hp⟩
theorem Cc.drawn {w X X' : World} {p : Nat} {a : Option Addr} {len cap : Nat} {bs : Nat → Int} (h : Cc w X p a len cap bs) (hg : X.grownBy X' (some p)) (hc : CurAt X' p a len cap) : Cc w X' p a len cap bs :=
 ⟨hc,h.code,below_of_grown h.below hg (fun k e => by cases e;exact h.hp) h.below.size,h.off,h.hl,h.hp⟩
theorem Cc.lt {w X : World} {p : Nat} {a : Option Addr} {len cap : Nat} {bs : Nat → Int} (h : Cc w X p a len cap bs) : p < X.heap.size := h.cur.lt
theorem belowC (N : Nat) (n : Int) (hN : n = (N : Int)) {w X : World} {p : Nat} {a : Option Addr} {len cap : Nat} {bs : Nat → Int} (h : Cc w X p a len cap bs) (h1 : 1 ≤ N) (h2 : N ≤ 10000) :
  Calls Tryz.prog 55 #[.pointer (some ⟨p,0,none⟩),.int .i64 n] X fun e w' => ∃ Y : Nat,e = .returned (.int .i64 (Y : Int)) ∧ Y < N ∧ Cc w w' p a len cap bs ∧ X.grownBy w' (some p) := by
 subst hN
 refine (below_any p a len cap bs (N : Int) X h.cur h.bvec h.off h.hl (by omega)).mono ?_
 rintro e w' ⟨x,rfl,h0,h3,_,hc,hg⟩
 have h4 := h3 (by omega)
 exact ⟨x.toNat,by rw [show ((x.toNat : Nat) : Int) = x by omega],by omega,h.drawn hg hc,hg⟩
theorem onceC (n : Int) {w X : World} {p : Nat} {a : Option Addr} {len cap : Nat} {bs : Nat → Int} (h : Cc w X p a len cap bs) (hn : n ≤ 10000) :
  Calls Tryz.prog 56 #[.pointer (some ⟨p,0,none⟩),.int .i64 n] X fun e w' => ∃ t : Bool,e = .returned (.bool t) ∧ Cc w w' p a len cap bs ∧ X.grownBy w' (some p) := by
 refine (once_any p a len cap bs n X h.cur h.bvec h.off h.hl (by omega)).mono ?_
 rintro e w' ⟨t,rfl,hc,hg⟩
 exact ⟨t,rfl,h.drawn hg hc,hg⟩
theorem newC (a : Option Addr) (len cap : Nat) (bs : Nat → Int) (w X : World) (hb : Below w.heap.size w X) (hv : BVec w a len bs) (hl : len ≤ 4096) :
  Calls Tryz.prog 54 #[.slice a len cap] X fun e w' => ∃ p,e = .returned (.pointer (some ⟨p,0,none⟩)) ∧ X.heap.size ≤ p ∧ Cc w w' p a len cap bs ∧ Below X.heap.size X w' := by
 refine (new_any a len cap bs X (hv.below hb (Nat.le_refl _)) hl).mono ?_
 rintro e w1 ⟨p,rfl,hp,hc1,hb1⟩
 have hs := hb.size
 exact ⟨p,rfl,hp,⟨hc1,hv,hb.trans (hb1.mono hb.size),fun hl b off e => by have := hv.inB hl b off e;omega,hl,by omega⟩,hb1⟩
set_option maxHeartbeats 400000 in
theorem fromC (lo hi : Int) (h0 : -1000 ≤ lo) (h1 : lo ≤ hi) (h2 : hi ≤ 1000) {w X : World} {p : Nat} {a : Option Addr} {len cap : Nat} {bs : Nat → Int} (h : Cc w X p a len cap bs) :
  Calls Tryz.prog 116 #[.pointer (some ⟨p,0,none⟩),.int .i64 lo,.int .i64 hi] X fun e w' => ∃ x : Int,e = .returned (.int .i64 x) ∧ lo ≤ x ∧ x ≤ hi ∧ Cc w w' p a len cap bs ∧ X.grownBy w' (some p) := by
 have hB := belowC (hi - lo + 1).toNat (hi - lo + 1) (by omega) h (by omega) (by omega)
 go_enter Tryz.func116,Tryz.ntmps116
 go_wp2_with fail
 refine hB.mono ?_
 rintro e w1 ⟨Y,rfl,hY,hq,hg⟩
 have b1 : lo + (Y : Int) ≤ 9223372036854775807 := by omega
 have b2 : -9223372036854775808 ≤ lo + (Y : Int) := by omega
 have HQ : Hid (Cc w w1 p a len cap bs ∧ X.grownBy w1 (some p)) := ⟨hq,hg⟩
 clear hq hB hg
 go_wp2
 go_ret
 exact ⟨lo + (Y : Int),rfl,by omega,by omega,HQ.out⟩
structure Bk (B : World) where
 w : World
 h : Below B.heap.size B w
theorem wp_region_bk {P : Program} {id : Nat} {Q : Exit → Act → World → Prop} {a : Act} {w : World} {l : List Oper} (hm : P.follows .mixedOrders = true) (hB : Region.lexB .any l.toArray = true)
  (h : wpQuiet P l.toArray (fun w' => ∃ p : Bk w,w' = p.w) (fun a' => ∀ w',(∃ p : Bk w,w' = p.w) → Q .normal a' w') l a) : (Code.region id l.toArray true).wp P Q a w :=
 wp_region_quiet (C := fun w' => ∃ p : Bk w,w' = p.w) hm hB ⟨⟨w.drewN 1,belowN (Below.refl _ _)⟩,rfl⟩ (by simpa using h)
theorem bk_call {P : Program} {f : FuncId} {args : Array Value} {B : World} {v : Value} (p : Bk B) (h : Calls P f args p.w fun e w' => e = .returned v ∧ Below p.w.heap.size p.w w') : Calls P f args p.w fun e w' => e = .returned v ∧ ∃ q : Bk B,w' = q.w :=
 h.mono fun e w' h => ⟨h.1,⟨w',p.h.trans (h.2.mono p.h.size)⟩,rfl⟩
end Go.Proofs.YtidnfdobljihoaaGreat
namespace Go.Proofs.YtidnfdobljihoaaGreat
set_option linter.unusedVariables false
set_option linter.unusedSimpArgs false
open Go.RowKit Go.Sort
end Go.Proofs.YtidnfdobljihoaaGreat
namespace Go.Proofs.YtidnfdobljihoaaGreat
set_option linter.unusedVariables false
set_option linter.unusedSimpArgs false
open Go.RowKit Go.Sort
theorem put_ow (a : Option Addr) (cap : Nat) (xs : List Int) (n : Int) (w : World) (fp : Fp) (ho : Cel.ow w (icl xs) (.slice a xs.length cap) fp) (hf : Fits xs) (hn : xs.length ≤ 100000000) :
  Calls Tryz.prog 151 #[.slice a xs.length cap,.int .i64 n] w fun e w' => ∃ a' c' fp',e = .returned (.slice a' (putL xs n).length c') ∧ Cel.ow w' (icl (putL xs n)) (.slice a' (putL xs n).length c') fp' ∧ (∀ b,fp' b → fp b ∨ w.heap.size ≤ b) ∧ Below w.heap.size w w' := by
 obtain ⟨a0,c0,e0,hv,h1,h2⟩ := vw_icl (Cel.ow_vw ho) hf
 cases e0
 obtain ⟨a1,c1,G,e1,hs,hG⟩ := ow_icl.1 ho
 cases e1
 have hnone : a = none → cap = 0 := fun e => by
  rcases hs with ⟨_,h,_⟩ | ⟨g,off,ha,_⟩
  ·exact h
  ·rw [ha] at e;cases e
 refine (putO_any a cap xs n w hv hnone h1 h2 hn hs.plain).mono ?_
 rintro e w' (⟨rfl,h3,rfl⟩ | ⟨g,off,c,rfl,hg,hO,hb⟩)
 ·exact ⟨a,cap,fp,by rw [h3],by rw [h3];exact ho,fun b hb => .inl hb,Below.refl _ _⟩
 ·exact ⟨_,c,fun b => b = g,rfl,ow_icl.2 ⟨_,c,some g,rfl,OSo.of hO,fun b => by simp [eq_comm]⟩,fun b hb => .inr (by rw [hb];exact hg),hb⟩
end Go.Proofs.YtidnfdobljihoaaGreat
namespace Go.Proofs.YtidnfdobljihoaaGreat
set_option linter.unusedVariables false
set_option linter.unusedSimpArgs false
open Go.RowKit Go.Sort
end Go.Proofs.YtidnfdobljihoaaGreat
namespace Go.Proofs.YtidnfdobljihoaaGreat
set_option linter.unusedVariables false
set_option linter.unusedSimpArgs false
open Go.RowKit Go.Sort
def I64v (x : Int) : Prop := -9223372036854775808 ≤ x ∧ x ≤ 9223372036854775807
structure VcP (w : World) (a : Option Addr) (c : Nat) (M : List Int) : Prop where
 vec : Vec w a M.length M
 le : M.length ≤ c
 mx : c ≤ maxLen
 pl : PlainA a
 nn : a = none → c = 0
theorem VcP.below {w w' : World} {a : Option Addr} {c : Nat} {M : List Int} (h : VcP w a c M) (hb : Below w.heap.size w w') : VcP w' a c M := ⟨h.vec.below hb (Nat.le_refl _),h.le,h.mx,h.pl,h.nn⟩
theorem ow_vcp {w : World} {a : Option Addr} {c : Nat} {M : List Int} {fp : Fp} (h : Cel.ow w (icl M) (.slice a M.length c) fp) (hf : Fits M) : VcP w a c M := by
 obtain ⟨a0,c0,e0,hv,h1,h2⟩ := vw_icl (Cel.ow_vw h) hf
 cases e0
 obtain ⟨a1,c1,G,e1,hs,hG⟩ := ow_icl.1 h
 cases e1
 refine ⟨hv,h1,h2,hs.plain,fun e => ?_⟩
 rcases hs with ⟨_,h,_⟩ | ⟨g,off,ha,_⟩
 ·exact h
 ·rw [ha] at e;cases e
end Go.Proofs.YtidnfdobljihoaaGreat
namespace Go.Proofs.YtidnfdobljihoaaGreat
set_option linter.unusedVariables false
set_option linter.unusedSimpArgs false
open Go.RowKit Go.Sort
def szRw (r : Rw) : Nat := r.txt.length + totS r.txt r.txt.length + r.got.length + r.sus.length + r.trm.length
attribute [local irreducible] sv
end Go.Proofs.YtidnfdobljihoaaGreat
namespace Go.Proofs.YtidnfdobljihoaaGreat
set_option linter.unusedVariables false
set_option linter.unusedSimpArgs false
open Go.RowKit Go.Sort
end Go.Proofs.YtidnfdobljihoaaGreat
namespace Go.Proofs.YtidnfdobljihoaaGreat
set_option linter.unusedVariables false
set_option linter.unusedSimpArgs false
open Go.RowKit Go.Sort
theorem set_sameA {α : Type} : ∀ {l : List α} {k : Nat} {x : α},l[k]? = some x → l.set k x = l
 | [],k,x,h => by simp at h
 | y :: l,0,x,h => by simp at h;rw [h];rfl
 | y :: l,k + 1,x,h => by rw [List.set_cons_succ,set_sameA (by simpa using h)]
attribute [local irreducible] sv
end Go.Proofs.YtidnfdobljihoaaGreat
namespace Go.Proofs.YtidnfdobljihoaaGreat
set_option linter.unusedVariables false
set_option linter.unusedSimpArgs false
open Go.RowKit Go.Sort
def Rw64 (r : Rw) : Prop := I64v r.ver ∧ I64v r.by_
structure RwP (w : World) (A : Ra) (r : Rw) : Prop where
 txt : TxP w A.ta A.tc r.txt
 got : VcP w A.ga A.gc r.got
 sus : VcP w A.sa A.sc r.sus
 trm : VcP w A.ma A.mc r.trm
 i64 : Rw64 r
 sz : szRw r ≤ 1048576
theorem RwP.below {w w' : World} {A : Ra} {r : Rw} (h : RwP w A r) (hb : Below w.heap.size w w') : RwP w' A r := ⟨h.txt.below hb,h.got.below hb,h.sus.below hb,h.trm.below hb,h.i64,h.sz⟩
theorem RwP.rws {w : World} {A : Ra} {r : Rw} (h : RwP w A r) : RwS w A r := by
 have hs := h.sz
 unfold szRw at hs
 exact ⟨h.txt.txs,h.got.vec,h.sus.vec,h.trm.vec,by unfold maxLen;omega,by unfold maxLen;omega,by unfold maxLen;omega,by unfold maxLen;omega⟩
def FitR (r : Rw) : Prop := Fits r.got ∧ Fits r.sus ∧ Fits r.trm
theorem it_parts {w : World} {A : Ra} {r : Rw} {lo hi : Nat} (h : It w (rwCels r) (rwVals A r) lo hi) : ∃ f1 f2 f3 f4,Cel.ow w (scl r.txt) (.slice A.ta r.txt.length A.tc) f1 ∧ Cel.ow w (icl r.got) (.slice A.ga r.got.length A.gc) f2 ∧ Cel.ow w (icl r.sus) (.slice A.sa r.sus.length A.sc) f3 ∧ Cel.ow w (icl r.trm) (.slice A.ma r.trm.length A.mc) f4 := by
 obtain ⟨f,h1,_⟩ := h
 obtain ⟨u1,us1,f1,g1,e1,o1,h2,_⟩ := h1
 cases e1
 obtain ⟨u2,us2,f2,g2,e2,o2,h3,_⟩ := h2
 cases e2
 obtain ⟨u3,us3,f3,g3,e3,o3,h4,_⟩ := h3
 cases e3
 obtain ⟨u4,us4,f4,g4,e4,o4,h5,_⟩ := h4
 cases e4
 exact ⟨f1,f2,f3,f4,o1,o2,o3,o4⟩
theorem it_rwp {w : World} {A : Ra} {r : Rw} {lo hi : Nat} (h : It w (rwCels r) (rwVals A r) lo hi) (hf : FitR r) (h6 : Rw64 r) (hs : szRw r ≤ 1048576) : RwP w A r := by
 obtain ⟨f1,f2,f3,f4,o1,o2,o3,o4⟩ := it_parts h
 exact ⟨ow_txp o1,ow_vcp o2 hf.1,ow_vcp o3 hf.2.1,ow_vcp o4 hf.2.2,h6,hs⟩
theorem it_rws {w : World} {A : Ra} {r : Rw} {lo hi : Nat} (h : It w (rwCels r) (rwVals A r) lo hi) (hf : FitR r) (hs : szRw r ≤ 1048576) : RwS w A r := by
 obtain ⟨f1,f2,f3,f4,o1,o2,o3,o4⟩ := it_parts h
 unfold szRw at hs
 exact ⟨(ow_txp o1).txs,(ow_vcp o2 hf.1).vec,(ow_vcp o3 hf.2.1).vec,(ow_vcp o4 hf.2.2).vec,by unfold maxLen;omega,by unfold maxLen;omega,by unfold maxLen;omega,by unfold maxLen;omega⟩
def ImplFollows : Prop := ∀ (A B : Ra) (r s : Rw) (n : Int) (w : World),RwP w A r → RwP w B s → I64v n → Calls Tryz.prog 18 #[rwV A r,rwV B s,.int .i64 n] w fun e w' => e = .returned (.bool (folB r s n)) ∧ Below w.heap.size w w'
end Go.Proofs.YtidnfdobljihoaaGreat
namespace Go.Proofs.YtidnfdobljihoaaGreat
set_option linter.unusedVariables false
set_option linter.unusedSimpArgs false
open Go.RowKit Go.Sort
structure Nx (r r' : Rw) : Prop where
 ver : r.ver ≤ r'.ver
 txt : r.txt <+: r'.txt
 got : ∀ i,el r.got i ≤ el r'.got i
 sus : ∀ x ∈ r.sus,x ∈ r'.sus
 wed : r.wed = true → r'.wed = true ∧ r'.got = r.got ∧ r'.txt = r.txt
 rdy : r.rdy = true → r'.rdy = true ∧ r.by_ ≤ r'.by_ ∧ (r'.by_ = r.by_ → r'.trm = r.trm)
theorem Nx.refl (r : Rw) : Nx r r := ⟨Int.le_refl _,List.prefix_refl _,fun _ => Int.le_refl _,fun _ h => h,fun h => ⟨h,rfl,rfl⟩,fun h => ⟨h,Int.le_refl _,fun _ => rfl⟩⟩
theorem Nx.trans {a b c : Rw} (h : Nx a b) (k : Nx b c) : Nx a c := by
 refine ⟨Int.le_trans h.ver k.ver,h.txt.trans k.txt,fun i => Int.le_trans (h.got i) (k.got i),fun x hx => k.sus x (h.sus x hx),fun hw => ?_,fun hr => ?_⟩
 ·obtain ⟨h1,h2,h3⟩ := h.wed hw
  obtain ⟨k1,k2,k3⟩ := k.wed h1
  exact ⟨k1,k2.trans h2,k3.trans h3⟩
 ·obtain ⟨h1,h2,h3⟩ := h.rdy hr
  obtain ⟨k1,k2,k3⟩ := k.rdy h1
  refine ⟨k1,Int.le_trans h2 k2,fun e => ?_⟩
  have e2 : b.by_ = a.by_ := by omega
  rw [k3 (by omega),h3 e2]
end Go.Proofs.YtidnfdobljihoaaGreat
namespace Go.Proofs.YtidnfdobljihoaaGreat
set_option linter.unusedVariables false
set_option linter.unusedSimpArgs false
def wrow (cs : List Int) (k j : Nat) : List Int := ((List.range j).filter (fun i => decide ((k : Int) < el cs i))).map (fun i : Nat => (cs.length : Int) * (k : Int) + (i : Int))
def wovs (cs : List Int) (M : Nat) : List Int := (List.range M).flatMap (fun k => wrow cs k cs.length)
theorem wrow_succ (cs : List Int) (k j : Nat) : wrow cs k (j + 1) = wrow cs k j ++ (if (k : Int) < el cs j then [(cs.length : Int) * (k : Int) + (j : Int)] else []) := by
 unfold wrow
 rw [List.range_succ,List.filter_append,List.map_append]
 by_cases h : (k : Int) < el cs j
 ·simp [h]
 ·simp [h]
theorem wovs_succ (cs : List Int) (M : Nat) : wovs cs (M + 1) = wovs cs M ++ wrow cs M cs.length := by simp [wovs,List.range_succ]
theorem mem_wrow {cs : List Int} {k j : Nat} {q : Int} : q ∈ wrow cs k j ↔ ∃ i : Nat,i < j ∧ (k : Int) < el cs i ∧ q = (cs.length : Int) * (k : Int) + (i : Int) := by
 simp only [wrow,List.mem_map,List.mem_filter,List.mem_range,decide_eq_true_eq]
 constructor
 ·rintro ⟨i,⟨h1,h2⟩,h3⟩;exact ⟨i,h1,h2,h3.symm⟩
 ·rintro ⟨i,h1,h2,h3⟩;exact ⟨i,⟨h1,h2⟩,h3.symm⟩
theorem mem_wovs {cs : List Int} {M : Nat} {q : Int} : q ∈ wovs cs M ↔ ∃ k i : Nat,k < M ∧ i < cs.length ∧ (k : Int) < el cs i ∧ q = (cs.length : Int) * (k : Int) + (i : Int) := by
 simp only [wovs,List.mem_flatMap,List.mem_range,mem_wrow]
 constructor
 ·rintro ⟨k,hk,i,h⟩;exact ⟨k,i,hk,h⟩
 ·rintro ⟨k,i,hk,h⟩;exact ⟨k,hk,i,h⟩
theorem wrow_rises (cs : List Int) (k j : Nat) : (wrow cs k j).Pairwise (· < ·) := by
 unfold wrow
 rw [List.pairwise_map]
 exact ((List.pairwise_lt_range (n := j)).filter _).imp (fun hab => by omega)
theorem wovs_rises (cs : List Int) (M : Nat) : (wovs cs M).Pairwise (· < ·) := by
 induction M with
 | zero => simp [wovs]
 | succ M ih =>
  rw [wovs_succ,List.pairwise_append]
  refine ⟨ih,wrow_rises _ _ _,fun a ha b hb => ?_⟩
  obtain ⟨k,i,hk,hi,_,rfl⟩ := mem_wovs.1 ha
  obtain ⟨i',_,_,rfl⟩ := mem_wrow.1 hb
  have h1 : (cs.length : Int) * ((k : Int) + 1) ≤ (cs.length : Int) * (M : Int) := Int.mul_le_mul_of_nonneg_left (by omega) (by omega)
  rw [Int.mul_add,Int.mul_one] at h1
  omega
theorem wovs_is {cs : List Int} {M : Nat} (h1 : 1 ≤ cs.length) (hM : ∀ i,i < cs.length → el cs i ≤ (M : Int)) : IsWov cs (wovs cs M) := by
 refine ⟨wovs_rises cs M,fun q => ?_⟩
 rw [mem_wovs]
 constructor
 ·rintro ⟨k,i,hk,hi,hlt,rfl⟩
  have e : (cs.length : Int) * (k : Int) + (i : Int) = ((cs.length * k + i : Nat) : Int) := by simp
  rw [e]
  refine ⟨by omega, ?_⟩
  rw [Int.toNat_natCast]
  unfold bel
  rw [Nat.mul_add_mod,Nat.mod_eq_of_lt hi,Nat.mul_add_div (by omega),Nat.div_eq_of_lt hi]
  simpa using hlt
 ·rintro ⟨h0,hb⟩
  obtain ⟨p,rfl⟩ : ∃ p : Nat,q = (p : Int) := ⟨q.toNat,by omega⟩
  rw [Int.toNat_natCast] at hb
  unfold bel at hb
  have hm : p % cs.length < cs.length := Nat.mod_lt _ (by omega)
  have hle := hM (p % cs.length) hm
  refine ⟨p / cs.length,p % cs.length,by omega,hm,hb, ?_⟩
  have := Nat.div_add_mod p cs.length
  exact_mod_cast this.symm
def mins (cs : List Int) (M j : Nat) : Nat := ((List.range j).map (fun i => min (el cs i).toNat M)).sum
theorem mins_succ (cs : List Int) (M j : Nat) : mins cs M (j + 1) = mins cs M j + min (el cs j).toNat M := by simp [mins,List.range_succ]
theorem wrow_len (cs : List Int) (M j : Nat) : mins cs (M + 1) j = mins cs M j + (wrow cs M j).length := by
 induction j with
 | zero => simp [mins,wrow]
 | succ j ih =>
  rw [mins_succ,mins_succ,wrow_succ,List.length_append,ih]
  by_cases h : (M : Int) < el cs j
  ·rw [if_pos h];simp;omega
  ·rw [if_neg h];simp;omega
theorem wovs_len (cs : List Int) (M : Nat) : (wovs cs M).length = mins cs M cs.length := by
 induction M with
 | zero =>
  have : ∀ j,mins cs 0 j = 0 := fun j => by
   induction j with
   | zero => rfl
   | succ j ih => rw [mins_succ,ih];simp
  rw [this];simp [wovs]
 | succ M ih => rw [wovs_succ,List.length_append,ih,wrow_len]
theorem mins_sum {cs : List Int} {M : Nat} (hM : ∀ i,i < cs.length → 0 ≤ el cs i ∧ el cs i ≤ (M : Int)) : ∀ j,j ≤ cs.length → (mins cs M j : Int) = sumL (cs.take j) := by
 intro j
 induction j with
 | zero => intro _;simp [mins,sumL]
 | succ j ih =>
  intro hj
  have h := hM j (by omega)
  rw [mins_succ,List.take_succ_eq_append_getElem (by omega),sumL_snoc,← ih (by omega),← el_eq (by omega)]
  omega
theorem wovs_count {cs : List Int} {M : Nat} (hM : ∀ i,i < cs.length → 0 ≤ el cs i ∧ el cs i ≤ (M : Int)) : ((wovs cs M).length : Int) = sumL cs := by
 have := mins_sum hM cs.length (Nat.le_refl _)
 rw [List.take_length] at this
 rw [wovs_len,this]
end Go.Proofs.YtidnfdobljihoaaGreat