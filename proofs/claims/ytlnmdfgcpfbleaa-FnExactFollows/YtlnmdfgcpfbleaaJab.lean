/-
  Texts in one: Rzs Rzo Rzf Rzn Vwp Vws Vwt Rlo Rfu Rcn Rpu Rpn Cqs Dhl Vwa Iti Vwh Rzh Rzt Rzm Rzq.
-/
import Derived.Test.YtlnmdfgcpfbleaaJaa
import Derived.Deep.QuietTactic
import Derived.BigQuiet
import Derived.Deep.RegionHeld3
namespace Go.Proofs.Ytlnmdfgcpfbleaa
set_option linter.unusedVariables false
set_option linter.unusedSimpArgs false
open Go.RowKit Go.Sort
structure Ra where
 ta : Option Addr
 tc : Nat
 ga : Option Addr
 gc : Nat
 sa : Option Addr
 sc : Nat
 ma : Option Addr
 mc : Nat
def rwC (A : Ra) (r : Rw) : Array Value := #[.int .i64 r.ver,.slice A.ta r.txt.length A.tc,.slice A.ga r.got.length A.gc,.slice A.sa r.sus.length A.sc,.bool r.wed,.bool r.rdy,.int .i64 r.by_,.slice A.ma r.trm.length A.mc]
def rwV (A : Ra) (r : Rw) : Value := .agg (rwC A r)
structure RwS (w : World) (A : Ra) (r : Rw) : Prop where
 txt : TxS w A.ta r.txt
 got : Vec w A.ga r.got.length r.got
 sus : Vec w A.sa r.sus.length r.sus
 trm : Vec w A.ma r.trm.length r.trm
 mt : r.txt.length ≤ maxLen
 mg : r.got.length ≤ maxLen
 ms : r.sus.length ≤ maxLen
 mm : r.trm.length ≤ maxLen
theorem RwS.below {w w' : World} {A : Ra} {r : Rw} (h : RwS w A r) (hb : Below w.heap.size w w') : RwS w' A r := ⟨h.txt.below hb,h.got.below hb (Nat.le_refl _),h.sus.below hb (Nat.le_refl _),h.trm.below hb (Nat.le_refl _),h.mt,h.mg,h.ms,h.mm⟩
theorem Bx.r8 {w : World} {B : Nat} {T : TypeId} {x0 x1 x2 x3 x4 x5 x6 x7 : Value} (h : Bx w B T #[x0,x1,x2,x3,x4,x5,x6,x7]) : (w.cell? ⟨B,0,none⟩ = some x0 ∧ w.cell? ⟨B,1,none⟩ = some x1 ∧ w.cell? ⟨B,2,none⟩ = some x2 ∧ w.cell? ⟨B,3,none⟩ = some x3) ∧ w.cell? ⟨B,4,none⟩ = some x4 ∧ w.cell? ⟨B,5,none⟩ = some x5 ∧ w.cell? ⟨B,6,none⟩ = some x6 ∧ w.cell? ⟨B,7,none⟩ = some x7 :=
 ⟨⟨h.at 0 rfl,h.at 1 rfl,h.at 2 rfl,h.at 3 rfl⟩,h.at 4 rfl,h.at 5 rfl,h.at 6 rfl,h.at 7 rfl⟩
theorem oneA16 (w : World) (o : Obj) : Below w.heap.size w (w.alloc o) := (Below.refl _ _).alloc (Nat.le_refl _) _
theorem susB_miss {l : List Int} {n : Int} {k : Nat} (hk : k < l.length) (h : inB (el l k) 0 (n - 1) = false) : susB l n = false := by
 have : l.all (fun x => inB x 0 (n - 1)) = false := by
  rw [List.all_eq_false]
  exact ⟨el l k,el_mem hk,by simp [h]⟩
 rw [susB,this]
 rfl
theorem susB_all {l : List Int} {n : Int} (h : ∀ k,k < l.length → inB (el l k) 0 (n - 1) = true) : susB l n = risB l := by
 have : l.all (fun x => inB x 0 (n - 1)) = true := by
  rw [List.all_eq_true]
  intro x hx
  obtain ⟨j,hj,rfl⟩ := List.mem_iff_getElem.1 hx
  have := h j hj
  simpa [el,hj] using this
 rw [susB,this]
 rfl
set_option maxRecDepth 100000 in
set_option maxHeartbeats 1600000 in
theorem susS_any (a : Option Addr) (cap : Nat) (l : List Int) (n : Int) (w : World) (hv : Vec w a l.length l) (hm : l.length ≤ maxLen) (hn : -1000 ≤ n ∧ n ≤ 1000) :
  Calls Try.prog 81 #[.slice a l.length cap,.int .i64 n] w fun e w' => e = .returned (.bool (susB l n)) ∧ Below w.heap.size w w' := by
 have hR := l1Rises_any a l.length cap l w hv hm
 have HV : Hid (Vec w a l.length l) := hv
 have hwn : wrap64 (n - 1) = n - 1 := by unfold wrap64;omega
 unfold maxLen at hm
 clear hv
 go_enter Try.func81,Try.ntmps81
 go_wp2
 go_loop [5] (fun i => ∃ k : Nat,k ≤ l.length ∧ i = .int .i64 k ∧ ∀ j,j < k → inB (el l j) 0 (n - 1) = true) (fun i => l.length - (intOf i).toNat)
 case atStart => exact ⟨0,Nat.zero_le _,rfl,fun j hj => by omega⟩
 case round =>
  obtain ⟨k,hk,rfl,hall⟩ := hrel
  have HA : Hid (∀ j,j < k → inB (el l j) 0 (n - 1) = true) := hall
  clear hall
  by_cases hlt : k < l.length
  ·rcases HV.out.2.2 with h0 | ⟨b,off,rfl,hc⟩
   ·omega
   have hck := hc k hlt
   have k1 : (k : Int) < (l.length : Int) := by omega
   have k0 : (0 : Int) ≤ (k : Int) := by omega
   have hI := fun X => l1In_any (el l k) 0 (n - 1) X
   clear hc
   cases hb : inB (el l k) 0 (n - 1) with
   | true =>
    rw [hb] at hI
    have HN : Hid (∀ j,j < k + 1 → inB (el l j) 0 (n - 1) = true) := fun j hj => by
     rcases Nat.lt_succ_iff_lt_or_eq.1 hj with h1 | h1
     ·exact HA.out j h1
     ·rw [h1];exact hb
    generalize el l k = x at *
    clear hb
    go_wp2_with (go_at_call 73;refine (hI _).mono ?_;rintro e w' ⟨rfl,hw'⟩;rw [hw'];clear hw')
    go_round
    case rel => exact ⟨k + 1,by omega,by go_num,HN.out⟩
    case measure => simp [intOf];omega
   | false =>
    rw [hb] at hI
    have HZ : Hid (susB l n = false) := susB_miss hlt hb
    generalize el l k = x at *
    clear hb
    go_wp2_with (go_at_call 73;refine (hI _).mono ?_;rintro e w' ⟨rfl,hw'⟩;rw [hw'];clear hw')
    go_ret
    exact ⟨ret_bool (by rw [HZ.out]),Below.refl _ _⟩
  ·have k1 : ¬ ((k : Int) < (l.length : Int)) := by omega
   have HZ : Hid (susB l n = risB l) := susB_all (fun j hj => HA.out j (by omega))
   generalize risB l = Q at *
   go_wp2_with (go_at_call 121;refine hR.mono ?_;rintro e w2 ⟨rfl,q,hw2⟩)
   go_ret
   exact ⟨ret_bool (by rw [HZ.out]),belowN (Below.refl _ _)⟩
theorem smB_parts {v : List Int} {n : Int} (h1 : okB v = true) (h2 : (v.length : Int) = n) (h3 : ∀ k,k < v.length → el v k ≤ 12) : smB v n = true := by
 have : v.all (fun x => decide (x ≤ 12)) = true := by
  rw [List.all_eq_true]
  intro x hx
  obtain ⟨j,hj,rfl⟩ := List.mem_iff_getElem.1 hx
  have := h3 j hj
  simpa [el,hj] using this
 rw [smB,h1,this,decide_eq_true h2]
 rfl
theorem smB_not {v : List Int} {n : Int} {k : Nat} (hk : k < v.length) (h : ¬ el v k ≤ 12) : smB v n = false := by
 have : v.all (fun x => decide (x ≤ 12)) = false := by
  rw [List.all_eq_false]
  exact ⟨el v k,el_mem hk,by simpa using h⟩
 rw [smB,this]
 simp
set_option maxRecDepth 100000 in
set_option maxHeartbeats 1600000 in
theorem trmS16_any (a : Option Addr) (cap : Nat) (l : List Int) (n : Int) (w : World) (hv : Vec w a l.length l) (hm : l.length ≤ maxLen) :
  Calls Try.prog 82 #[.slice a l.length cap,.int .i64 n] w fun e w' => e = .returned (.bool (smB l n)) ∧ w' = w := by
 have hO := specOk_any a l.length cap l w hv hm
 have HV : Hid (Vec w a l.length l) := hv
 unfold maxLen at hm
 clear hv
 cases hok : okB l with
 | false =>
  have HZ : Hid (smB l n = false) := by rw [Hid,smB,hok];rfl
  rw [hok] at hO
  clear hok
  go_enter Try.func82,Try.ntmps82
  go_wp2_with (go_at_call 25;refine hO.mono ?_;rintro e w' ⟨rfl,hw'⟩;rw [hw'];clear hw')
  go_ret
  exact ⟨ret_bool (by rw [HZ.out]),rfl⟩
 | true =>
  rw [hok] at hO
  by_cases hl : (l.length : Int) = n
  ·have e1 : ((l.length : Int) != n) = false := by simpa using hl
   have HP : Hid ((∀ k,k < l.length → el l k ≤ 12) → smB l n = true) := fun h => smB_parts hok hl h
   clear hok hl
   go_enter Try.func82,Try.ntmps82
   go_wp2_with (go_at_call 25;refine hO.mono ?_;rintro e w' ⟨rfl,hw'⟩;rw [hw'];clear hw')
   go_loop [5] (fun i => ∃ k : Nat,k ≤ l.length ∧ i = .int .i64 k ∧ ∀ j,j < k → el l j ≤ 12) (fun i => l.length - (intOf i).toNat)
   case atStart => exact ⟨0,Nat.zero_le _,rfl,fun j hj => by omega⟩
   case round =>
    obtain ⟨k,hk,rfl,hall⟩ := hrel
    have HA : Hid (∀ j,j < k → el l j ≤ 12) := hall
    clear hall
    by_cases hlt : k < l.length
    ·rcases HV.out.2.2 with h0 | ⟨b,off,rfl,hc⟩
     ·omega
     have hck := hc k hlt
     have k1 : (k : Int) < (l.length : Int) := by omega
     have k0 : (0 : Int) ≤ (k : Int) := by omega
     clear hc
     by_cases h12 : el l k ≤ 12
     ·have g12 : ¬ (12 < el l k) := by omega
      have HN : Hid (∀ j,j < k + 1 → el l j ≤ 12) := fun j hj => by
       rcases Nat.lt_succ_iff_lt_or_eq.1 hj with h1 | h1
       ·exact HA.out j h1
       ·rw [h1];exact h12
      generalize el l k = x at *
      clear h12
      go_wp2
      go_round
      case rel => exact ⟨k + 1,by omega,by go_num,HN.out⟩
      case measure => simp [intOf];omega
     ·have g12 : 12 < el l k := by omega
      have HZ : Hid (smB l n = false) := smB_not hlt h12
      generalize el l k = x at *
      clear h12
      go_wp2
      go_ret
      exact ⟨ret_bool (by rw [HZ.out]),rfl⟩
    ·have k1 : ¬ ((k : Int) < (l.length : Int)) := by omega
     have HZ : Hid (smB l n = true) := HP.out (fun j hj => HA.out j (by omega))
     go_wp2
     go_ret
     exact ⟨ret_bool (by rw [HZ.out]),rfl⟩
  ·have e1 : ((l.length : Int) != n) = true := by simpa using hl
   have HZ : Hid (smB l n = false) := by rw [Hid,smB,decide_eq_false hl];simp
   clear hok hl
   go_enter Try.func82,Try.ntmps82
   go_wp2_with (go_at_call 25;refine hO.mono ?_;rintro e w' ⟨rfl,hw'⟩;rw [hw'];clear hw')
   go_ret
   exact ⟨ret_bool (by rw [HZ.out]),rfl⟩
end Go.Proofs.Ytlnmdfgcpfbleaa
namespace Go.Proofs.Ytlnmdfgcpfbleaa
set_option linter.unusedVariables false
set_option linter.unusedSimpArgs false
open Go.RowKit Go.Sort
theorem okRw_n {r : Rw} {n : Int} (h : inB n 1 5 = false) : okRw r n = false := by rw [okRw,h];rfl
theorem okRw_v {r : Rw} {n : Int} (h : inB r.ver 0 1000000 = false) : okRw r n = false := by rw [okRw,h];simp
theorem okRw_t {r : Rw} {n : Int} (h : ¬ r.txt.length ≤ 12) : okRw r n = false := by rw [okRw,decide_eq_false h];simp
theorem okRw_g {r : Rw} {n : Int} (h : smB r.got n = false) : okRw r n = false := by rw [okRw,h];simp
theorem okRw_s {r : Rw} {n : Int} (h : susB r.sus n = false) : okRw r n = false := by rw [okRw,h];simp
theorem okRw_x {r : Rw} {n : Int} {k : Nat} (hk : k < r.txt.length) (h : ¬ (r.txt.getD k []).length ≤ 20) : okRw r n = false := by
 have : r.txt.all (fun t => decide (t.length ≤ 20)) = false := by
  rw [List.all_eq_false]
  refine ⟨r.txt[k],List.getElem_mem hk, ?_⟩
  rw [List.getD_eq_getElem?_getD,List.getElem?_eq_getElem hk] at h
  simpa using h
 rw [okRw,this]
 simp
def endB (r : Rw) (n : Int) : Bool := if r.rdy then r.wed && (inB r.by_ 0 (n - 1) && smB r.trm n) else decide (r.by_ = 0) && decide (r.trm = [])
theorem okRw_end {r : Rw} {n : Int} (h1 : inB n 1 5 = true) (h2 : inB r.ver 0 1000000 = true) (h3 : r.txt.length ≤ 12) (h4 : smB r.got n = true) (h5 : susB r.sus n = true) (h6 : ∀ k,k < r.txt.length → (r.txt.getD k []).length ≤ 20) : okRw r n = endB r n := by
 have : r.txt.all (fun t => decide (t.length ≤ 20)) = true := by
  rw [List.all_eq_true]
  intro t ht
  obtain ⟨j,hj,rfl⟩ := List.mem_iff_getElem.1 ht
  have := h6 j hj
  rw [List.getD_eq_getElem?_getD,List.getElem?_eq_getElem hj] at this
  simpa using this
 rw [okRw,h1,h2,decide_eq_true h3,h4,h5,this]
 rfl
attribute [local irreducible] sv
set_option maxRecDepth 100000 in
set_option maxHeartbeats 3200000 in
theorem rowS_any (A : Ra) (r : Rw) (n : Int) (w : World) (hv : RwS w A r) :
  Calls Try.prog 36 #[rwV A r,.int .i64 n] w fun e w' => e = .returned (.bool (okRw r n)) ∧ Below w.heap.size w w' := by
 have hB0 := oneA16 w (.cells (rwC A r) 35)
 have hx := Bx.new w 35 (rwC A r)
 have h0 := hv.below hB0
 generalize hW : w.alloc (.cells (rwC A r) 35) = W at *
 have hsz : w.heap.size < W.heap.size := hx.lt
 obtain ⟨ver,txt,got,sus,wed,rdy,by_,trm⟩ := r
 obtain ⟨ta,tc,ga,gc,sa,sc,ma,mc⟩ := A
 have hw0 : w.alloc (.cells #[.int .i64 ver,.slice ta txt.length tc,.slice ga got.length gc,.slice sa sus.length sc,.bool wed,.bool rdy,.int .i64 by_,.slice ma trm.length mc] 35) = W := hW
 obtain ⟨⟨c0,c1,c2,c3⟩,c4,c5,c6,c7⟩ := Bx.r8 hx
 have HX : Hid (Bx W w.heap.size 35 #[.int .i64 ver,.slice ta txt.length tc,.slice ga got.length gc,.slice sa sus.length sc,.bool wed,.bool rdy,.int .i64 by_,.slice ma trm.length mc]) := hx
 obtain ⟨htx,hgo,hsu,htr,mt,mg,ms,mm⟩ := h0
 simp only at htx hgo hsu htr mt mg ms mm c0 c1 c2 c3 c4 c5 c6 c7
 have HB0 : Hid (Below w.heap.size w W) := hB0
 unfold rwV rwC
 clear hv hx hW hB0
 have hVo := specOk_any ga got.length gc got W hgo mg
 simp only
 cases e1 : inB n 1 5 with
 | false =>
  have HZ : Hid (okRw ⟨ver,txt,got,sus,wed,rdy,by_,trm⟩ n = false) := okRw_n e1
  go_enter Try.func36,Try.ntmps36
  go_wp2_with (first | (go_at_call 73;refine (l1In_any _ _ _ _).mono ?_;rintro e w' ⟨rfl,hw'⟩;rw [hw'];clear hw'))
  go_ret
  exact ⟨ret_bool (by rw [HZ.out]),HB0.out⟩
 | true =>
 have hn5 := inB7.1 e1
 have hSu := susS_any sa sc sus n W hsu ms (by omega)
 have HN1 : Hid (inB n 1 5 = true) := e1
 cases e2 : inB ver 0 1000000 with
 | false =>
  have HZ : Hid (okRw ⟨ver,txt,got,sus,wed,rdy,by_,trm⟩ n = false) := okRw_v e2
  go_enter Try.func36,Try.ntmps36
  go_wp2_with (first | (go_at_call 73;refine (l1In_any _ _ _ _).mono ?_;rintro e w' ⟨rfl,hw'⟩;rw [hw'];clear hw'))
  go_ret
  exact ⟨ret_bool (by rw [HZ.out]),HB0.out⟩
 | true =>
 have HN2 : Hid (inB ver 0 1000000 = true) := e2
 by_cases h12 : txt.length ≤ 12
 rotate_left
 ·have g12 : (12 : Int) < (txt.length : Int) := by omega
  have HZ : Hid (okRw ⟨ver,txt,got,sus,wed,rdy,by_,trm⟩ n = false) := okRw_t h12
  go_enter Try.func36,Try.ntmps36
  go_wp2_with (first | (go_at_call 73;refine (l1In_any _ _ _ _).mono ?_;rintro e w' ⟨rfl,hw'⟩;rw [hw'];clear hw'))
  go_ret
  exact ⟨ret_bool (by rw [HZ.out]),HB0.out⟩
 have g12 : ¬ ((12 : Int) < (txt.length : Int)) := by omega
 cases e4 : okB got with
 | false =>
  rw [e4] at hVo
  have HZ : Hid (okRw ⟨ver,txt,got,sus,wed,rdy,by_,trm⟩ n = false) := okRw_g (by simp [smB,e4])
  go_enter Try.func36,Try.ntmps36
  go_wp2_with (first | (go_at_call 73;refine (l1In_any _ _ _ _).mono ?_;rintro e w' ⟨rfl,hw'⟩;rw [hw'];clear hw') | (go_at_call 25;refine hVo.mono ?_;rintro e w' ⟨rfl,hw'⟩;rw [hw'];clear hw'))
  go_ret
  exact ⟨ret_bool (by rw [HZ.out]),HB0.out⟩
 | true =>
 rw [e4] at hVo
 by_cases h5 : (got.length : Int) = n
 rotate_left
 ·have g5 : ((got.length : Int) != n) = true := by simpa using h5
  have HZ : Hid (okRw ⟨ver,txt,got,sus,wed,rdy,by_,trm⟩ n = false) := okRw_g (by simp [smB,h5])
  go_enter Try.func36,Try.ntmps36
  go_wp2_with (first | (go_at_call 73;refine (l1In_any _ _ _ _).mono ?_;rintro e w' ⟨rfl,hw'⟩;rw [hw'];clear hw') | (go_at_call 25;refine hVo.mono ?_;rintro e w' ⟨rfl,hw'⟩;rw [hw'];clear hw'))
  go_ret
  exact ⟨ret_bool (by rw [HZ.out]),HB0.out⟩
 have g5 : ((got.length : Int) != n) = false := by simpa using h5
 have HSM : Hid ((∀ k,k < got.length → el got k ≤ 12) → smB got n = true) := fun h => smB_parts e4 h5 h
 have HG5 : Hid ((got.length : Int) = n) := h5
 clear h5 e4
 cases e6 : susB sus n with
 | false =>
  rw [e6] at hSu
  have HZ : Hid (okRw ⟨ver,txt,got,sus,wed,rdy,by_,trm⟩ n = false) := okRw_s e6
  go_enter Try.func36,Try.ntmps36
  go_wp2_with (first | (go_at_call 73;refine (l1In_any _ _ _ _).mono ?_;rintro e w' ⟨rfl,hw'⟩;rw [hw'];clear hw') | (go_at_call 25;refine hVo.mono ?_;rintro e w' ⟨rfl,hw'⟩;rw [hw'];clear hw') | (go_at_call 81;refine hSu.mono ?_;rintro e w2 ⟨rfl,hb2⟩;obtain ⟨⟨d0,d1,d2,d3⟩,d4,d5,d6,d7⟩ := Bx.r8 (HX.out.below hb2)))
  go_ret
  exact ⟨ret_bool (by rw [HZ.out]),HB0.out.trans (hb2.mono HB0.out.size)⟩
 | true =>
 rw [e6] at hSu
 have HN6 : Hid (susB sus n = true) := e6
 clear e6
 have HTX : Hid (TxS W ta txt) := htx
 have HGO : Hid (Vec W ga got.length got) := hgo
 have HTR : Hid (Vec W ma trm.length trm) := htr
 clear htx hgo hsu htr
 go_enter Try.func36,Try.ntmps36
 go_wp2_with (first | (go_at_call 73;refine (l1In_any _ _ _ _).mono ?_;rintro e w' ⟨rfl,hw'⟩;rw [hw'];clear hw') | (go_at_call 25;refine hVo.mono ?_;rintro e w' ⟨rfl,hw'⟩;rw [hw'];clear hw') | (go_at_call 81;refine hSu.mono ?_;rintro e w2 ⟨rfl,hb2⟩;obtain ⟨⟨d0,d1,d2,d3⟩,d4,d5,d6,d7⟩ := Bx.r8 (HX.out.below hb2)))
 have HB2 : Hid (Below w.heap.size w w2) := HB0.out.trans (hb2.mono HB0.out.size)
 have HT2 : Hid (TxS w2 ta txt) := HTX.out.below hb2
 have HG2 : Hid (Vec w2 ga got.length got) := HGO.out.below hb2 (Nat.le_refl _)
 have hTr := trmS16_any ma mc trm n w2 (HTR.out.below hb2 (Nat.le_refl _)) mm
 unfold maxLen at mt mg ms mm
 clear hVo hSu hb2 c0 c1 c2 c3 c4 c5 c6 c7 hw0 g5 e1 e2 HTX HGO HTR
 go_loop [5] (fun i => ∃ k : Nat,k ≤ txt.length ∧ i = .int .i64 k ∧ ∀ j,j < k → (txt.getD j []).length ≤ 20) (fun i => txt.length - (intOf i).toNat)
 case atStart => exact ⟨0,Nat.zero_le _,rfl,fun j hj => by omega⟩
 case round =>
  obtain ⟨k,hk,rfl,hall⟩ := hrel
  have HA : Hid (∀ j,j < k → (txt.getD j []).length ≤ 20) := hall
  clear hall
  by_cases hlt : k < txt.length
  ·rcases HT2.out with h0 | ⟨b,off,rfl,hc⟩
   ·omega
   have hck := hc k hlt
   have k1 : (k : Int) < (txt.length : Int) := by omega
   have k0 : (0 : Int) ≤ (k : Int) := by omega
   clear hc
   have hszt := sv_size (txt.getD k [])
   by_cases h20 : (txt.getD k []).length ≤ 20
   ·have g20 : ¬ ((20 : Int) < ((txt.getD k []).length : Int)) := by omega
    have HN : Hid (∀ j,j < k + 1 → (txt.getD j []).length ≤ 20) := fun j hj => by
     rcases Nat.lt_succ_iff_lt_or_eq.1 hj with h1 | h1
     ·exact HA.out j h1
     ·rw [h1];exact h20
    generalize txt.getD k [] = t at *
    clear h20
    go_wp2
    go_round
    case rel => exact ⟨k + 1,by omega,by go_num,HN.out⟩
    case measure => simp [intOf];omega
   ·have g20 : (20 : Int) < ((txt.getD k []).length : Int) := by omega
    have HZ : Hid (okRw ⟨ver,txt,got,sus,wed,rdy,by_,trm⟩ n = false) := okRw_x (k := k) hlt h20
    generalize txt.getD k [] = t at *
    clear h20
    go_wp2
    go_ret
    exact ⟨ret_bool (by rw [HZ.out]),HB2.out⟩
  ·have k1 : ¬ ((k : Int) < (txt.length : Int)) := by omega
   have HAll : Hid (∀ j,j < txt.length → (txt.getD j []).length ≤ 20) := fun j hj => HA.out j (by omega)
   clear HA HT2
   go_wp2
   go_loop [6] (fun i => ∃ m : Nat,m ≤ got.length ∧ i = .int .i64 m ∧ ∀ j,j < m → el got j ≤ 12) (fun i => got.length - (intOf i).toNat)
   case atStart => exact ⟨0,Nat.zero_le _,rfl,fun j hj => by omega⟩
   case round =>
    obtain ⟨m,hm,rfl,hall⟩ := hrel
    have HA : Hid (∀ j,j < m → el got j ≤ 12) := hall
    clear hall
    by_cases hlt2 : m < got.length
    ·rcases HG2.out.2.2 with h0 | ⟨b,off,rfl,hc⟩
     ·omega
     have hck := hc m hlt2
     have k1 : (m : Int) < (got.length : Int) := by omega
     have k0 : (0 : Int) ≤ (m : Int) := by omega
     clear hc
     by_cases h12' : el got m ≤ 12
     ·have g12' : ¬ (12 < el got m) := by omega
      have HN : Hid (∀ j,j < m + 1 → el got j ≤ 12) := fun j hj => by
       rcases Nat.lt_succ_iff_lt_or_eq.1 hj with h1 | h1
       ·exact HA.out j h1
       ·rw [h1];exact h12'
      generalize el got m = x at *
      clear h12'
      go_wp2
      go_round
      case rel => exact ⟨m + 1,by omega,by go_num,HN.out⟩
      case measure => simp [intOf];omega
     ·have g12' : 12 < el got m := by omega
      have HZ : Hid (okRw ⟨ver,txt,got,sus,wed,rdy,by_,trm⟩ n = false) := okRw_g (smB_not (v := got) hlt2 h12')
      generalize el got m = x at *
      clear h12'
      go_wp2
      go_ret
      exact ⟨ret_bool (by rw [HZ.out]),HB2.out⟩
    ·have k1 : ¬ ((m : Int) < (got.length : Int)) := by omega
     have HE : Hid (okRw ⟨ver,txt,got,sus,wed,rdy,by_,trm⟩ n = endB ⟨ver,txt,got,sus,wed,rdy,by_,trm⟩ n) := okRw_end HN1.out HN2.out h12 (HSM.out (fun j hj => HA.out j (by omega))) HN6.out HAll.out
     clear HA HG2 HAll
     have hwn : wrap64 (n - 1) = n - 1 := by unfold wrap64;omega
     cases rdy with
     | true =>
      cases wed with
      | false =>
       have HZ : Hid (okRw ⟨ver,txt,got,sus,false,true,by_,trm⟩ n = false) := by rw [Hid,HE.out];rfl
       go_wp2
       go_ret
       exact ⟨ret_bool (by rw [HZ.out]),HB2.out⟩
      | true =>
       cases e7 : inB by_ 0 (n - 1) with
       | false =>
        have HZ : Hid (okRw ⟨ver,txt,got,sus,true,true,by_,trm⟩ n = false) := by rw [Hid,HE.out,endB];simp [e7]
        go_wp2_with (first | (go_at_call 73;refine (l1In_any _ _ _ _).mono ?_;rintro e w' ⟨rfl,hw'⟩;rw [hw'];clear hw'))
        go_ret
        exact ⟨ret_bool (by rw [HZ.out]),HB2.out⟩
       | true =>
        have HZ : Hid (okRw ⟨ver,txt,got,sus,true,true,by_,trm⟩ n = smB trm n) := by rw [Hid,HE.out,endB];simp [e7]
        generalize smB trm n = Q at *
        go_wp2_with (first | (go_at_call 73;refine (l1In_any _ _ _ _).mono ?_;rintro e w' ⟨rfl,hw'⟩;rw [hw'];clear hw') | (go_at_call 82;refine hTr.mono ?_;rintro e w' ⟨rfl,hw'⟩;rw [hw'];clear hw'))
        go_ret
        exact ⟨ret_bool (by rw [HZ.out]),HB2.out⟩
     | false =>
      have HZ : Hid (okRw ⟨ver,txt,got,sus,wed,false,by_,trm⟩ n = (decide (by_ = 0) && decide (trm = []))) := by rw [Hid,HE.out];rfl
      by_cases h7 : by_ = 0
      ·have g7 : (by_ == 0) = true := by simpa using h7
       have HZ2 : Hid (okRw ⟨ver,txt,got,sus,wed,false,by_,trm⟩ n = decide (trm = [])) := by rw [Hid,HZ.out,decide_eq_true h7];rfl
       by_cases h8 : trm = []
       ·have g8 : ((trm.length : Int) == 0) = true := by rw [h8];rfl
        have HZ3 : Hid (okRw ⟨ver,txt,got,sus,wed,false,by_,trm⟩ n = true) := by rw [Hid,HZ2.out,decide_eq_true h8]
        clear h7 h8
        go_wp2
        go_ret
        exact ⟨ret_bool (by rw [HZ3.out]),HB2.out⟩
       ·have g8 : ((trm.length : Int) == 0) = false := by
         have := List.length_pos_iff.2 h8
         simp;omega
        have HZ3 : Hid (okRw ⟨ver,txt,got,sus,wed,false,by_,trm⟩ n = false) := by rw [Hid,HZ2.out,decide_eq_false h8]
        clear h7 h8
        go_wp2
        go_ret
        exact ⟨ret_bool (by rw [HZ3.out]),HB2.out⟩
      ·have g7 : (by_ == 0) = false := by simpa using h7
       have HZ3 : Hid (okRw ⟨ver,txt,got,sus,wed,false,by_,trm⟩ n = false) := by rw [Hid,HZ.out,decide_eq_false h7];rfl
       clear h7
       go_wp2
       go_ret
       exact ⟨ret_bool (by rw [HZ3.out]),HB2.out⟩
end Go.Proofs.Ytlnmdfgcpfbleaa
namespace Go.Proofs.Ytlnmdfgcpfbleaa
set_option linter.unusedVariables false
set_option linter.unusedSimpArgs false
open Go.RowKit Go.Sort
theorem all_miss16 {l o : List Int} {k : Nat} (hk : k < o.length) (h : el o k ∉ l) : o.all (fun x => decide (x ∈ l)) = false := by
 rw [List.all_eq_false]
 exact ⟨el o k,el_mem hk,by simpa using h⟩
theorem all_hit16 {l o : List Int} (h : ∀ k,k < o.length → el o k ∈ l) : o.all (fun x => decide (x ∈ l)) = true := by
 rw [List.all_eq_true]
 intro x hx
 obtain ⟨j,hj,rfl⟩ := List.mem_iff_getElem.1 hx
 have := h j hj
 simpa [el,hj] using this
set_option maxRecDepth 100000 in
set_option maxHeartbeats 1600000 in
theorem allS_any (a b : Option Addr) (c d : Nat) (l o : List Int) (w : World) (hv : Vec w a l.length l) (hu : Vec w b o.length o) (hm : l.length ≤ maxLen) (hm2 : o.length ≤ maxLen) :
  Calls Try.prog 80 #[.slice a l.length c,.slice b o.length d] w fun e w' => e = .returned (.bool (o.all (fun x => decide (x ∈ l)))) ∧ w' = w := by
 have hH := fun x => l1Has_any a l.length c x l w hv hm
 have HU : Hid (Vec w b o.length o) := hu
 unfold maxLen at hm hm2
 clear hu hv
 go_enter Try.func80,Try.ntmps80
 go_wp2
 go_loop [5] (fun i => ∃ k : Nat,k ≤ o.length ∧ i = .int .i64 k ∧ ∀ j,j < k → el o j ∈ l) (fun i => o.length - (intOf i).toNat)
 case atStart => exact ⟨0,Nat.zero_le _,rfl,fun j hj => by omega⟩
 case round =>
  obtain ⟨k,hk,rfl,hall⟩ := hrel
  have HA : Hid (∀ j,j < k → el o j ∈ l) := hall
  clear hall
  by_cases hlt : k < o.length
  ·rcases HU.out.2.2 with h0 | ⟨b',off,rfl,hc⟩
   ·omega
   have hck := hc k hlt
   have k1 : (k : Int) < (o.length : Int) := by omega
   have k0 : (0 : Int) ≤ (k : Int) := by omega
   have hI := hH (el o k)
   clear hc hH
   by_cases hb : el o k ∈ l
   ·rw [decide_eq_true hb] at hI
    have HN : Hid (∀ j,j < k + 1 → el o j ∈ l) := fun j hj => by
     rcases Nat.lt_succ_iff_lt_or_eq.1 hj with h1 | h1
     ·exact HA.out j h1
     ·rw [h1];exact hb
    generalize el o k = x at *
    clear hb
    go_wp2_with (go_at_call 120;refine hI.mono ?_;rintro e w' ⟨rfl,hw'⟩;rw [hw'];clear hw')
    go_round
    case rel => exact ⟨k + 1,by omega,by go_num,HN.out⟩
    case measure => simp [intOf];omega
   ·rw [decide_eq_false hb] at hI
    have HZ : Hid (o.all (fun x => decide (x ∈ l)) = false) := all_miss16 hlt hb
    generalize el o k = x at *
    clear hb
    go_wp2_with (go_at_call 120;refine hI.mono ?_;rintro e w' ⟨rfl,hw'⟩;rw [hw'];clear hw')
    go_ret
    exact ⟨ret_bool (by rw [HZ.out]),rfl⟩
  ·have k1 : ¬ ((k : Int) < (o.length : Int)) := by omega
   have HZ : Hid (o.all (fun x => decide (x ∈ l)) = true) := all_hit16 (fun j hj => HA.out j (by omega))
   go_wp2
   go_ret
   exact ⟨ret_bool (by rw [HZ.out]),rfl⟩
theorem fol_1 {r s : Rw} {n : Int} (h : okRw r n = false) : folB r s n = false := by rw [folB,h];rfl
theorem fol_2 {r s : Rw} {n : Int} (h : okRw s n = false) : folB r s n = false := by rw [folB,h];simp
theorem fol_3 {r s : Rw} {n : Int} (h : ¬ r.ver ≤ s.ver) : folB r s n = false := by rw [folB,decide_eq_false h];simp
theorem fol_4 {r s : Rw} {n : Int} (h : ¬ r.txt.length ≤ s.txt.length) : folB r s n = false := by rw [folB,decide_eq_false h];simp
theorem fol_5 {r s : Rw} {n : Int} (h : underB r.got s.got = false) : folB r s n = false := by rw [folB,h];simp
theorem fol_6 {r s : Rw} {n : Int} (h : r.sus.all (fun x => decide (x ∈ s.sus)) = false) : folB r s n = false := by rw [folB,h];simp
theorem fol_7 {r s : Rw} {n : Int} {k : Nat} (hk : k < r.txt.length) (hl : r.txt.length ≤ s.txt.length) (h : r.txt.getD k [] ≠ s.txt.getD k []) : folB r s n = false := by
 have : s.txt.take r.txt.length ≠ r.txt := fun e => h (by
  have e2 := congrArg (fun l : List (List UInt8) => l.getD k []) e
  simp only [List.getD_eq_getElem?_getD,List.getElem?_take,hk,if_true] at e2 ⊢
  exact e2.symm)
 rw [folB,decide_eq_false this]
 simp
theorem take_same16 {a b : List (List UInt8)} (hl : a.length ≤ b.length) (h : ∀ k,k < a.length → a.getD k [] = b.getD k []) : b.take a.length = a := by
 apply List.ext_getElem
 ·rw [List.length_take];omega
 ·intro i h1 h2
  have := h i h2
  rw [List.getD_eq_getElem?_getD,List.getD_eq_getElem?_getD,List.getElem?_eq_getElem h2,List.getElem?_eq_getElem (by omega)] at this
  rw [List.getElem_take]
  simpa using this.symm
def endF (r s : Rw) : Bool := (!r.wed || s.wed) && (!r.rdy || (s.rdy && decide (r.by_ ≤ s.by_)))
theorem fol_end {r s : Rw} {n : Int} (h1 : okRw r n = true) (h2 : okRw s n = true) (h3 : r.ver ≤ s.ver) (h4 : r.txt.length ≤ s.txt.length) (h5 : underB r.got s.got = true) (h6 : r.sus.all (fun x => decide (x ∈ s.sus)) = true) (h7 : ∀ k,k < r.txt.length → r.txt.getD k [] = s.txt.getD k []) : folB r s n = endF r s := by
 rw [folB,h1,h2,decide_eq_true h3,decide_eq_true h4,h5,h6,decide_eq_true (take_same16 h4 h7)]
 rfl
attribute [local irreducible] sv
set_option maxRecDepth 100000 in
set_option maxHeartbeats 6400000 in
theorem folS_any (A B : Ra) (r s : Rw) (n : Int) (w : World) (hv : RwS w A r) (hu : RwS w B s) :
  Calls Try.prog 32 #[rwV A r,rwV B s,.int .i64 n] w fun e w' => e = .returned (.bool (folB r s n)) ∧ Below w.heap.size w w' := by
 have hB0 : Below w.heap.size w ((w.alloc (.cells (rwC A r) 35)).alloc (.cells (rwC B s) 35)) := (oneA16 w _).trans ((oneA16 _ _).mono (oneA16 w _).size)
 have hx : Bx ((w.alloc (.cells (rwC A r) 35)).alloc (.cells (rwC B s) 35)) w.heap.size 35 (rwC A r) := (Bx.new w _ _).alloc _
 have hy : Bx ((w.alloc (.cells (rwC A r) 35)).alloc (.cells (rwC B s) 35)) (w.heap.size + 1) 35 (rwC B s) := by
  have := Bx.new (w.alloc (.cells (rwC A r) 35)) 35 (rwC B s)
  simpa using this
 have h0 := hv.below hB0
 have g0 := hu.below hB0
 obtain ⟨pv,pt,pg,ps,pw,pd,py,pm⟩ := r
 obtain ⟨qv,qt,qg,qs,qw,qd,qy,qm⟩ := s
 obtain ⟨pA,pa,pB,pb,pC,pc,pD,pe⟩ := A
 obtain ⟨qA,qa,qB,qb,qC,qc,qD,qe⟩ := B
 have hWe : ∃ W,((w.alloc (.cells #[.int .i64 pv,.slice pA pt.length pa,.slice pB pg.length pb,.slice pC ps.length pc,.bool pw,.bool pd,.int .i64 py,.slice pD pm.length pe] 35)).alloc (.cells #[.int .i64 qv,.slice qA qt.length qa,.slice qB qg.length qb,.slice qC qs.length qc,.bool qw,.bool qd,.int .i64 qy,.slice qD qm.length qe] 35)) = W := ⟨_,rfl⟩
 obtain ⟨W,hW⟩ := hWe
 have hx' : Bx W w.heap.size 35 #[.int .i64 pv,.slice pA pt.length pa,.slice pB pg.length pb,.slice pC ps.length pc,.bool pw,.bool pd,.int .i64 py,.slice pD pm.length pe] := hW ▸ hx
 have hy' : Bx W (w.heap.size + 1) 35 #[.int .i64 qv,.slice qA qt.length qa,.slice qB qg.length qb,.slice qC qs.length qc,.bool qw,.bool qd,.int .i64 qy,.slice qD qm.length qe] := hW ▸ hy
 have hB0' : Below w.heap.size w W := hW ▸ hB0
 have h0' : RwS W ⟨pA,pa,pB,pb,pC,pc,pD,pe⟩ ⟨pv,pt,pg,ps,pw,pd,py,pm⟩ := hW ▸ h0
 have g0' : RwS W ⟨qA,qa,qB,qb,qC,qc,qD,qe⟩ ⟨qv,qt,qg,qs,qw,qd,qy,qm⟩ := hW ▸ g0
 have HX : Hid (∀ X,Below W.heap.size W X → Bx X w.heap.size 35 #[.int .i64 pv,.slice pA pt.length pa,.slice pB pg.length pb,.slice pC ps.length pc,.bool pw,.bool pd,.int .i64 py,.slice pD pm.length pe] ∧ Bx X (w.heap.size + 1) 35 #[.int .i64 qv,.slice qA qt.length qa,.slice qB qg.length qb,.slice qC qs.length qc,.bool qw,.bool qd,.int .i64 qy,.slice qD qm.length qe]) := fun X h => ⟨hx'.below h,hy'.below h⟩
 have HBW : Hid (∀ X,Below W.heap.size W X → Below w.heap.size w X) := fun X h => hB0'.trans (h.mono hB0'.size)
 have HP : Hid (∀ X,Below W.heap.size W X → RwS X ⟨pA,pa,pB,pb,pC,pc,pD,pe⟩ ⟨pv,pt,pg,ps,pw,pd,py,pm⟩) := fun X h => h0'.below h
 have HQ : Hid (∀ X,Below W.heap.size W X → RwS X ⟨qA,qa,qB,qb,qC,qc,qD,qe⟩ ⟨qv,qt,qg,qs,qw,qd,qy,qm⟩) := fun X h => g0'.below h
 have mtp := h0'.mt
 have mtq := g0'.mt
 unfold maxLen at mtp mtq
 simp only at mtp mtq
 have hR1 : Calls Try.prog 36 #[.agg #[.int .i64 pv,.slice pA pt.length pa,.slice pB pg.length pb,.slice pC ps.length pc,.bool pw,.bool pd,.int .i64 py,.slice pD pm.length pe],.int .i64 n] W fun e w' => e = .returned (.bool (okRw (⟨pv,pt,pg,ps,pw,pd,py,pm⟩ : Rw) n)) ∧ Below W.heap.size W w' := rowS_any ⟨pA,pa,pB,pb,pC,pc,pD,pe⟩ ⟨pv,pt,pg,ps,pw,pd,py,pm⟩ n W h0'
 have hR2f : ∀ X,Below W.heap.size W X → Calls Try.prog 36 #[.agg #[.int .i64 qv,.slice qA qt.length qa,.slice qB qg.length qb,.slice qC qs.length qc,.bool qw,.bool qd,.int .i64 qy,.slice qD qm.length qe],.int .i64 n] X fun e w' => e = .returned (.bool (okRw (⟨qv,qt,qg,qs,qw,qd,qy,qm⟩ : Rw) n)) ∧ Below X.heap.size X w' := fun X h => rowS_any ⟨qA,qa,qB,qb,qC,qc,qD,qe⟩ ⟨qv,qt,qg,qs,qw,qd,qy,qm⟩ n X (HQ.out X h)
 have hUf : ∀ X,Below W.heap.size W X → Calls Try.prog 19 #[.slice pB pg.length pb,.slice qB qg.length qb] X fun e w' => e = .returned (.bool (underB pg qg)) ∧ ∃ q,w' = X.drewN q := fun X h => specUnder_any pB qB pg.length pb qg.length qb pg qg X (HP.out X h).got (HQ.out X h).got (HP.out X h).mg (HQ.out X h).mg
 have hAf : ∀ X,Below W.heap.size W X → Calls Try.prog 80 #[.slice qC qs.length qc,.slice pC ps.length pc] X fun e w' => e = .returned (.bool (ps.all (fun x => decide (x ∈ qs)))) ∧ w' = X := fun X h => allS_any qC pC qc pc qs ps X (HQ.out X h).sus (HP.out X h).sus (HQ.out X h).ms (HP.out X h).ms
 have B0 : Below W.heap.size W W := Below.refl _ _
 obtain ⟨⟨c0,c1,c2,c3⟩,c4,c5,c6,c7⟩ := Bx.r8 hx'
 obtain ⟨⟨d0,d1,d2,d3⟩,d4,d5,d6,d7⟩ := Bx.r8 hy'
 unfold rwV rwC
 simp only
 clear hv hu hx hy hx' hy' h0 g0 h0' g0' hB0 hB0'
 cases e1 : okRw (⟨pv,pt,pg,ps,pw,pd,py,pm⟩ : Rw) n with
 | false =>
  rw [e1] at hR1
  have HZ : Hid (folB (⟨pv,pt,pg,ps,pw,pd,py,pm⟩ : Rw) (⟨qv,qt,qg,qs,qw,qd,qy,qm⟩ : Rw) n = false) := fol_1 e1
  go_enter Try.func32,Try.ntmps32
  go_wp2_with (first | (go_at_call 36;refine hR1.mono ?_;rintro e w1 ⟨rfl,hb1⟩;clear c0 c1 c2 c3 c4 c5 c6 c7 d0 d1 d2 d3 d4 d5 d6 d7;obtain ⟨⟨c0,c1,c2,c3⟩,c4,c5,c6,c7⟩ := Bx.r8 (HX.out w1 hb1).1;obtain ⟨⟨d0,d1,d2,d3⟩,d4,d5,d6,d7⟩ := Bx.r8 (HX.out w1 hb1).2;have hR2 := hR2f w1 hb1))
  go_ret
  exact ⟨ret_bool (by rw [HZ.out]),HBW.out _ hb1⟩
 | true =>
 rw [e1] at hR1
 have E1 : Hid (okRw (⟨pv,pt,pg,ps,pw,pd,py,pm⟩ : Rw) n = true) := e1
 clear e1
 cases e2 : okRw (⟨qv,qt,qg,qs,qw,qd,qy,qm⟩ : Rw) n with
 | false =>
  rw [e2] at hR2f
  have HZ : Hid (folB (⟨pv,pt,pg,ps,pw,pd,py,pm⟩ : Rw) (⟨qv,qt,qg,qs,qw,qd,qy,qm⟩ : Rw) n = false) := fol_2 e2
  go_enter Try.func32,Try.ntmps32
  go_wp2_with (first | (go_at_call 36;refine hR2.mono ?_;rintro e w2 ⟨rfl,hb2⟩;have hB2 : Below W.heap.size W w2 := hb1.trans (hb2.mono hb1.size);clear c0 c1 c2 c3 c4 c5 c6 c7 d0 d1 d2 d3 d4 d5 d6 d7;obtain ⟨⟨c0,c1,c2,c3⟩,c4,c5,c6,c7⟩ := Bx.r8 (HX.out w2 hB2).1;obtain ⟨⟨d0,d1,d2,d3⟩,d4,d5,d6,d7⟩ := Bx.r8 (HX.out w2 hB2).2;have hU := hUf w2 hB2) | (go_at_call 36;refine hR1.mono ?_;rintro e w1 ⟨rfl,hb1⟩;clear c0 c1 c2 c3 c4 c5 c6 c7 d0 d1 d2 d3 d4 d5 d6 d7;obtain ⟨⟨c0,c1,c2,c3⟩,c4,c5,c6,c7⟩ := Bx.r8 (HX.out w1 hb1).1;obtain ⟨⟨d0,d1,d2,d3⟩,d4,d5,d6,d7⟩ := Bx.r8 (HX.out w1 hb1).2;have hR2 := hR2f w1 hb1))
  go_ret
  exact ⟨ret_bool (by rw [HZ.out]),HBW.out _ hB2⟩
 | true =>
 rw [e2] at hR2f
 have E2 : Hid (okRw (⟨qv,qt,qg,qs,qw,qd,qy,qm⟩ : Rw) n = true) := e2
 clear e2
 by_cases h3 : pv ≤ qv
 rotate_left
 ·have g3 : qv < pv := by omega
  have HZ : Hid (folB (⟨pv,pt,pg,ps,pw,pd,py,pm⟩ : Rw) (⟨qv,qt,qg,qs,qw,qd,qy,qm⟩ : Rw) n = false) := fol_3 (r := ⟨pv,pt,pg,ps,pw,pd,py,pm⟩) (s := ⟨qv,qt,qg,qs,qw,qd,qy,qm⟩) h3
  go_enter Try.func32,Try.ntmps32
  go_wp2_with (first | (go_at_call 36;refine hR2.mono ?_;rintro e w2 ⟨rfl,hb2⟩;have hB2 : Below W.heap.size W w2 := hb1.trans (hb2.mono hb1.size);clear c0 c1 c2 c3 c4 c5 c6 c7 d0 d1 d2 d3 d4 d5 d6 d7;obtain ⟨⟨c0,c1,c2,c3⟩,c4,c5,c6,c7⟩ := Bx.r8 (HX.out w2 hB2).1;obtain ⟨⟨d0,d1,d2,d3⟩,d4,d5,d6,d7⟩ := Bx.r8 (HX.out w2 hB2).2;have hU := hUf w2 hB2) | (go_at_call 36;refine hR1.mono ?_;rintro e w1 ⟨rfl,hb1⟩;clear c0 c1 c2 c3 c4 c5 c6 c7 d0 d1 d2 d3 d4 d5 d6 d7;obtain ⟨⟨c0,c1,c2,c3⟩,c4,c5,c6,c7⟩ := Bx.r8 (HX.out w1 hb1).1;obtain ⟨⟨d0,d1,d2,d3⟩,d4,d5,d6,d7⟩ := Bx.r8 (HX.out w1 hb1).2;have hR2 := hR2f w1 hb1))
  go_ret
  exact ⟨ret_bool (by rw [HZ.out]),HBW.out _ hB2⟩
 have g3 : ¬ (qv < pv) := by omega
 by_cases h4 : pt.length ≤ qt.length
 rotate_left
 ·have g4 : (qt.length : Int) < (pt.length : Int) := by omega
  have HZ : Hid (folB (⟨pv,pt,pg,ps,pw,pd,py,pm⟩ : Rw) (⟨qv,qt,qg,qs,qw,qd,qy,qm⟩ : Rw) n = false) := fol_4 (r := ⟨pv,pt,pg,ps,pw,pd,py,pm⟩) (s := ⟨qv,qt,qg,qs,qw,qd,qy,qm⟩) h4
  go_enter Try.func32,Try.ntmps32
  go_wp2_with (first | (go_at_call 36;refine hR2.mono ?_;rintro e w2 ⟨rfl,hb2⟩;have hB2 : Below W.heap.size W w2 := hb1.trans (hb2.mono hb1.size);clear c0 c1 c2 c3 c4 c5 c6 c7 d0 d1 d2 d3 d4 d5 d6 d7;obtain ⟨⟨c0,c1,c2,c3⟩,c4,c5,c6,c7⟩ := Bx.r8 (HX.out w2 hB2).1;obtain ⟨⟨d0,d1,d2,d3⟩,d4,d5,d6,d7⟩ := Bx.r8 (HX.out w2 hB2).2;have hU := hUf w2 hB2) | (go_at_call 36;refine hR1.mono ?_;rintro e w1 ⟨rfl,hb1⟩;clear c0 c1 c2 c3 c4 c5 c6 c7 d0 d1 d2 d3 d4 d5 d6 d7;obtain ⟨⟨c0,c1,c2,c3⟩,c4,c5,c6,c7⟩ := Bx.r8 (HX.out w1 hb1).1;obtain ⟨⟨d0,d1,d2,d3⟩,d4,d5,d6,d7⟩ := Bx.r8 (HX.out w1 hb1).2;have hR2 := hR2f w1 hb1))
  go_ret
  exact ⟨ret_bool (by rw [HZ.out]),HBW.out _ hB2⟩
 have g4 : ¬ ((qt.length : Int) < (pt.length : Int)) := by omega
 cases e5 : underB pg qg with
 | false =>
  rw [e5] at hUf
  have HZ : Hid (folB (⟨pv,pt,pg,ps,pw,pd,py,pm⟩ : Rw) (⟨qv,qt,qg,qs,qw,qd,qy,qm⟩ : Rw) n = false) := fol_5 (r := ⟨pv,pt,pg,ps,pw,pd,py,pm⟩) (s := ⟨qv,qt,qg,qs,qw,qd,qy,qm⟩) e5
  go_enter Try.func32,Try.ntmps32
  go_wp2_with (first | (go_at_call 36;refine hR2.mono ?_;rintro e w2 ⟨rfl,hb2⟩;have hB2 : Below W.heap.size W w2 := hb1.trans (hb2.mono hb1.size);clear c0 c1 c2 c3 c4 c5 c6 c7 d0 d1 d2 d3 d4 d5 d6 d7;obtain ⟨⟨c0,c1,c2,c3⟩,c4,c5,c6,c7⟩ := Bx.r8 (HX.out w2 hB2).1;obtain ⟨⟨d0,d1,d2,d3⟩,d4,d5,d6,d7⟩ := Bx.r8 (HX.out w2 hB2).2;have hU := hUf w2 hB2) | (go_at_call 36;refine hR1.mono ?_;rintro e w1 ⟨rfl,hb1⟩;clear c0 c1 c2 c3 c4 c5 c6 c7 d0 d1 d2 d3 d4 d5 d6 d7;obtain ⟨⟨c0,c1,c2,c3⟩,c4,c5,c6,c7⟩ := Bx.r8 (HX.out w1 hb1).1;obtain ⟨⟨d0,d1,d2,d3⟩,d4,d5,d6,d7⟩ := Bx.r8 (HX.out w1 hb1).2;have hR2 := hR2f w1 hb1) | (go_at_call 19;refine hU.mono ?_;rintro e w3 ⟨rfl,q3,hw3⟩;have hB3 : Below W.heap.size W w3 := (by rw [hw3];exact belowN hB2);clear hw3;clear c0 c1 c2 c3 c4 c5 c6 c7 d0 d1 d2 d3 d4 d5 d6 d7;obtain ⟨⟨c0,c1,c2,c3⟩,c4,c5,c6,c7⟩ := Bx.r8 (HX.out w3 hB3).1;obtain ⟨⟨d0,d1,d2,d3⟩,d4,d5,d6,d7⟩ := Bx.r8 (HX.out w3 hB3).2;have hA := hAf w3 hB3))
  go_ret
  exact ⟨ret_bool (by rw [HZ.out]),HBW.out _ hB3⟩
 | true =>
 rw [e5] at hUf
 have E5 : Hid (underB pg qg = true) := e5
 clear e5
 cases e6 : ps.all (fun x => decide (x ∈ qs)) with
 | false =>
  rw [e6] at hAf
  have HZ : Hid (folB (⟨pv,pt,pg,ps,pw,pd,py,pm⟩ : Rw) (⟨qv,qt,qg,qs,qw,qd,qy,qm⟩ : Rw) n = false) := fol_6 (r := ⟨pv,pt,pg,ps,pw,pd,py,pm⟩) (s := ⟨qv,qt,qg,qs,qw,qd,qy,qm⟩) e6
  go_enter Try.func32,Try.ntmps32
  go_wp2_with (first | (go_at_call 36;refine hR2.mono ?_;rintro e w2 ⟨rfl,hb2⟩;have hB2 : Below W.heap.size W w2 := hb1.trans (hb2.mono hb1.size);clear c0 c1 c2 c3 c4 c5 c6 c7 d0 d1 d2 d3 d4 d5 d6 d7;obtain ⟨⟨c0,c1,c2,c3⟩,c4,c5,c6,c7⟩ := Bx.r8 (HX.out w2 hB2).1;obtain ⟨⟨d0,d1,d2,d3⟩,d4,d5,d6,d7⟩ := Bx.r8 (HX.out w2 hB2).2;have hU := hUf w2 hB2) | (go_at_call 36;refine hR1.mono ?_;rintro e w1 ⟨rfl,hb1⟩;clear c0 c1 c2 c3 c4 c5 c6 c7 d0 d1 d2 d3 d4 d5 d6 d7;obtain ⟨⟨c0,c1,c2,c3⟩,c4,c5,c6,c7⟩ := Bx.r8 (HX.out w1 hb1).1;obtain ⟨⟨d0,d1,d2,d3⟩,d4,d5,d6,d7⟩ := Bx.r8 (HX.out w1 hb1).2;have hR2 := hR2f w1 hb1) | (go_at_call 19;refine hU.mono ?_;rintro e w3 ⟨rfl,q3,hw3⟩;have hB3 : Below W.heap.size W w3 := (by rw [hw3];exact belowN hB2);clear hw3;clear c0 c1 c2 c3 c4 c5 c6 c7 d0 d1 d2 d3 d4 d5 d6 d7;obtain ⟨⟨c0,c1,c2,c3⟩,c4,c5,c6,c7⟩ := Bx.r8 (HX.out w3 hB3).1;obtain ⟨⟨d0,d1,d2,d3⟩,d4,d5,d6,d7⟩ := Bx.r8 (HX.out w3 hB3).2;have hA := hAf w3 hB3) | (go_at_call 80;refine hA.mono ?_;rintro e w' ⟨rfl,hw'⟩;rw [hw'];clear hw'))
  go_ret
  exact ⟨ret_bool (by rw [HZ.out]),HBW.out _ hB3⟩
 | true =>
 rw [e6] at hAf
 have E6 : Hid (ps.all (fun x => decide (x ∈ qs)) = true) := e6
 clear e6
 go_enter Try.func32,Try.ntmps32
 go_wp2_with (first | (go_at_call 36;refine hR2.mono ?_;rintro e w2 ⟨rfl,hb2⟩;have hB2 : Below W.heap.size W w2 := hb1.trans (hb2.mono hb1.size);clear c0 c1 c2 c3 c4 c5 c6 c7 d0 d1 d2 d3 d4 d5 d6 d7;obtain ⟨⟨c0,c1,c2,c3⟩,c4,c5,c6,c7⟩ := Bx.r8 (HX.out w2 hB2).1;obtain ⟨⟨d0,d1,d2,d3⟩,d4,d5,d6,d7⟩ := Bx.r8 (HX.out w2 hB2).2;have hU := hUf w2 hB2) | (go_at_call 36;refine hR1.mono ?_;rintro e w1 ⟨rfl,hb1⟩;clear c0 c1 c2 c3 c4 c5 c6 c7 d0 d1 d2 d3 d4 d5 d6 d7;obtain ⟨⟨c0,c1,c2,c3⟩,c4,c5,c6,c7⟩ := Bx.r8 (HX.out w1 hb1).1;obtain ⟨⟨d0,d1,d2,d3⟩,d4,d5,d6,d7⟩ := Bx.r8 (HX.out w1 hb1).2;have hR2 := hR2f w1 hb1) | (go_at_call 19;refine hU.mono ?_;rintro e w3 ⟨rfl,q3,hw3⟩;have hB3 : Below W.heap.size W w3 := (by rw [hw3];exact belowN hB2);clear hw3;clear c0 c1 c2 c3 c4 c5 c6 c7 d0 d1 d2 d3 d4 d5 d6 d7;obtain ⟨⟨c0,c1,c2,c3⟩,c4,c5,c6,c7⟩ := Bx.r8 (HX.out w3 hB3).1;obtain ⟨⟨d0,d1,d2,d3⟩,d4,d5,d6,d7⟩ := Bx.r8 (HX.out w3 hB3).2;have hA := hAf w3 hB3) | (go_at_call 80;refine hA.mono ?_;rintro e w' ⟨rfl,hw'⟩;rw [hw'];clear hw'))
 clear hR1 hR2 hR2f hU hUf hA hAf
 have HB3 : Hid (Below W.heap.size W w3) := hB3
 clear hB3 hB2 hb1 hb2 B0
 have HTP : Hid (TxS w3 pA pt) := (HP.out w3 HB3.out).txt
 have HTQ : Hid (TxS w3 qA qt) := (HQ.out w3 HB3.out).txt
 have HW : Hid (Below w.heap.size w w3) := HBW.out w3 HB3.out
 have HL : Hid (pt.length ≤ qt.length) := h4
 have HV3 : Hid (pv ≤ qv) := h3
 clear HP HQ HX HBW HB3 hW g3 g4 h3 h4
 go_loopw [7] (fun i wr => ∃ k q : Nat,k ≤ pt.length ∧ i = .int .i64 k ∧ wr = w3.drewN q ∧ ∀ j,j < k → pt.getD j [] = qt.getD j []) (fun i _ => pt.length - (intOf i).toNat)
 case atStart => exact ⟨0,0,Nat.zero_le _,rfl,rfl,fun j hj => by omega⟩
 case round =>
  obtain ⟨k,q,hk,rfl,rfl,hall⟩ := hrel
  have HA : Hid (∀ j,j < k → pt.getD j [] = qt.getD j []) := hall
  clear hall
  by_cases hlt : k < pt.length
  ·have hlq : k < qt.length := Nat.lt_of_lt_of_le hlt HL.out
   rcases HTP.out with h0 | ⟨b,off,rfl,hc⟩
   ·omega
   rcases HTQ.out with h0 | ⟨b2,off2,rfl,hc2⟩
   ·omega
   have hck := hc k hlt
   have hck2 := hc2 k hlq
   have k1 : (k : Int) < (pt.length : Int) := by omega
   have k2 : (k : Int) < (qt.length : Int) := by omega
   have k0 : (0 : Int) ≤ (k : Int) := by omega
   clear hc hc2
   by_cases he : pt.getD k [] = qt.getD k []
   ·have HN : Hid (∀ j,j < k + 1 → pt.getD j [] = qt.getD j []) := fun j hj => by
     rcases Nat.lt_succ_iff_lt_or_eq.1 hj with h1 | h1
     ·exact HA.out j h1
     ·rw [h1];exact he
    rw [← he] at hck2
    generalize pt.getD k [] = t at *
    have ns : ((sv t).toList == (sv t).toList) = true := by simp
    clear he
    go_wp2_with fail
    go_quiet (fail)
    go_wp2
    go_roundw
    case rel => exact ⟨k + 1,_,by omega,by go_num,rfl,HN.out⟩
    case measure => simp [intOf];omega
   ·have HZ : Hid (folB (⟨pv,pt,pg,ps,pw,pd,py,pm⟩ : Rw) (⟨qv,qt,qg,qs,qw,qd,qy,qm⟩ : Rw) n = false) := fol_7 (r := ⟨pv,pt,pg,ps,pw,pd,py,pm⟩) (s := ⟨qv,qt,qg,qs,qw,qd,qy,qm⟩) hlt HL.out he
    have ns : ((sv (pt.getD k [])).toList == (sv (qt.getD k [])).toList) = false := by rw [sv_list,sv_list];simpa using he
    generalize pt.getD k [] = t at *
    generalize qt.getD k [] = t2 at *
    clear he
    go_wp2_with fail
    go_quiet (fail)
    go_wp2
    go_ret
    exact ⟨ret_bool (by rw [HZ.out]),belowN (belowN HW.out)⟩
  ·have k1 : ¬ ((k : Int) < (pt.length : Int)) := by omega
   have HE : Hid (folB (⟨pv,pt,pg,ps,pw,pd,py,pm⟩ : Rw) (⟨qv,qt,qg,qs,qw,qd,qy,qm⟩ : Rw) n = endF (⟨pv,pt,pg,ps,pw,pd,py,pm⟩ : Rw) (⟨qv,qt,qg,qs,qw,qd,qy,qm⟩ : Rw)) := fol_end E1.out E2.out HV3.out HL.out E5.out E6.out (fun j hj => HA.out j (by simp only at hj;omega))
   clear HA HTP HTQ
   cases pw <;> cases qw <;> cases pd <;> cases qd
   all_goals
    by_cases h9 : py ≤ qy
    ·have HD : Hid (decide (py ≤ qy) = true) := decide_eq_true h9
     go_wp2
     go_ret
     refine ⟨ret_bool ?_,belowN HW.out⟩
     rw [HE.out,endF]
     simp [HD.out]
    ·have HD : Hid (decide (py ≤ qy) = false) := decide_eq_false h9
     go_wp2
     go_ret
     refine ⟨ret_bool ?_,belowN HW.out⟩
     rw [HE.out,endF]
     simp [HD.out]
end Go.Proofs.Ytlnmdfgcpfbleaa
namespace Go.Proofs.Ytlnmdfgcpfbleaa
set_option linter.unusedVariables false
set_option linter.unusedSimpArgs false
open Go.RowKit Go.Sort
def rwCels (r : Rw) : List Cel := [scl r.txt,icl r.got,icl r.sus,icl r.trm]
def rwVals (A : Ra) (r : Rw) : List Value := [.slice A.ta r.txt.length A.tc,.slice A.ga r.got.length A.gc,.slice A.sa r.sus.length A.sc,.slice A.ma r.trm.length A.mc]
def AnsRw (w w' : World) (e : Ending) (r : Rw) : Prop := ∃ A : Ra,e = .returned (rwV A r) ∧ NewL w w' (rwCels r) (rwVals A r)
theorem wrt8 (w : World) (g : Nat) {a b c d e f h i : Value} : Wrt (fun x => x = g) w ((((((((w.setCell ⟨g,0,none⟩ a).setCell ⟨g,1,none⟩ b).setCell ⟨g,2,none⟩ c).setCell ⟨g,3,none⟩ d).setCell ⟨g,4,none⟩ e).setCell ⟨g,5,none⟩ f).setCell ⟨g,6,none⟩ h).setCell ⟨g,7,none⟩ i) :=
 (((((((Wrt.set w g 0 a).trans (Wrt.set _ g 1 b) (fun _ _ h => h)).trans (Wrt.set _ g 2 c) (fun _ _ h => h)).trans (Wrt.set _ g 3 d) (fun _ _ h => h)).trans (Wrt.set _ g 4 e) (fun _ _ h => h)).trans (Wrt.set _ g 5 f) (fun _ _ h => h)).trans (Wrt.set _ g 6 h) (fun _ _ h => h)).trans (Wrt.set _ g 7 i) (fun _ _ h => h)
theorem Bx.f8 {w : World} {B : Nat} {T : TypeId} {cs : Array Value} (h : Bx w B T cs) : (w.frozen? ⟨B,0,none⟩ = false ∧ w.frozen? ⟨B,1,none⟩ = false ∧ w.frozen? ⟨B,2,none⟩ = false ∧ w.frozen? ⟨B,3,none⟩ = false) ∧ w.frozen? ⟨B,4,none⟩ = false ∧ w.frozen? ⟨B,5,none⟩ = false ∧ w.frozen? ⟨B,6,none⟩ = false ∧ w.frozen? ⟨B,7,none⟩ = false :=
 ⟨⟨h.f 0,h.f 1,h.f 2,h.f 3⟩,h.f 4,h.f 5,h.f 6,h.f 7⟩
end Go.Proofs.Ytlnmdfgcpfbleaa
namespace Go.Proofs.Ytlnmdfgcpfbleaa
set_option linter.unusedVariables false
set_option linter.unusedSimpArgs false
abbrev Vw := Int × List Int
def okVw (v : Vw) : Prop := (1 ≤ v.1 ∧ v.1 ≤ 1000000) ∧ (1 ≤ v.2.length ∧ v.2.length ≤ 8) ∧ v.2.Pairwise (· < ·) ∧ ∀ x ∈ v.2,0 ≤ x ∧ x ≤ 99
instance (v : Vw) : Decidable (okVw v) := by unfold okVw;infer_instance
theorem el_in {xs : List Int} {i : Nat} (h : i < xs.length) : el xs i ∈ xs := by simp [el,List.getD,h]
theorem el_of {xs : List Int} {x : Int} (h : x ∈ xs) : ∃ i,i < xs.length ∧ el xs i = x := by
 obtain ⟨i,hi,e⟩ := List.mem_iff_getElem.1 h
 exact ⟨i,hi,by simp [el,List.getD,hi,e]⟩
def cntL (m l : List Int) : Nat := (m.filter (fun x => decide (x ∈ l))).length
def mjP (v : Vw) (l : List Int) : Prop := okVw v ∧ v.2.length < 2 * cntL v.2 l
instance (v : Vw) (l : List Int) : Decidable (mjP v l) := by unfold mjP;infer_instance
def lftL (m gone : List Int) : List Int := m.filter (fun x => decide (x ∉ gone))
def putsL (m come : List Int) : List Int := come.foldl putL m
def aftP (v : Vw) (gone come : List Int) : Prop := okVw v ∧ mjP v (lftL v.2 gone) ∧ okVw (v.1 + 1,putsL (lftL v.2 gone) come)
instance (v : Vw) (gone come : List Int) : Decidable (aftP v gone come) := by unfold aftP;infer_instance
set_option linter.unusedVariables false
set_option linter.unusedSimpArgs false
open Go.RowKit Go.Sort
end Go.Proofs.Ytlnmdfgcpfbleaa
namespace Go.Proofs.Ytlnmdfgcpfbleaa
set_option linter.unusedVariables false
set_option linter.unusedSimpArgs false
open Go.RowKit Go.Sort
end Go.Proofs.Ytlnmdfgcpfbleaa
namespace Go.Proofs.Ytlnmdfgcpfbleaa
set_option linter.unusedVariables false
set_option linter.unusedSimpArgs false
open Go.RowKit Go.Sort
end Go.Proofs.Ytlnmdfgcpfbleaa
namespace Go.Proofs.Ytlnmdfgcpfbleaa
set_option linter.unusedVariables false
set_option linter.unusedSimpArgs false
open Go.RowKit Go.Sort
end Go.Proofs.Ytlnmdfgcpfbleaa
namespace Go.Proofs.Ytlnmdfgcpfbleaa
set_option linter.unusedVariables false
set_option linter.unusedSimpArgs false
open Go.RowKit Go.Sort
end Go.Proofs.Ytlnmdfgcpfbleaa
namespace Go.Proofs.Ytlnmdfgcpfbleaa
set_option linter.unusedVariables false
set_option linter.unusedSimpArgs false
open Go.RowKit Go.Sort
end Go.Proofs.Ytlnmdfgcpfbleaa
namespace Go.Proofs.Ytlnmdfgcpfbleaa
set_option linter.unusedVariables false
set_option linter.unusedSimpArgs false
open Go.RowKit Go.Sort
end Go.Proofs.Ytlnmdfgcpfbleaa
namespace Go.Proofs.Ytlnmdfgcpfbleaa
set_option linter.unusedVariables false
set_option linter.unusedSimpArgs false
open Go.RowKit Go.Sort
end Go.Proofs.Ytlnmdfgcpfbleaa
namespace Go.Proofs.Ytlnmdfgcpfbleaa
set_option linter.unusedVariables false
set_option linter.unusedSimpArgs false
open Go.RowKit Go.Sort
end Go.Proofs.Ytlnmdfgcpfbleaa
namespace Go.Proofs.Ytlnmdfgcpfbleaa
set_option linter.unusedVariables false
set_option linter.unusedSimpArgs false
open Go.RowKit Go.Sort
end Go.Proofs.Ytlnmdfgcpfbleaa
namespace Go.Proofs.Ytlnmdfgcpfbleaa
set_option linter.unusedVariables false
set_option linter.unusedSimpArgs false
open Go.RowKit Go.Sort
end Go.Proofs.Ytlnmdfgcpfbleaa
namespace Go.Proofs.Ytlnmdfgcpfbleaa
set_option linter.unusedVariables false
set_option linter.unusedSimpArgs false
open Go.RowKit Go.Sort
def I64v (x : Int) : Prop := -9223372036854775808 ≤ x ∧ x ≤ 9223372036854775807
structure VcP (w : World) (a : Option Addr) (c : Nat) (M : List Int) : Prop where
 vec : Vec w a M.length M
 le : M.length ≤ c
 mx : c ≤ maxLen
 pl : PlainA a
 nn : a = none → c = 0
theorem VcP.below {w w' : World} {a : Option Addr} {c : Nat} {M : List Int} (h : VcP w a c M) (hb : Below w.heap.size w w') : VcP w' a c M := ⟨h.vec.below hb (Nat.le_refl _),h.le,h.mx,h.pl,h.nn⟩
theorem ow_vcp {w : World} {a : Option Addr} {c : Nat} {M : List Int} {fp : Fp} (h : Cel.ow w (icl M) (.slice a M.length c) fp) (hf : Fits M) : VcP w a c M := by
 obtain ⟨a0,c0,e0,hv,h1,h2⟩ := vw_icl (Cel.ow_vw h) hf
 cases e0
 obtain ⟨a1,c1,G,e1,hs,hG⟩ := ow_icl.1 h
 cases e1
 refine ⟨hv,h1,h2,hs.plain,fun e => ?_⟩
 rcases hs with ⟨_,h,_⟩ | ⟨g,off,ha,_⟩
 ·exact h
 ·rw [ha] at e;cases e
set_option maxHeartbeats 400000 in
theorem szI14_any (a : Option Addr) (len cap : Nat) (left : Int) (w : World) (hm : len ≤ maxLen) (hl : 0 ≤ left ∧ left ≤ 1048576) :
  Calls Try.prog 86 #[.slice a len cap,.int .i64 left] w fun e w' => e = .returned (.int .i64 (if (len : Int) ≤ left then left - (len : Int) else -1)) ∧ w' = w := by
 unfold maxLen at hm
 have h1 : wrap64 (left - (len : Int)) = left - (len : Int) := by unfold wrap64;omega
 by_cases h : (len : Int) ≤ left
 ·rw [if_pos h]
  have h2 : decide (left - (len : Int) < 0) = false := by simp;omega
  go_enter Try.func86,Try.ntmps86
  go_wp2
  go_ret
  exact ⟨rfl,rfl⟩
 ·rw [if_neg h]
  have h2 : decide (left - (len : Int) < 0) = true := by simp;omega
  go_enter Try.func86,Try.ntmps86
  go_wp2
  go_ret
  exact ⟨rfl,rfl⟩
end Go.Proofs.Ytlnmdfgcpfbleaa
namespace Go.Proofs.Ytlnmdfgcpfbleaa
set_option linter.unusedVariables false
set_option linter.unusedSimpArgs false
open Go.RowKit Go.Sort
def szRw (r : Rw) : Nat := r.txt.length + totS r.txt r.txt.length + r.got.length + r.sus.length + r.trm.length
attribute [local irreducible] sv
set_option maxRecDepth 100000 in
set_option maxHeartbeats 1600000 in
theorem szRw_any (A : Ra) (r : Rw) (left : Int) (w : World) (hv : RwS w A r) (hlg : LongT r.txt) (hl : 0 ≤ left ∧ left ≤ 1048576) :
  Calls Try.prog 40 #[rwV A r,.int .i64 left] w fun e w' => ∃ q : Int,e = .returned (.int .i64 q) ∧ (q = -1 ∨ 0 ≤ q ∧ q + (szRw r : Int) = left) ∧ Below w.heap.size w w' := by
 have hb := oneA16 w (.cells (rwC A r) 47)
 have hx := Bx.new w 47 (rwC A r)
 have hS := szS_any A.ta A.tc r.txt left _ (hv.txt.below hb) hlg hv.mt hl
 generalize hW : w.alloc (.cells (rwC A r) 47) = W at *
 obtain ⟨ver,txt,got,sus,wed,rdy,by_,trm⟩ := r
 obtain ⟨ta,tc,ga,gc,sa,sc,ma,mc⟩ := A
 have hG := fun l X (h : 0 ≤ l ∧ l ≤ 1048576) => szI14_any ga got.length gc l X hv.mg h
 have hU := fun l X (h : 0 ≤ l ∧ l ≤ 1048576) => szI14_any sa sus.length sc l X hv.ms h
 have hM := fun l X (h : 0 ≤ l ∧ l ≤ 1048576) => szI14_any ma trm.length mc l X hv.mm h
 have hW' : w.alloc (.cells #[.int .i64 ver,.slice ta txt.length tc,.slice ga got.length gc,.slice sa sus.length sc,.bool wed,.bool rdy,.int .i64 by_,.slice ma trm.length mc] 47) = W := hW
 obtain ⟨⟨c0,c1,c2,c3⟩,c4,c5,c6,c7⟩ := Bx.r8 hx
 have HB : Hid (Below w.heap.size w W) := hb
 have HSZ : Hid ((szRw ⟨ver,txt,got,sus,wed,rdy,by_,trm⟩ : Int) = (txt.length : Int) + (totS txt txt.length : Int) + (got.length : Int) + (sus.length : Int) + (trm.length : Int)) := by rw [Hid,szRw];simp only;omega
 unfold rwV rwC
 simp only at hS c0 c1 c2 c3 c4 c5 c6 c7 ⊢
 clear hv hx hb hW
 go_enter Try.func40,Try.ntmps40
 go_wp2_with fail
 refine hS.mono ?_
 rintro e w1 ⟨q1,rfl,hq1,hw1⟩
 rw [hw1]
 clear hw1 hS
 rcases hq1 with rfl | ⟨hq0,hq1⟩
 ·go_wp2
  go_ret
  exact ⟨-1,rfl,.inl rfl,HB.out⟩
 have n1 : ¬ (q1 < 0) := by omega
 have b1 : q1 ≤ 1048576 := by omega
 have HQ1 : Hid (0 ≤ q1 ∧ q1 + (txt.length : Int) + (totS txt txt.length : Int) = left) := ⟨hq0,hq1⟩
 clear hq1 hq0
 have hs2 := hG q1 W ⟨by omega,by omega⟩
 by_cases g2 : (got.length : Int) ≤ q1
 rotate_left
 ·rw [if_neg g2] at hs2
  go_wp2_with (go_at_call 86;refine hs2.mono ?_;rintro e w' ⟨rfl,hw'⟩;rw [hw'];clear hw')
  go_ret
  exact ⟨-1,rfl,.inl rfl,HB.out⟩
 rw [if_pos g2] at hs2
 obtain ⟨q2,hq2⟩ : ∃ x : Int,q1 - (got.length : Int) = x := ⟨_,rfl⟩
 rw [hq2] at hs2
 have n2 : ¬ (q2 < 0) := by omega
 have Hq2 : Hid (q1 - (got.length : Int) = q2) := hq2
 have b2 : q2 ≤ 1048576 := by omega
 clear hq2 g2
 go_wp2_with fail
 refine hs2.mono ?_
 rintro e w' ⟨rfl,hw'⟩
 rw [hw']
 clear hw' hs2
 have hs3 := hU q2 W ⟨by omega,by omega⟩
 by_cases g3 : (sus.length : Int) ≤ q2
 rotate_left
 ·rw [if_neg g3] at hs3
  go_wp2_with (go_at_call 86;refine hs3.mono ?_;rintro e w' ⟨rfl,hw'⟩;rw [hw'];clear hw')
  go_ret
  exact ⟨-1,rfl,.inl rfl,HB.out⟩
 rw [if_pos g3] at hs3
 obtain ⟨q3,hq3⟩ : ∃ x : Int,q2 - (sus.length : Int) = x := ⟨_,rfl⟩
 rw [hq3] at hs3
 have n3 : ¬ (q3 < 0) := by omega
 have Hq3 : Hid (q2 - (sus.length : Int) = q3) := hq3
 have b3 : q3 ≤ 1048576 := by omega
 clear hq3 g3
 go_wp2_with fail
 refine hs3.mono ?_
 rintro e w' ⟨rfl,hw'⟩
 rw [hw']
 clear hw' hs3
 have hs4 := hM q3 W ⟨by omega,by omega⟩
 by_cases g4 : (trm.length : Int) ≤ q3
 rotate_left
 ·rw [if_neg g4] at hs4
  go_wp2_with (go_at_call 86;refine hs4.mono ?_;rintro e w' ⟨rfl,hw'⟩;rw [hw'];clear hw')
  go_ret
  exact ⟨-1,rfl,.inl rfl,HB.out⟩
 rw [if_pos g4] at hs4
 obtain ⟨q4,hq4⟩ : ∃ x : Int,q3 - (trm.length : Int) = x := ⟨_,rfl⟩
 rw [hq4] at hs4
 have n4 : ¬ (q4 < 0) := by omega
 have Hq4 : Hid (q3 - (trm.length : Int) = q4) := hq4
 have b4 : q4 ≤ 1048576 := by omega
 clear hq4 g4
 go_wp2_with fail
 refine hs4.mono ?_
 rintro e w' ⟨rfl,hw'⟩
 rw [hw']
 clear hw' hs4
 go_wp2
 go_ret
 refine ⟨q4,rfl,.inr ⟨by omega, ?_⟩,HB.out⟩
 have h1 := HQ1.out
 have h2 := Hq2.out
 have h3 := Hq3.out
 have h4 := Hq4.out
 rw [HSZ.out]
 omega
set_option maxRecDepth 100000 in
set_option maxHeartbeats 1600000 in
theorem eqRw_any (A B : Ra) (r : Rw) (w : World) (hv : RwS w A r) (hu : RwS w B r) :
  Calls Try.prog 42 #[rwV A r,rwV B r] w fun e w' => e = .returned (.bool true) ∧ Below w.heap.size w w' := by
 have hB0 : Grew w ((w.alloc (.cells (rwC A r) 35)).alloc (.cells (rwC B r) 35)) := ((Grew.refl _).alloc _).alloc _
 have hx : Bx ((w.alloc (.cells (rwC A r) 35)).alloc (.cells (rwC B r) 35)) w.heap.size 35 (rwC A r) := (Bx.new w _ _).alloc _
 have hy : Bx ((w.alloc (.cells (rwC A r) 35)).alloc (.cells (rwC B r) 35)) (w.heap.size + 1) 35 (rwC B r) := by
  have := Bx.new (w.alloc (.cells (rwC A r) 35)) 35 (rwC B r)
  simpa using this
 have h0 := hv.below hB0.1
 have g0 := hu.below hB0.1
 have hT := eqSV_any A.ta B.ta A.tc B.tc r.txt _ h0.txt g0.txt h0.mt
 have hE : ∀ X,Below w.heap.size w X → ∀ (x y : Option Addr) (c d : Nat) (l : List Int),Vec w x l.length l → Vec w y l.length l → l.length ≤ maxLen → Calls Try.prog 52 #[.slice x l.length c,.slice y l.length d] X fun e w' => e = .returned (.bool true) ∧ ∃ n,w' = X.drewN n := fun X h x y c d l h1 h2 h3 => (eq_any x y l.length c l.length d l l X (h1.below h (Nat.le_refl _)) (h2.below h (Nat.le_refl _)) h3).mono (fun e w' ⟨h4,h5⟩ => ⟨by rw [h4];simp,h5⟩)
 obtain ⟨ver,txt,got,sus,wed,rdy,by_,trm⟩ := r
 obtain ⟨ta,tc,ga,gc,sa,sc,ma,mc⟩ := A
 obtain ⟨ub,uc,vb,vc,xb,xc,yb,yc⟩ := B
 have HV : Hid (RwS w ⟨ta,tc,ga,gc,sa,sc,ma,mc⟩ ⟨ver,txt,got,sus,wed,rdy,by_,trm⟩) := hv
 have HU : Hid (RwS w ⟨ub,uc,vb,vc,xb,xc,yb,yc⟩ ⟨ver,txt,got,sus,wed,rdy,by_,trm⟩) := hu
 have hG := fun X h => hE X h ga vb gc vc got HV.out.got HU.out.got HV.out.mg
 have hS := fun X h => hE X h sa xb sc xc sus HV.out.sus HU.out.sus HV.out.ms
 have hM := fun X h => hE X h ma yb mc yc trm HV.out.trm HU.out.trm HV.out.mm
 have HX : Hid (∀ X,Grew ((w.alloc (.cells (rwC ⟨ta,tc,ga,gc,sa,sc,ma,mc⟩ ⟨ver,txt,got,sus,wed,rdy,by_,trm⟩) 35)).alloc (.cells (rwC ⟨ub,uc,vb,vc,xb,xc,yb,yc⟩ ⟨ver,txt,got,sus,wed,rdy,by_,trm⟩) 35)) X → Bx X w.heap.size 35 #[.int .i64 ver,.slice ta txt.length tc,.slice ga got.length gc,.slice sa sus.length sc,.bool wed,.bool rdy,.int .i64 by_,.slice ma trm.length mc] ∧ Bx X (w.heap.size + 1) 35 #[.int .i64 ver,.slice ub txt.length uc,.slice vb got.length vc,.slice xb sus.length xc,.bool wed,.bool rdy,.int .i64 by_,.slice yb trm.length yc]) := fun X h => ⟨hx.below h.1,hy.below h.1⟩
 have HG0 : Hid (Grew w ((w.alloc (.cells (rwC ⟨ta,tc,ga,gc,sa,sc,ma,mc⟩ ⟨ver,txt,got,sus,wed,rdy,by_,trm⟩) 35)).alloc (.cells (rwC ⟨ub,uc,vb,vc,xb,xc,yb,yc⟩ ⟨ver,txt,got,sus,wed,rdy,by_,trm⟩) 35))) := hB0
 have n1 : (ver != ver) = false := by simp
 have n2 : (by_ != by_) = false := by simp
 have n3 : (wed != wed) = false := by simp
 have n4 : (rdy != rdy) = false := by simp
 unfold rwV
 unfold rwC at *
 simp only at hT ⊢
 clear hv hu hx hy h0 g0 hE hB0
 go_enter Try.func42,Try.ntmps42
 go_wp2_with fail
 refine hT.mono ?_
 rintro e w1 ⟨rfl,hg1⟩
 obtain ⟨⟨c0,c1,c2,c3⟩,c4,c5,c6,c7⟩ := Bx.r8 (HX.out w1 hg1).1
 obtain ⟨⟨d0,d1,d2,d3⟩,d4,d5,d6,d7⟩ := Bx.r8 (HX.out w1 hg1).2
 have b1 : Below w.heap.size w w1 := (HG0.out.trans hg1).1
 have bN : ∀ q,Below w.heap.size w (w1.drewN q) := fun q => belowN b1
 have HB1 : Hid (Below w.heap.size w w1) := b1
 clear hT HX HG0 hg1
 go_wp2_with fail
 refine (hG _ b1).mono ?_
 rintro e w2 ⟨rfl,q2,hw2⟩
 have b2 : Below w.heap.size w w2 := by rw [hw2];exact bN _
 have k2 : ∀ x v,w1.cell? x = some v → w2.cell? x = some v := fun x v h => by rw [hw2];exact h
 have x3 := k2 _ _ c3
 have x4 := k2 _ _ c4
 have x5 := k2 _ _ c5
 have x6 := k2 _ _ c6
 have x7 := k2 _ _ c7
 have y3 := k2 _ _ d3
 have y4 := k2 _ _ d4
 have y5 := k2 _ _ d5
 have y6 := k2 _ _ d6
 have y7 := k2 _ _ d7
 clear hw2 k2 c0 c1 c2 c3 c4 c5 c6 c7 d0 d1 d2 d3 d4 d5 d6 d7 hG bN b1 HB1
 go_wp2_with fail
 refine (hS _ b2).mono ?_
 rintro e w3 ⟨rfl,q3,hw3⟩
 have b3 : Below w.heap.size w w3 := by rw [hw3];exact belowN b2
 have k3 : ∀ x v,w2.cell? x = some v → w3.cell? x = some v := fun x v h => by rw [hw3];exact h
 have z4 := k3 _ _ x4
 have z5 := k3 _ _ x5
 have z6 := k3 _ _ x6
 have z7 := k3 _ _ x7
 have u4 := k3 _ _ y4
 have u5 := k3 _ _ y5
 have u6 := k3 _ _ y6
 have u7 := k3 _ _ y7
 clear hw3 k3 x3 x4 x5 x6 x7 y3 y4 y5 y6 y7 hS b2
 go_wp2_with fail
 refine (hM _ b3).mono ?_
 rintro e w4 ⟨rfl,q4,hw4⟩
 have HB4 : Hid (Below w.heap.size w w4) := by rw [Hid,hw4];exact belowN b3
 clear hw4 hM b3 z4 z5 z6 z7 u4 u5 u6 u7
 go_wp2
 go_ret
 exact ⟨rfl,HB4.out⟩
end Go.Proofs.Ytlnmdfgcpfbleaa
namespace Go.Proofs.Ytlnmdfgcpfbleaa
set_option linter.unusedVariables false
set_option linter.unusedSimpArgs false
open Go.RowKit Go.Sort
def zero8 : Array Value := #[.int .i64 0,.slice none 0 0,.slice none 0 0,.slice none 0 0,.bool false,.bool false,.int .i64 0,.slice none 0 0]
structure TR (w X : World) (S O : Array Value) (cs : List Cel) (vs : List Value) (fp : Fp) : Prop where
 src : Bx X w.heap.size 47 S
 res : Bx X (w.heap.size + 1) 35 zero8
 out : Bx X (w.heap.size + 1 + 1) 35 O
 own : owL X cs vs fp
 fpl : ∀ b,fp b → w.heap.size + 1 + 1 < b
 below : Below w.heap.size w X
theorem TR.set {w X : World} {S O : Array Value} {cs : List Cel} {vs : List Value} {fp : Fp} (h : TR w X S O cs vs fp) (i : Nat) (v : Value) : TR w (X.setCell ⟨w.heap.size + 1 + 1,i,none⟩ v) S (O.setIfInBounds i v) cs vs fp :=
 ⟨h.src.far (by omega) v,h.res.far (by omega) v,h.out.setC i v,owL_wrt h.own (Wrt.set X (w.heap.size + 1 + 1) i v) (fun b hb e => by have := h.fpl b hb;omega),h.fpl,h.below.setCell (p := ⟨w.heap.size + 1 + 1,i,none⟩) (show w.heap.size ≤ w.heap.size + 1 + 1 by omega) v⟩
theorem TR.add {w X X' : World} {S O : Array Value} {cs : List Cel} {vs : List Value} {fp : Fp} (h : TR w X S O cs vs fp) {c : Cel} {v : Value} (hN : NewO X X' c v) : ∃ fp',TR w X' S O (cs ++ [c]) (vs ++ [v]) fp' := by
 obtain ⟨f,ho,hf,hb⟩ := hN
 have hol := h.out.lt
 refine ⟨fun b => fp b ∨ f b,h.src.below hb,h.res.below hb,h.out.below hb,owL_append (owL_below h.own hb) (owL_one.2 ho) (fun b h1 h2 => ?_),fun b hb => ?_,h.below.trans (hb.mono h.below.size)⟩
 ·have := owL_lt h.own b h1
  have := hf b h2
  omega
 ·rcases hb with hb | hb
  ·exact h.fpl b hb
  ·have := hf b hb;omega
theorem toI16 (a : Option Addr) (c : Nat) (l : List Int) (w : World) (hv : Vec w a l.length l) (hm : l.length ≤ 1048576) :
  Calls Try.prog 88 #[.slice a l.length c] w fun e w' => ∃ a' c',e = .returned (.slice a' l.length c') ∧ NewO w w' (icl l) (.slice a' l.length c') := by
 refine (copy_any a _ c l w hv (by omega)).mono ?_
 rintro e w2 ⟨b,rfl,hb,hr,hbw⟩
 exact ⟨_,_,rfl,fun x => x = b,ow_icl.2 ⟨_,_,some b,rfl,OSo.of (OI.own (hr.own (by unfold maxLen;omega))),fun x => by simp [eq_comm]⟩,fun x hx => by rw [hx];exact hb,hbw⟩
set_option maxRecDepth 100000 in
set_option maxHeartbeats 3200000 in
theorem toRw_any (A : Ra) (r : Rw) (w : World) (hv : RwS w A r) (h1 : r.txt.length ≤ 1048576) (h2 : r.got.length ≤ 1048576) (h3 : r.sus.length ≤ 1048576) (h4 : r.trm.length ≤ 1048576) :
  Calls Try.prog 41 #[rwV A r] w fun e w' => AnsRw w w' e r := by
 obtain ⟨ver,txt,got,sus,wed,rdy,by_,trm⟩ := r
 obtain ⟨ta,tc,ga,gc,sa,sc,ma,mc⟩ := A
 simp only at h1 h2 h3 h4
 have HV : Hid (∀ X,Below w.heap.size w X → RwS X ⟨ta,tc,ga,gc,sa,sc,ma,mc⟩ ⟨ver,txt,got,sus,wed,rdy,by_,trm⟩) := fun X h => hv.below h
 have T0 : TR w (((w.alloc (.cells #[.int .i64 ver,.slice ta txt.length tc,.slice ga got.length gc,.slice sa sus.length sc,.bool wed,.bool rdy,.int .i64 by_,.slice ma trm.length mc] 47)).alloc (.cells #[.int .i64 0,.slice none 0 0,.slice none 0 0,.slice none 0 0,.bool false,.bool false,.int .i64 0,.slice none 0 0] 35)).alloc (.cells #[.int .i64 ver,.slice none 0 0,.slice none 0 0,.slice none 0 0,.bool false,.bool false,.int .i64 0,.slice none 0 0] 35)) #[.int .i64 ver,.slice ta txt.length tc,.slice ga got.length gc,.slice sa sus.length sc,.bool wed,.bool rdy,.int .i64 by_,.slice ma trm.length mc] #[.int .i64 ver,.slice none 0 0,.slice none 0 0,.slice none 0 0,.bool false,.bool false,.int .i64 0,.slice none 0 0] [] [] (fun _ => False) := by
  have x0 := ((Bx.new w 47 #[.int .i64 ver,.slice ta txt.length tc,.slice ga got.length gc,.slice sa sus.length sc,.bool wed,.bool rdy,.int .i64 by_,.slice ma trm.length mc]).alloc (.cells #[.int .i64 0,.slice none 0 0,.slice none 0 0,.slice none 0 0,.bool false,.bool false,.int .i64 0,.slice none 0 0] 35)).alloc (.cells #[.int .i64 ver,.slice none 0 0,.slice none 0 0,.slice none 0 0,.bool false,.bool false,.int .i64 0,.slice none 0 0] 35)
  have x1 := (Bx.new (w.alloc (.cells #[.int .i64 ver,.slice ta txt.length tc,.slice ga got.length gc,.slice sa sus.length sc,.bool wed,.bool rdy,.int .i64 by_,.slice ma trm.length mc] 47)) 35 #[.int .i64 0,.slice none 0 0,.slice none 0 0,.slice none 0 0,.bool false,.bool false,.int .i64 0,.slice none 0 0]).alloc (.cells #[.int .i64 ver,.slice none 0 0,.slice none 0 0,.slice none 0 0,.bool false,.bool false,.int .i64 0,.slice none 0 0] 35)
  have x2 := Bx.new ((w.alloc (.cells #[.int .i64 ver,.slice ta txt.length tc,.slice ga got.length gc,.slice sa sus.length sc,.bool wed,.bool rdy,.int .i64 by_,.slice ma trm.length mc] 47)).alloc (.cells #[.int .i64 0,.slice none 0 0,.slice none 0 0,.slice none 0 0,.bool false,.bool false,.int .i64 0,.slice none 0 0] 35)) 35 #[.int .i64 ver,.slice none 0 0,.slice none 0 0,.slice none 0 0,.bool false,.bool false,.int .i64 0,.slice none 0 0]
  simp only [World.size_alloc] at x1 x2
  exact ⟨x0,x1,x2,⟨rfl,fun _ h => h⟩,fun b h => absurd h id,((Below.refl _ _).alloc (Nat.le_refl _) _).alloc (by simp) _ |>.alloc (by simp only [World.size_alloc];omega) _⟩
 have hC1 := toS_any ta tc txt _ (HV.out _ T0.below).txt h1
 have HT0 : Hid (TR w (((w.alloc (.cells #[.int .i64 ver,.slice ta txt.length tc,.slice ga got.length gc,.slice sa sus.length sc,.bool wed,.bool rdy,.int .i64 by_,.slice ma trm.length mc] 47)).alloc (.cells #[.int .i64 0,.slice none 0 0,.slice none 0 0,.slice none 0 0,.bool false,.bool false,.int .i64 0,.slice none 0 0] 35)).alloc (.cells #[.int .i64 ver,.slice none 0 0,.slice none 0 0,.slice none 0 0,.bool false,.bool false,.int .i64 0,.slice none 0 0] 35)) #[.int .i64 ver,.slice ta txt.length tc,.slice ga got.length gc,.slice sa sus.length sc,.bool wed,.bool rdy,.int .i64 by_,.slice ma trm.length mc] #[.int .i64 ver,.slice none 0 0,.slice none 0 0,.slice none 0 0,.bool false,.bool false,.int .i64 0,.slice none 0 0] [] [] (fun _ => False)) := T0
 unfold rwV rwC
 simp only
 clear hv T0
 go_enter Try.func41,Try.ntmps41
 go_wp2_with fail
 refine hC1.mono ?_
 rintro e w1 ⟨a1,c1,rfl,hN1⟩
 obtain ⟨fp1,T1⟩ := HT0.out.add hN1
 obtain ⟨⟨s0,s1,s2,s3⟩,s4,s5,s6,s7⟩ := Bx.r8 T1.src;obtain ⟨⟨o0,o1,o2,o3⟩,o4,o5,o6,o7⟩ := Bx.r8 (show Bx _ _ _ #[.int .i64 ver,.slice none 0 0,.slice none 0 0,.slice none 0 0,.bool false,.bool false,.int .i64 0,.slice none 0 0] from T1.out);obtain ⟨⟨f0,f1,f2,f3⟩,f4,f5,f6,f7⟩ := T1.out.f8
 have T1s := T1.set 1 (.slice a1 txt.length c1)
 have T1' : TR w (w1.setCell ⟨w.heap.size + 1 + 1,1,none⟩ (.slice a1 txt.length c1)) #[.int .i64 ver,.slice ta txt.length tc,.slice ga got.length gc,.slice sa sus.length sc,.bool wed,.bool rdy,.int .i64 by_,.slice ma trm.length mc] #[.int .i64 ver,.slice a1 txt.length c1,.slice none 0 0,.slice none 0 0,.bool false,.bool false,.int .i64 0,.slice none 0 0] ([] ++ [scl txt]) ([] ++ [.slice a1 txt.length c1]) fp1 := by simpa using T1s
 have hC2 := toI16 ga gc got _ (HV.out _ T1'.below).got h2
 have HT1 : Hid (TR w (w1.setCell ⟨w.heap.size + 1 + 1,1,none⟩ (.slice a1 txt.length c1)) #[.int .i64 ver,.slice ta txt.length tc,.slice ga got.length gc,.slice sa sus.length sc,.bool wed,.bool rdy,.int .i64 by_,.slice ma trm.length mc] #[.int .i64 ver,.slice a1 txt.length c1,.slice none 0 0,.slice none 0 0,.bool false,.bool false,.int .i64 0,.slice none 0 0] ([] ++ [scl txt]) ([] ++ [.slice a1 txt.length c1]) fp1) := T1'
 obtain ⟨x0,x1⟩ : (w1.setCell ⟨w.heap.size + 1 + 1,1,none⟩ (.slice a1 txt.length c1)).cell? ⟨w.heap.size,2,none⟩ = some (.slice ga got.length gc) ∧ True := ⟨T1'.src.at 2 rfl,trivial⟩
 clear hN1 T1 T1s T1' hC1 HT0
 go_wp2_with fail
 refine hC2.mono ?_
 rintro e w2 ⟨a2,c2,rfl,hN2⟩
 clear s0 s1 s2 s3 s4 s5 s6 s7 o0 o1 o2 o3 o4 o5 o6 o7 f0 f1 f2 f3 f4 f5 f6 f7 x0
 obtain ⟨fp2,T2⟩ := HT1.out.add hN2
 obtain ⟨⟨s0,s1,s2,s3⟩,s4,s5,s6,s7⟩ := Bx.r8 T2.src;obtain ⟨⟨o0,o1,o2,o3⟩,o4,o5,o6,o7⟩ := Bx.r8 (show Bx _ _ _ #[.int .i64 ver,.slice a1 txt.length c1,.slice none 0 0,.slice none 0 0,.bool false,.bool false,.int .i64 0,.slice none 0 0] from T2.out);obtain ⟨⟨f0,f1,f2,f3⟩,f4,f5,f6,f7⟩ := T2.out.f8
 have T2s := T2.set 2 (.slice a2 got.length c2)
 have T2' : TR w (w2.setCell ⟨w.heap.size + 1 + 1,2,none⟩ (.slice a2 got.length c2)) #[.int .i64 ver,.slice ta txt.length tc,.slice ga got.length gc,.slice sa sus.length sc,.bool wed,.bool rdy,.int .i64 by_,.slice ma trm.length mc] #[.int .i64 ver,.slice a1 txt.length c1,.slice a2 got.length c2,.slice none 0 0,.bool false,.bool false,.int .i64 0,.slice none 0 0] (([] ++ [scl txt]) ++ [icl got]) (([] ++ [.slice a1 txt.length c1]) ++ [.slice a2 got.length c2]) fp2 := by simpa using T2s
 have hC3 := toI16 sa sc sus _ (HV.out _ T2'.below).sus h3
 have HT2 : Hid (TR w (w2.setCell ⟨w.heap.size + 1 + 1,2,none⟩ (.slice a2 got.length c2)) #[.int .i64 ver,.slice ta txt.length tc,.slice ga got.length gc,.slice sa sus.length sc,.bool wed,.bool rdy,.int .i64 by_,.slice ma trm.length mc] #[.int .i64 ver,.slice a1 txt.length c1,.slice a2 got.length c2,.slice none 0 0,.bool false,.bool false,.int .i64 0,.slice none 0 0] (([] ++ [scl txt]) ++ [icl got]) (([] ++ [.slice a1 txt.length c1]) ++ [.slice a2 got.length c2]) fp2) := T2'
 have x0 : (w2.setCell ⟨w.heap.size + 1 + 1,2,none⟩ (.slice a2 got.length c2)).cell? ⟨w.heap.size,3,none⟩ = some (.slice sa sus.length sc) := T2'.src.at 3 rfl
 clear hN2 T2 T2s T2' hC2 HT1
 go_wp2_with fail
 refine hC3.mono ?_
 rintro e w3 ⟨a3,c3,rfl,hN3⟩
 clear s0 s1 s2 s3 s4 s5 s6 s7 o0 o1 o2 o3 o4 o5 o6 o7 f0 f1 f2 f3 f4 f5 f6 f7 x0
 obtain ⟨fp3,T3⟩ := HT2.out.add hN3
 have p0 := (show Bx _ _ _ #[.int .i64 ver,.slice a1 txt.length c1,.slice a2 got.length c2,.slice none 0 0,.bool false,.bool false,.int .i64 0,.slice none 0 0] from T3.out).at 3 rfl
 have q0 := T3.out.f 3
 have T3as := T3.set 3 (.slice a3 sus.length c3)
 have T3a : TR w (w3.setCell ⟨w.heap.size + 1 + 1,3,none⟩ (.slice a3 sus.length c3)) #[.int .i64 ver,.slice ta txt.length tc,.slice ga got.length gc,.slice sa sus.length sc,.bool wed,.bool rdy,.int .i64 by_,.slice ma trm.length mc] #[.int .i64 ver,.slice a1 txt.length c1,.slice a2 got.length c2,.slice a3 sus.length c3,.bool false,.bool false,.int .i64 0,.slice none 0 0] ((([] ++ [scl txt]) ++ [icl got]) ++ [icl sus]) ((([] ++ [.slice a1 txt.length c1]) ++ [.slice a2 got.length c2]) ++ [.slice a3 sus.length c3]) fp3 := by simpa using T3as
 have s4 : (w3.setCell ⟨w.heap.size + 1 + 1,3,none⟩ (.slice a3 sus.length c3)).cell? ⟨w.heap.size,4,none⟩ = _ := T3a.src.at 4 rfl
 have p4 := T3a.out.at 4 rfl
 have q4 := T3a.out.f 4
 clear T3as
 have T3bs := T3a.set 4 (.bool wed)
 have T3b : TR w ((w3.setCell ⟨w.heap.size + 1 + 1,3,none⟩ (.slice a3 sus.length c3)).setCell ⟨w.heap.size + 1 + 1,4,none⟩ (.bool wed)) #[.int .i64 ver,.slice ta txt.length tc,.slice ga got.length gc,.slice sa sus.length sc,.bool wed,.bool rdy,.int .i64 by_,.slice ma trm.length mc] #[.int .i64 ver,.slice a1 txt.length c1,.slice a2 got.length c2,.slice a3 sus.length c3,.bool wed,.bool false,.int .i64 0,.slice none 0 0] ((([] ++ [scl txt]) ++ [icl got]) ++ [icl sus]) ((([] ++ [.slice a1 txt.length c1]) ++ [.slice a2 got.length c2]) ++ [.slice a3 sus.length c3]) fp3 := by simpa using T3bs
 have s5 : ((w3.setCell ⟨w.heap.size + 1 + 1,3,none⟩ (.slice a3 sus.length c3)).setCell ⟨w.heap.size + 1 + 1,4,none⟩ (.bool wed)).cell? ⟨w.heap.size,5,none⟩ = _ := T3b.src.at 5 rfl
 have p5 := T3b.out.at 5 rfl
 have q5 := T3b.out.f 5
 clear T3bs
 have T3cs := T3b.set 5 (.bool rdy)
 have T3c : TR w (((w3.setCell ⟨w.heap.size + 1 + 1,3,none⟩ (.slice a3 sus.length c3)).setCell ⟨w.heap.size + 1 + 1,4,none⟩ (.bool wed)).setCell ⟨w.heap.size + 1 + 1,5,none⟩ (.bool rdy)) #[.int .i64 ver,.slice ta txt.length tc,.slice ga got.length gc,.slice sa sus.length sc,.bool wed,.bool rdy,.int .i64 by_,.slice ma trm.length mc] #[.int .i64 ver,.slice a1 txt.length c1,.slice a2 got.length c2,.slice a3 sus.length c3,.bool wed,.bool rdy,.int .i64 0,.slice none 0 0] ((([] ++ [scl txt]) ++ [icl got]) ++ [icl sus]) ((([] ++ [.slice a1 txt.length c1]) ++ [.slice a2 got.length c2]) ++ [.slice a3 sus.length c3]) fp3 := by simpa using T3cs
 have s6 : (((w3.setCell ⟨w.heap.size + 1 + 1,3,none⟩ (.slice a3 sus.length c3)).setCell ⟨w.heap.size + 1 + 1,4,none⟩ (.bool wed)).setCell ⟨w.heap.size + 1 + 1,5,none⟩ (.bool rdy)).cell? ⟨w.heap.size,6,none⟩ = _ := T3c.src.at 6 rfl
 have p6 := T3c.out.at 6 rfl
 have q6 := T3c.out.f 6
 clear T3cs
 have T3ds := T3c.set 6 (.int .i64 by_)
 have T3d : TR w ((((w3.setCell ⟨w.heap.size + 1 + 1,3,none⟩ (.slice a3 sus.length c3)).setCell ⟨w.heap.size + 1 + 1,4,none⟩ (.bool wed)).setCell ⟨w.heap.size + 1 + 1,5,none⟩ (.bool rdy)).setCell ⟨w.heap.size + 1 + 1,6,none⟩ (.int .i64 by_)) #[.int .i64 ver,.slice ta txt.length tc,.slice ga got.length gc,.slice sa sus.length sc,.bool wed,.bool rdy,.int .i64 by_,.slice ma trm.length mc] #[.int .i64 ver,.slice a1 txt.length c1,.slice a2 got.length c2,.slice a3 sus.length c3,.bool wed,.bool rdy,.int .i64 by_,.slice none 0 0] ((([] ++ [scl txt]) ++ [icl got]) ++ [icl sus]) ((([] ++ [.slice a1 txt.length c1]) ++ [.slice a2 got.length c2]) ++ [.slice a3 sus.length c3]) fp3 := by simpa using T3ds
 have s7 : ((((w3.setCell ⟨w.heap.size + 1 + 1,3,none⟩ (.slice a3 sus.length c3)).setCell ⟨w.heap.size + 1 + 1,4,none⟩ (.bool wed)).setCell ⟨w.heap.size + 1 + 1,5,none⟩ (.bool rdy)).setCell ⟨w.heap.size + 1 + 1,6,none⟩ (.int .i64 by_)).cell? ⟨w.heap.size,7,none⟩ = _ := T3d.src.at 7 rfl
 have p7 := T3d.out.at 7 rfl
 have q7 := T3d.out.f 7
 clear T3ds
 have hC4 := toI16 ma mc trm _ (HV.out _ T3d.below).trm h4
 have HT3 : Hid (TR w ((((w3.setCell ⟨w.heap.size + 1 + 1,3,none⟩ (.slice a3 sus.length c3)).setCell ⟨w.heap.size + 1 + 1,4,none⟩ (.bool wed)).setCell ⟨w.heap.size + 1 + 1,5,none⟩ (.bool rdy)).setCell ⟨w.heap.size + 1 + 1,6,none⟩ (.int .i64 by_)) #[.int .i64 ver,.slice ta txt.length tc,.slice ga got.length gc,.slice sa sus.length sc,.bool wed,.bool rdy,.int .i64 by_,.slice ma trm.length mc] #[.int .i64 ver,.slice a1 txt.length c1,.slice a2 got.length c2,.slice a3 sus.length c3,.bool wed,.bool rdy,.int .i64 by_,.slice none 0 0] ((([] ++ [scl txt]) ++ [icl got]) ++ [icl sus]) ((([] ++ [.slice a1 txt.length c1]) ++ [.slice a2 got.length c2]) ++ [.slice a3 sus.length c3]) fp3) := T3d
 clear hN3 T3 T3a T3b T3c T3d hC3 HT2
 go_wp2_with fail
 refine hC4.mono ?_
 rintro e w4 ⟨a4,c4,rfl,hN4⟩
 clear p0 q0 s4 p4 q4 s5 p5 q5 s6 p6 q6 s7 p7 q7
 obtain ⟨fp4,T4⟩ := HT3.out.add hN4
 have p7 := (show Bx _ _ _ #[.int .i64 ver,.slice a1 txt.length c1,.slice a2 got.length c2,.slice a3 sus.length c3,.bool wed,.bool rdy,.int .i64 by_,.slice none 0 0] from T4.out).at 7 rfl
 have q7 := T4.out.f 7
 have T4s := T4.set 7 (.slice a4 trm.length c4)
 have T5 : TR w (w4.setCell ⟨w.heap.size + 1 + 1,7,none⟩ (.slice a4 trm.length c4)) #[.int .i64 ver,.slice ta txt.length tc,.slice ga got.length gc,.slice sa sus.length sc,.bool wed,.bool rdy,.int .i64 by_,.slice ma trm.length mc] #[.int .i64 ver,.slice a1 txt.length c1,.slice a2 got.length c2,.slice a3 sus.length c3,.bool wed,.bool rdy,.int .i64 by_,.slice a4 trm.length c4] (((([] ++ [scl txt]) ++ [icl got]) ++ [icl sus]) ++ [icl trm]) (((([] ++ [.slice a1 txt.length c1]) ++ [.slice a2 got.length c2]) ++ [.slice a3 sus.length c3]) ++ [.slice a4 trm.length c4]) fp4 := by simpa using T4s
 obtain ⟨⟨o0,o1,o2,o3⟩,o4,o5,o6,o7⟩ := Bx.r8 (show Bx _ _ _ #[.int .i64 ver,.slice a1 txt.length c1,.slice a2 got.length c2,.slice a3 sus.length c3,.bool wed,.bool rdy,.int .i64 by_,.slice a4 trm.length c4] from T5.out)
 obtain ⟨⟨r0,r1,r2,r3⟩,r4,r5,r6,r7⟩ := Bx.r8 (show Bx _ _ _ #[.int .i64 0,.slice none 0 0,.slice none 0 0,.slice none 0 0,.bool false,.bool false,.int .i64 0,.slice none 0 0] from T5.res)
 obtain ⟨⟨f0,f1,f2,f3⟩,f4,f5,f6,f7⟩ := T5.res.f8
 have HT5 : Hid (TR w (w4.setCell ⟨w.heap.size + 1 + 1,7,none⟩ (.slice a4 trm.length c4)) #[.int .i64 ver,.slice ta txt.length tc,.slice ga got.length gc,.slice sa sus.length sc,.bool wed,.bool rdy,.int .i64 by_,.slice ma trm.length mc] #[.int .i64 ver,.slice a1 txt.length c1,.slice a2 got.length c2,.slice a3 sus.length c3,.bool wed,.bool rdy,.int .i64 by_,.slice a4 trm.length c4] (((([] ++ [scl txt]) ++ [icl got]) ++ [icl sus]) ++ [icl trm]) (((([] ++ [.slice a1 txt.length c1]) ++ [.slice a2 got.length c2]) ++ [.slice a3 sus.length c3]) ++ [.slice a4 trm.length c4]) fp4) := T5
 clear hN4 T4 T4s T5 hC4 HT3
 go_wp2
 refine bodyPost_ret (v := .agg #[.int .i64 ver,.slice a1 txt.length c1,.slice a2 got.length c2,.slice a3 sus.length c3,.bool wed,.bool rdy,.int .i64 by_,.slice a4 trm.length c4]) (by simp [results,Try.results41,go_sem, *]) rfl ?_
 refine ⟨⟨a1,c1,a2,c2,a3,c3,a4,c4⟩,rfl,fp4,owL_wrt HT5.out.own (wrt8 _ (w.heap.size + 1)) (fun b hb e => by have := HT5.out.fpl b hb;omega),fun b hb => by have := HT5.out.fpl b hb;omega,(wrt8 _ (w.heap.size + 1)).below HT5.out.below HT5.out.below.size (fun b e => by rw [e];omega)⟩
end Go.Proofs.Ytlnmdfgcpfbleaa
namespace Go.Proofs.Ytlnmdfgcpfbleaa
set_option linter.unusedVariables false
set_option linter.unusedSimpArgs false
open Go.RowKit Go.Sort
attribute [local irreducible] sv
end Go.Proofs.Ytlnmdfgcpfbleaa
namespace Go.Proofs.Ytlnmdfgcpfbleaa
set_option linter.unusedVariables false
set_option linter.unusedSimpArgs false
open Go.RowKit Go.Sort
def Rw64 (r : Rw) : Prop := I64v r.ver ∧ I64v r.by_
structure RwP (w : World) (A : Ra) (r : Rw) : Prop where
 txt : TxP w A.ta A.tc r.txt
 got : VcP w A.ga A.gc r.got
 sus : VcP w A.sa A.sc r.sus
 trm : VcP w A.ma A.mc r.trm
 i64 : Rw64 r
 sz : szRw r ≤ 1048576
theorem RwP.below {w w' : World} {A : Ra} {r : Rw} (h : RwP w A r) (hb : Below w.heap.size w w') : RwP w' A r := ⟨h.txt.below hb,h.got.below hb,h.sus.below hb,h.trm.below hb,h.i64,h.sz⟩
theorem RwP.rws {w : World} {A : Ra} {r : Rw} (h : RwP w A r) : RwS w A r := by
 have hs := h.sz
 unfold szRw at hs
 exact ⟨h.txt.txs,h.got.vec,h.sus.vec,h.trm.vec,by unfold maxLen;omega,by unfold maxLen;omega,by unfold maxLen;omega,by unfold maxLen;omega⟩
def FitR (r : Rw) : Prop := Fits r.got ∧ Fits r.sus ∧ Fits r.trm
theorem RwS.fit {w : World} {A : Ra} {r : Rw} (h : RwS w A r) : FitR r := ⟨fun x hx => by have := h.got.2.1 x hx;omega,fun x hx => by have := h.sus.2.1 x hx;omega,fun x hx => by have := h.trm.2.1 x hx;omega⟩
theorem it_parts {w : World} {A : Ra} {r : Rw} {lo hi : Nat} (h : It w (rwCels r) (rwVals A r) lo hi) : ∃ f1 f2 f3 f4,Cel.ow w (scl r.txt) (.slice A.ta r.txt.length A.tc) f1 ∧ Cel.ow w (icl r.got) (.slice A.ga r.got.length A.gc) f2 ∧ Cel.ow w (icl r.sus) (.slice A.sa r.sus.length A.sc) f3 ∧ Cel.ow w (icl r.trm) (.slice A.ma r.trm.length A.mc) f4 := by
 obtain ⟨f,h1,_⟩ := h
 obtain ⟨u1,us1,f1,g1,e1,o1,h2,_⟩ := h1
 cases e1
 obtain ⟨u2,us2,f2,g2,e2,o2,h3,_⟩ := h2
 cases e2
 obtain ⟨u3,us3,f3,g3,e3,o3,h4,_⟩ := h3
 cases e3
 obtain ⟨u4,us4,f4,g4,e4,o4,h5,_⟩ := h4
 cases e4
 exact ⟨f1,f2,f3,f4,o1,o2,o3,o4⟩
theorem it_rwp {w : World} {A : Ra} {r : Rw} {lo hi : Nat} (h : It w (rwCels r) (rwVals A r) lo hi) (hf : FitR r) (h6 : Rw64 r) (hs : szRw r ≤ 1048576) : RwP w A r := by
 obtain ⟨f1,f2,f3,f4,o1,o2,o3,o4⟩ := it_parts h
 exact ⟨ow_txp o1,ow_vcp o2 hf.1,ow_vcp o3 hf.2.1,ow_vcp o4 hf.2.2,h6,hs⟩
theorem it_rws {w : World} {A : Ra} {r : Rw} {lo hi : Nat} (h : It w (rwCels r) (rwVals A r) lo hi) (hf : FitR r) (hs : szRw r ≤ 1048576) : RwS w A r := by
 obtain ⟨f1,f2,f3,f4,o1,o2,o3,o4⟩ := it_parts h
 unfold szRw at hs
 exact ⟨(ow_txp o1).txs,(ow_vcp o2 hf.1).vec,(ow_vcp o3 hf.2.1).vec,(ow_vcp o4 hf.2.2).vec,by unfold maxLen;omega,by unfold maxLen;omega,by unfold maxLen;omega,by unfold maxLen;omega⟩
def ImplFollows : Prop := ∀ (A B : Ra) (r s : Rw) (n : Int) (w : World),RwP w A r → RwP w B s → I64v n → Calls Try.prog 28 #[rwV A r,rwV B s,.int .i64 n] w fun e w' => e = .returned (.bool (folB r s n)) ∧ Below w.heap.size w w'
theorem AnsRw.it {w w' : World} {e : Ending} {r : Rw} (h : AnsRw w w' e r) : ∃ A,e = .returned (rwV A r) ∧ It w' (rwCels r) (rwVals A r) w.heap.size w'.heap.size ∧ Below w.heap.size w w' := by
 obtain ⟨A,h1,h2⟩ := h
 exact ⟨A,h1,It.of_new h2,by obtain ⟨_,_,_,h3⟩ := h2;exact h3⟩
end Go.Proofs.Ytlnmdfgcpfbleaa