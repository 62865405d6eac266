/-
  Texts in one: Rzo Rzf Rzn Vwp Vws Vwt Rlo Rfu Rcn Rpu Rpn Cqs Dhl Vwa Iti Vwh Rzh Rzt Rzm Rzq Mbq Rnw Mbp Fnp Mbs.
-/
import Derived.Test.YthioodpmgifomaaGreatJab
import Derived.Test.YthioodpmgifomaaGreatJaa
import Derived.Deep.QuietTactic
import Derived.BigQuiet
import Derived.Deep.RegionHeld3
namespace Go.Proofs.YthioodpmgifomaaGreat
set_option linter.unusedVariables false
set_option linter.unusedSimpArgs false
open Go.RowKit Go.Sort
theorem okRw_n {r : Rw} {n : Int} (h : inB n 1 5 = false) : okRw r n = false := by rw [okRw,h];rfl
theorem okRw_v {r : Rw} {n : Int} (h : inB r.ver 0 1000000 = false) : okRw r n = false := by rw [okRw,h];simp
theorem okRw_t {r : Rw} {n : Int} (h : ¬ r.txt.length ≤ 12) : okRw r n = false := by rw [okRw,decide_eq_false h];simp
theorem okRw_g {r : Rw} {n : Int} (h : smB r.got n = false) : okRw r n = false := by rw [okRw,h];simp
theorem okRw_s {r : Rw} {n : Int} (h : susB r.sus n = false) : okRw r n = false := by rw [okRw,h];simp
theorem okRw_x {r : Rw} {n : Int} {k : Nat} (hk : k < r.txt.length) (h : ¬ (r.txt.getD k []).length ≤ 20) : okRw r n = false := by
 have : r.txt.all (fun t => decide (t.length ≤ 20)) = false := by
  rw [List.all_eq_false]
  refine ⟨r.txt[k],List.getElem_mem hk, ?_⟩
  rw [List.getD_eq_getElem?_getD,List.getElem?_eq_getElem hk] at h
  simpa using h
 rw [okRw,this]
 simp
def endB (r : Rw) (n : Int) : Bool := if r.rdy then r.wed && (inB r.by_ 0 (n - 1) && smB r.trm n) else decide (r.by_ = 0) && decide (r.trm = [])
theorem okRw_end {r : Rw} {n : Int} (h1 : inB n 1 5 = true) (h2 : inB r.ver 0 1000000 = true) (h3 : r.txt.length ≤ 12) (h4 : smB r.got n = true) (h5 : susB r.sus n = true) (h6 : ∀ k,k < r.txt.length → (r.txt.getD k []).length ≤ 20) : okRw r n = endB r n := by
 have : r.txt.all (fun t => decide (t.length ≤ 20)) = true := by
  rw [List.all_eq_true]
  intro t ht
  obtain ⟨j,hj,rfl⟩ := List.mem_iff_getElem.1 ht
  have := h6 j hj
  rw [List.getD_eq_getElem?_getD,List.getElem?_eq_getElem hj] at this
  simpa using this
 rw [okRw,h1,h2,decide_eq_true h3,h4,h5,this]
 rfl
attribute [local irreducible] sv
set_option maxRecDepth 100000 in
set_option maxHeartbeats 3200000 in
theorem rowS_any (A : Ra) (r : Rw) (n : Int) (w : World) (hv : RwS w A r) :
  Calls Tryz.prog 75 #[rwV A r,.int .i64 n] w fun e w' => e = .returned (.bool (okRw r n)) ∧ Below w.heap.size w w' := by
 have hB0 := oneA16 w (.cells (rwC A r) 37)
 have hx := Bx.new w 37 (rwC A r)
 have h0 := hv.below hB0
 generalize hW : w.alloc (.cells (rwC A r) 37) = W at *
 have hsz : w.heap.size < W.heap.size := hx.lt
 obtain ⟨ver,txt,got,sus,wed,rdy,by_,trm⟩ := r
 obtain ⟨ta,tc,ga,gc,sa,sc,ma,mc⟩ := A
 have hw0 : w.alloc (.cells #[.int .i64 ver,.slice ta txt.length tc,.slice ga got.length gc,.slice sa sus.length sc,.bool wed,.bool rdy,.int .i64 by_,.slice ma trm.length mc] 37) = W := hW
 obtain ⟨⟨c0,c1,c2,c3⟩,c4,c5,c6,c7⟩ := Bx.r8 hx
 have HX : Hid (Bx W w.heap.size 37 #[.int .i64 ver,.slice ta txt.length tc,.slice ga got.length gc,.slice sa sus.length sc,.bool wed,.bool rdy,.int .i64 by_,.slice ma trm.length mc]) := hx
 obtain ⟨htx,hgo,hsu,htr,mt,mg,ms,mm⟩ := h0
 simp only at htx hgo hsu htr mt mg ms mm c0 c1 c2 c3 c4 c5 c6 c7
 have HB0 : Hid (Below w.heap.size w W) := hB0
 unfold rwV rwC
 clear hv hx hW hB0
 have hVo := specOk_any ga got.length gc got W hgo mg
 simp only
 cases e1 : inB n 1 5 with
 | false =>
  have HZ : Hid (okRw ⟨ver,txt,got,sus,wed,rdy,by_,trm⟩ n = false) := okRw_n e1
  go_enter Tryz.func75,Tryz.ntmps75
  go_wp2_with (first | (go_at_call 73;refine (l1In_any _ _ _ _).mono ?_;rintro e w' ⟨rfl,hw'⟩;rw [hw'];clear hw'))
  go_ret
  exact ⟨ret_bool (by rw [HZ.out]),HB0.out⟩
 | true =>
 have hn5 := inB7.1 e1
 have hSu := susS_any sa sc sus n W hsu ms (by omega)
 have HN1 : Hid (inB n 1 5 = true) := e1
 cases e2 : inB ver 0 1000000 with
 | false =>
  have HZ : Hid (okRw ⟨ver,txt,got,sus,wed,rdy,by_,trm⟩ n = false) := okRw_v e2
  go_enter Tryz.func75,Tryz.ntmps75
  go_wp2_with (first | (go_at_call 73;refine (l1In_any _ _ _ _).mono ?_;rintro e w' ⟨rfl,hw'⟩;rw [hw'];clear hw'))
  go_ret
  exact ⟨ret_bool (by rw [HZ.out]),HB0.out⟩
 | true =>
 have HN2 : Hid (inB ver 0 1000000 = true) := e2
 by_cases h12 : txt.length ≤ 12
 rotate_left
 ·have g12 : (12 : Int) < (txt.length : Int) := by omega
  have HZ : Hid (okRw ⟨ver,txt,got,sus,wed,rdy,by_,trm⟩ n = false) := okRw_t h12
  go_enter Tryz.func75,Tryz.ntmps75
  go_wp2_with (first | (go_at_call 73;refine (l1In_any _ _ _ _).mono ?_;rintro e w' ⟨rfl,hw'⟩;rw [hw'];clear hw'))
  go_ret
  exact ⟨ret_bool (by rw [HZ.out]),HB0.out⟩
 have g12 : ¬ ((12 : Int) < (txt.length : Int)) := by omega
 cases e4 : okB got with
 | false =>
  rw [e4] at hVo
  have HZ : Hid (okRw ⟨ver,txt,got,sus,wed,rdy,by_,trm⟩ n = false) := okRw_g (by simp [smB,e4])
  go_enter Tryz.func75,Tryz.ntmps75
  go_wp2_with (first | (go_at_call 73;refine (l1In_any _ _ _ _).mono ?_;rintro e w' ⟨rfl,hw'⟩;rw [hw'];clear hw') | (go_at_call 133;refine hVo.mono ?_;rintro e w' ⟨rfl,hw'⟩;rw [hw'];clear hw'))
  go_ret
  exact ⟨ret_bool (by rw [HZ.out]),HB0.out⟩
 | true =>
 rw [e4] at hVo
 by_cases h5 : (got.length : Int) = n
 rotate_left
 ·have g5 : ((got.length : Int) != n) = true := by simpa using h5
  have HZ : Hid (okRw ⟨ver,txt,got,sus,wed,rdy,by_,trm⟩ n = false) := okRw_g (by simp [smB,h5])
  go_enter Tryz.func75,Tryz.ntmps75
  go_wp2_with (first | (go_at_call 73;refine (l1In_any _ _ _ _).mono ?_;rintro e w' ⟨rfl,hw'⟩;rw [hw'];clear hw') | (go_at_call 133;refine hVo.mono ?_;rintro e w' ⟨rfl,hw'⟩;rw [hw'];clear hw'))
  go_ret
  exact ⟨ret_bool (by rw [HZ.out]),HB0.out⟩
 have g5 : ((got.length : Int) != n) = false := by simpa using h5
 have HSM : Hid ((∀ k,k < got.length → el got k ≤ 12) → smB got n = true) := fun h => smB_parts e4 h5 h
 have HG5 : Hid ((got.length : Int) = n) := h5
 clear h5 e4
 cases e6 : susB sus n with
 | false =>
  rw [e6] at hSu
  have HZ : Hid (okRw ⟨ver,txt,got,sus,wed,rdy,by_,trm⟩ n = false) := okRw_s e6
  go_enter Tryz.func75,Tryz.ntmps75
  go_wp2_with (first | (go_at_call 73;refine (l1In_any _ _ _ _).mono ?_;rintro e w' ⟨rfl,hw'⟩;rw [hw'];clear hw') | (go_at_call 133;refine hVo.mono ?_;rintro e w' ⟨rfl,hw'⟩;rw [hw'];clear hw') | (go_at_call 134;refine hSu.mono ?_;rintro e w2 ⟨rfl,hb2⟩;obtain ⟨⟨d0,d1,d2,d3⟩,d4,d5,d6,d7⟩ := Bx.r8 (HX.out.below hb2)))
  go_ret
  exact ⟨ret_bool (by rw [HZ.out]),HB0.out.trans (hb2.mono HB0.out.size)⟩
 | true =>
 rw [e6] at hSu
 have HN6 : Hid (susB sus n = true) := e6
 clear e6
 have HTX : Hid (TxS W ta txt) := htx
 have HGO : Hid (Vec W ga got.length got) := hgo
 have HTR : Hid (Vec W ma trm.length trm) := htr
 clear htx hgo hsu htr
 go_enter Tryz.func75,Tryz.ntmps75
 go_wp2_with (first | (go_at_call 73;refine (l1In_any _ _ _ _).mono ?_;rintro e w' ⟨rfl,hw'⟩;rw [hw'];clear hw') | (go_at_call 133;refine hVo.mono ?_;rintro e w' ⟨rfl,hw'⟩;rw [hw'];clear hw') | (go_at_call 134;refine hSu.mono ?_;rintro e w2 ⟨rfl,hb2⟩;obtain ⟨⟨d0,d1,d2,d3⟩,d4,d5,d6,d7⟩ := Bx.r8 (HX.out.below hb2)))
 have HB2 : Hid (Below w.heap.size w w2) := HB0.out.trans (hb2.mono HB0.out.size)
 have HT2 : Hid (TxS w2 ta txt) := HTX.out.below hb2
 have HG2 : Hid (Vec w2 ga got.length got) := HGO.out.below hb2 (Nat.le_refl _)
 have hTr := trmS16_any ma mc trm n w2 (HTR.out.below hb2 (Nat.le_refl _)) mm
 unfold maxLen at mt mg ms mm
 clear hVo hSu hb2 c0 c1 c2 c3 c4 c5 c6 c7 hw0 g5 e1 e2 HTX HGO HTR
 go_loop [5] (fun i => ∃ k : Nat,k ≤ txt.length ∧ i = .int .i64 k ∧ ∀ j,j < k → (txt.getD j []).length ≤ 20) (fun i => txt.length - (intOf i).toNat)
 case atStart => exact ⟨0,Nat.zero_le _,rfl,fun j hj => by omega⟩
 case round =>
  obtain ⟨k,hk,rfl,hall⟩ := hrel
  have HA : Hid (∀ j,j < k → (txt.getD j []).length ≤ 20) := hall
  clear hall
  by_cases hlt : k < txt.length
  ·rcases HT2.out with h0 | ⟨b,off,rfl,hc⟩
   ·omega
   have hck := hc k hlt
   have k1 : (k : Int) < (txt.length : Int) := by omega
   have k0 : (0 : Int) ≤ (k : Int) := by omega
   clear hc
   have hszt := sv_size (txt.getD k [])
   by_cases h20 : (txt.getD k []).length ≤ 20
   ·have g20 : ¬ ((20 : Int) < ((txt.getD k []).length : Int)) := by omega
    have HN : Hid (∀ j,j < k + 1 → (txt.getD j []).length ≤ 20) := fun j hj => by
     rcases Nat.lt_succ_iff_lt_or_eq.1 hj with h1 | h1
     ·exact HA.out j h1
     ·rw [h1];exact h20
    generalize txt.getD k [] = t at *
    clear h20
    go_wp2
    go_round
    case rel => exact ⟨k + 1,by omega,by go_num,HN.out⟩
    case measure => simp [intOf];omega
   ·have g20 : (20 : Int) < ((txt.getD k []).length : Int) := by omega
    have HZ : Hid (okRw ⟨ver,txt,got,sus,wed,rdy,by_,trm⟩ n = false) := okRw_x (k := k) hlt h20
    generalize txt.getD k [] = t at *
    clear h20
    go_wp2
    go_ret
    exact ⟨ret_bool (by rw [HZ.out]),HB2.out⟩
  ·have k1 : ¬ ((k : Int) < (txt.length : Int)) := by omega
   have HAll : Hid (∀ j,j < txt.length → (txt.getD j []).length ≤ 20) := fun j hj => HA.out j (by omega)
   clear HA HT2
   go_wp2
   go_loop [6] (fun i => ∃ m : Nat,m ≤ got.length ∧ i = .int .i64 m ∧ ∀ j,j < m → el got j ≤ 12) (fun i => got.length - (intOf i).toNat)
   case atStart => exact ⟨0,Nat.zero_le _,rfl,fun j hj => by omega⟩
   case round =>
    obtain ⟨m,hm,rfl,hall⟩ := hrel
    have HA : Hid (∀ j,j < m → el got j ≤ 12) := hall
    clear hall
    by_cases hlt2 : m < got.length
    ·rcases HG2.out.2.2 with h0 | ⟨b,off,rfl,hc⟩
     ·omega
     have hck := hc m hlt2
     have k1 : (m : Int) < (got.length : Int) := by omega
     have k0 : (0 : Int) ≤ (m : Int) := by omega
     clear hc
     by_cases h12' : el got m ≤ 12
     ·have g12' : ¬ (12 < el got m) := by omega
      have HN : Hid (∀ j,j < m + 1 → el got j ≤ 12) := fun j hj => by
       rcases Nat.lt_succ_iff_lt_or_eq.1 hj with h1 | h1
       ·exact HA.out j h1
       ·rw [h1];exact h12'
      generalize el got m = x at *
      clear h12'
      go_wp2
      go_round
      case rel => exact ⟨m + 1,by omega,by go_num,HN.out⟩
      case measure => simp [intOf];omega
     ·have g12' : 12 < el got m := by omega
      have HZ : Hid (okRw ⟨ver,txt,got,sus,wed,rdy,by_,trm⟩ n = false) := okRw_g (smB_not (v := got) hlt2 h12')
      generalize el got m = x at *
      clear h12'
      go_wp2
      go_ret
      exact ⟨ret_bool (by rw [HZ.out]),HB2.out⟩
    ·have k1 : ¬ ((m : Int) < (got.length : Int)) := by omega
     have HE : Hid (okRw ⟨ver,txt,got,sus,wed,rdy,by_,trm⟩ n = endB ⟨ver,txt,got,sus,wed,rdy,by_,trm⟩ n) := okRw_end HN1.out HN2.out h12 (HSM.out (fun j hj => HA.out j (by omega))) HN6.out HAll.out
     clear HA HG2 HAll
     have hwn : wrap64 (n - 1) = n - 1 := by unfold wrap64;omega
     cases rdy with
     | true =>
      cases wed with
      | false =>
       have HZ : Hid (okRw ⟨ver,txt,got,sus,false,true,by_,trm⟩ n = false) := by rw [Hid,HE.out];rfl
       go_wp2
       go_ret
       exact ⟨ret_bool (by rw [HZ.out]),HB2.out⟩
      | true =>
       cases e7 : inB by_ 0 (n - 1) with
       | false =>
        have HZ : Hid (okRw ⟨ver,txt,got,sus,true,true,by_,trm⟩ n = false) := by rw [Hid,HE.out,endB];simp [e7]
        go_wp2_with (first | (go_at_call 73;refine (l1In_any _ _ _ _).mono ?_;rintro e w' ⟨rfl,hw'⟩;rw [hw'];clear hw'))
        go_ret
        exact ⟨ret_bool (by rw [HZ.out]),HB2.out⟩
       | true =>
        have HZ : Hid (okRw ⟨ver,txt,got,sus,true,true,by_,trm⟩ n = smB trm n) := by rw [Hid,HE.out,endB];simp [e7]
        generalize smB trm n = Q at *
        go_wp2_with (first | (go_at_call 73;refine (l1In_any _ _ _ _).mono ?_;rintro e w' ⟨rfl,hw'⟩;rw [hw'];clear hw') | (go_at_call 135;refine hTr.mono ?_;rintro e w' ⟨rfl,hw'⟩;rw [hw'];clear hw'))
        go_ret
        exact ⟨ret_bool (by rw [HZ.out]),HB2.out⟩
     | false =>
      have HZ : Hid (okRw ⟨ver,txt,got,sus,wed,false,by_,trm⟩ n = (decide (by_ = 0) && decide (trm = []))) := by rw [Hid,HE.out];rfl
      by_cases h7 : by_ = 0
      ·have g7 : (by_ == 0) = true := by simpa using h7
       have HZ2 : Hid (okRw ⟨ver,txt,got,sus,wed,false,by_,trm⟩ n = decide (trm = [])) := by rw [Hid,HZ.out,decide_eq_true h7];rfl
       by_cases h8 : trm = []
       ·have g8 : ((trm.length : Int) == 0) = true := by rw [h8];rfl
        have HZ3 : Hid (okRw ⟨ver,txt,got,sus,wed,false,by_,trm⟩ n = true) := by rw [Hid,HZ2.out,decide_eq_true h8]
        clear h7 h8
        go_wp2
        go_ret
        exact ⟨ret_bool (by rw [HZ3.out]),HB2.out⟩
       ·have g8 : ((trm.length : Int) == 0) = false := by
         have := List.length_pos_iff.2 h8
         simp;omega
        have HZ3 : Hid (okRw ⟨ver,txt,got,sus,wed,false,by_,trm⟩ n = false) := by rw [Hid,HZ2.out,decide_eq_false h8]
        clear h7 h8
        go_wp2
        go_ret
        exact ⟨ret_bool (by rw [HZ3.out]),HB2.out⟩
      ·have g7 : (by_ == 0) = false := by simpa using h7
       have HZ3 : Hid (okRw ⟨ver,txt,got,sus,wed,false,by_,trm⟩ n = false) := by rw [Hid,HZ.out,decide_eq_false h7];rfl
       clear h7
       go_wp2
       go_ret
       exact ⟨ret_bool (by rw [HZ3.out]),HB2.out⟩
end Go.Proofs.YthioodpmgifomaaGreat
namespace Go.Proofs.YthioodpmgifomaaGreat
set_option linter.unusedVariables false
set_option linter.unusedSimpArgs false
open Go.RowKit Go.Sort
attribute [local irreducible] sv
end Go.Proofs.YthioodpmgifomaaGreat
namespace Go.Proofs.YthioodpmgifomaaGreat
set_option linter.unusedVariables false
set_option linter.unusedSimpArgs false
open Go.RowKit Go.Sort
def rwCels (r : Rw) : List Cel := [scl r.txt,icl r.got,icl r.sus,icl r.trm]
def rwVals (A : Ra) (r : Rw) : List Value := [.slice A.ta r.txt.length A.tc,.slice A.ga r.got.length A.gc,.slice A.sa r.sus.length A.sc,.slice A.ma r.trm.length A.mc]
def AnsRw (w w' : World) (e : Ending) (r : Rw) : Prop := ∃ A : Ra,e = .returned (rwV A r) ∧ NewL w w' (rwCels r) (rwVals A r)
theorem owL4 {w : World} {c1 c2 c3 c4 : Cel} {v1 v2 v3 v4 : Value} {f1 f2 f3 f4 : Fp} (h1 : Cel.ow w c1 v1 f1) (h2 : Cel.ow w c2 v2 f2) (h3 : Cel.ow w c3 v3 f3) (h4 : Cel.ow w c4 v4 f4) (d1 : ∀ b,f1 b → ¬ (f2 b ∨ f3 b ∨ f4 b)) (d2 : ∀ b,f2 b → ¬ (f3 b ∨ f4 b)) (d3 : ∀ b,f3 b → ¬ f4 b) :
  owL w [c1,c2,c3,c4] [v1,v2,v3,v4] (fun b => f1 b ∨ f2 b ∨ f3 b ∨ f4 b) :=
 ⟨v1,_,f1,fun b => f2 b ∨ f3 b ∨ f4 b,rfl,h1,⟨v2,_,f2,fun b => f3 b ∨ f4 b,rfl,h2,⟨v3,_,f3,f4,rfl,h3,⟨v4,[],f4,fun _ => False,rfl,h4,⟨rfl,fun _ h => h⟩,fun _ _ h => h,fun b => by simp⟩,d3,fun b => Iff.rfl⟩,d2,fun b => Iff.rfl⟩,d1,fun b => Iff.rfl⟩
theorem ow_none_s (w : World) : Cel.ow w (scl []) (.slice none 0 0) (fun _ => False) := ow_scl.2 ⟨none,0,none,rfl,OSo.nil _ _ plainN,fun b => by simp⟩
theorem ow_none_i (w : World) : Cel.ow w (icl []) (.slice none 0 0) (fun _ => False) := ow_icl.2 ⟨none,0,none,rfl,OSo.nil _ _ plainN,fun b => by simp⟩
theorem wrt8 (w : World) (g : Nat) {a b c d e f h i : Value} : Wrt (fun x => x = g) w ((((((((w.setCell ⟨g,0,none⟩ a).setCell ⟨g,1,none⟩ b).setCell ⟨g,2,none⟩ c).setCell ⟨g,3,none⟩ d).setCell ⟨g,4,none⟩ e).setCell ⟨g,5,none⟩ f).setCell ⟨g,6,none⟩ h).setCell ⟨g,7,none⟩ i) :=
 (((((((Wrt.set w g 0 a).trans (Wrt.set _ g 1 b) (fun _ _ h => h)).trans (Wrt.set _ g 2 c) (fun _ _ h => h)).trans (Wrt.set _ g 3 d) (fun _ _ h => h)).trans (Wrt.set _ g 4 e) (fun _ _ h => h)).trans (Wrt.set _ g 5 f) (fun _ _ h => h)).trans (Wrt.set _ g 6 h) (fun _ _ h => h)).trans (Wrt.set _ g 7 i) (fun _ _ h => h)
theorem Bx.f8 {w : World} {B : Nat} {T : TypeId} {cs : Array Value} (h : Bx w B T cs) : (w.frozen? ⟨B,0,none⟩ = false ∧ w.frozen? ⟨B,1,none⟩ = false ∧ w.frozen? ⟨B,2,none⟩ = false ∧ w.frozen? ⟨B,3,none⟩ = false) ∧ w.frozen? ⟨B,4,none⟩ = false ∧ w.frozen? ⟨B,5,none⟩ = false ∧ w.frozen? ⟨B,6,none⟩ = false ∧ w.frozen? ⟨B,7,none⟩ = false :=
 ⟨⟨h.f 0,h.f 1,h.f 2,h.f 3⟩,h.f 4,h.f 5,h.f 6,h.f 7⟩
end Go.Proofs.YthioodpmgifomaaGreat
namespace Go.Proofs.YthioodpmgifomaaGreat
set_option linter.unusedVariables false
set_option linter.unusedSimpArgs false
abbrev Vw := Int × List Int
def okVw (v : Vw) : Prop := (1 ≤ v.1 ∧ v.1 ≤ 1000000) ∧ (1 ≤ v.2.length ∧ v.2.length ≤ 8) ∧ v.2.Pairwise (· < ·) ∧ ∀ x ∈ v.2,0 ≤ x ∧ x ≤ 99
instance (v : Vw) : Decidable (okVw v) := by unfold okVw;infer_instance
theorem el_in {xs : List Int} {i : Nat} (h : i < xs.length) : el xs i ∈ xs := by simp [el,List.getD,h]
theorem el_of {xs : List Int} {x : Int} (h : x ∈ xs) : ∃ i,i < xs.length ∧ el xs i = x := by
 obtain ⟨i,hi,e⟩ := List.mem_iff_getElem.1 h
 exact ⟨i,hi,by simp [el,List.getD,hi,e]⟩
def cntL (m l : List Int) : Nat := (m.filter (fun x => decide (x ∈ l))).length
def mjP (v : Vw) (l : List Int) : Prop := okVw v ∧ v.2.length < 2 * cntL v.2 l
instance (v : Vw) (l : List Int) : Decidable (mjP v l) := by unfold mjP;infer_instance
def lftL (m gone : List Int) : List Int := m.filter (fun x => decide (x ∉ gone))
def putsL (m come : List Int) : List Int := come.foldl putL m
def aftP (v : Vw) (gone come : List Int) : Prop := okVw v ∧ mjP v (lftL v.2 gone) ∧ okVw (v.1 + 1,putsL (lftL v.2 gone) come)
instance (v : Vw) (gone come : List Int) : Decidable (aftP v gone come) := by unfold aftP;infer_instance
set_option linter.unusedVariables false
set_option linter.unusedSimpArgs false
open Go.RowKit Go.Sort
end Go.Proofs.YthioodpmgifomaaGreat
namespace Go.Proofs.YthioodpmgifomaaGreat
set_option linter.unusedVariables false
set_option linter.unusedSimpArgs false
open Go.RowKit Go.Sort
end Go.Proofs.YthioodpmgifomaaGreat
namespace Go.Proofs.YthioodpmgifomaaGreat
set_option linter.unusedVariables false
set_option linter.unusedSimpArgs false
open Go.RowKit Go.Sort
end Go.Proofs.YthioodpmgifomaaGreat
namespace Go.Proofs.YthioodpmgifomaaGreat
set_option linter.unusedVariables false
set_option linter.unusedSimpArgs false
open Go.RowKit Go.Sort
end Go.Proofs.YthioodpmgifomaaGreat
namespace Go.Proofs.YthioodpmgifomaaGreat
set_option linter.unusedVariables false
set_option linter.unusedSimpArgs false
open Go.RowKit Go.Sort
theorem below_cell {w w' : World} (hb : Below w.heap.size w w') {p : Addr} {v : Value} (h : w.cell? p = some v) : w'.cell? p = some v := (hb.cell (World.block_lt_of_cell? _ _ h)).trans h
end Go.Proofs.YthioodpmgifomaaGreat
namespace Go.Proofs.YthioodpmgifomaaGreat
set_option linter.unusedVariables false
set_option linter.unusedSimpArgs false
open Go.RowKit Go.Sort
theorem putL_at (n : Int) : ∀ (h : List Int) (k : Nat),k ≤ h.length → (∀ t,t < k → el h t < n) → (k < h.length → ¬ el h k < n) →
  putL h n = if k < h.length ∧ el h k = n then h else h.take k ++ n :: h.drop k := by
 intro h
 induction h with
 | nil => intro k hk _ _;simp at hk;subst hk;simp [putL]
 | cons x l ih =>
  intro k hk hlt hge
  cases k with
  | zero =>
   have h0 : ¬ x < n := by simpa [el] using hge (by simp)
   unfold putL
   rw [if_neg h0]
   by_cases e : x = n
   ·rw [if_pos e,if_pos ⟨by simp,by simpa [el] using e⟩]
   ·rw [if_neg e,if_neg (by simp [el];exact e)]
    simp
  | succ k =>
   have h0 : x < n := by simpa [el] using hlt 0 (by omega)
   have hs : ∀ t,el (x :: l) (t + 1) = el l t := fun t => by simp [el]
   unfold putL
   rw [if_pos h0,ih k (by simpa using hk) (fun t ht => by rw [← hs];exact hlt (t + 1) (by omega)) (fun hk' => by rw [← hs];exact hge (by simpa using hk')),hs]
   by_cases e : k < l.length ∧ el l k = n
   ·rw [if_pos e,if_pos ⟨by simpa using e.1,e.2⟩]
   ·rw [if_neg e,if_neg (by simpa using e)]
    simp
theorem el_take {xs : List Int} {k i : Nat} (h : i < k) : el (xs.take k) i = el xs i := by simp [el,List.getElem?_take,h]
theorem el_drop {xs : List Int} {k i : Nat} : el (xs.drop k) i = el xs (k + i) := by simp [el,List.getElem?_drop]
theorem app_one {w w2 : World} {g2 o2 c2 m : Nat} {Z : List Int} (ho2 : OSl w2 1 g2 o2 (0 + m) c2 (([] : List Int).map (Value.int .i64) ++ Z.map (Value.int .i64))) (hg2 : (w.alloc (.cells #[] 2)).grownBy w2 (some w.heap.size))
  (hat2 : g2 = w.heap.size ∨ g2 = (w.alloc (.cells #[] 2)).heap.size) : OI w2 g2 o2 m c2 Z ∧ w.heap.size ≤ g2 ∧ Below w.heap.size w w2 ∧ g2 < w2.heap.size := by
 simp only [List.map_nil,List.nil_append,Nat.zero_add] at ho2
 refine ⟨ho2, ?_,below_grown6 ((Below.refl _ _).alloc (Nat.le_refl _) _) hg2 (Nat.le_refl _) (by simp),ho2.blk⟩
 rcases hat2 with h | h
 ·rw [h];exact Nat.le_refl _
 ·rw [h];simp
theorem app_more {w w3 w4 : World} {o : Obj} {g3 g4 o4 c4 m k : Nat} {T : List Int} {n : Int} (hB : Below w.heap.size w w3) (hg : w.heap.size ≤ g3) (ho : OSl w4 1 g4 o4 (k + 1) c4 (T.map (Value.int .i64) ++ [.int .i64 n])) (hg4 : (w3.alloc o).grownBy w4 (some g3))
  (hat : g4 = g3 ∨ g4 = (w3.alloc o).heap.size) : OI w4 g4 o4 (k + 1) c4 (T ++ [n]) ∧ w.heap.size ≤ g4 ∧ Below w.heap.size w w4 := by
 refine ⟨by rw [OI,List.map_append];exact ho, ?_,below_grown6 (hB.alloc hB.size _) hg4 hg (Nat.le_trans hB.size (by simp))⟩
 rcases hat with h | h
 ·rw [h];exact hg
 ·rw [h];exact Nat.le_trans hB.size (by simp)
theorem app_last {w w4 w5 : World} {g4 g5 o5 c5 m k : Nat} {T D : List Int} {n : Int} (hB : Below w.heap.size w w4) (hg : w.heap.size ≤ g4) (ho : OSl w5 1 g5 o5 (k + 1 + m) c5 ((T ++ [n]).map (Value.int .i64) ++ D.map (Value.int .i64))) (hg5 : w4.grownBy w5 (some g4))
  (hat : g5 = g4 ∨ g5 = w4.heap.size) : OI w5 g5 o5 (k + 1 + m) c5 (T ++ n :: D) ∧ w.heap.size ≤ g5 ∧ Below w.heap.size w w5 := by
 refine ⟨by rw [OI,show T ++ n :: D = (T ++ [n]) ++ D by simp,List.map_append];exact ho, ?_,below_grown6 hB hg5 hg hB.size⟩
 rcases hat with h | h
 ·rw [h];exact hg
 ·rw [h];exact hB.size
set_option maxRecDepth 100000 in
set_option maxHeartbeats 3200000 in
theorem putS_any (b off len cap : Nat) (xs : List Int) (n : Int) (w : World) (hl : xs.length = len) (hc : ∀ i,i < len → w.cell? ⟨b,off + i,none⟩ = some (.int .i64 (el xs i))) (hcap : len ≤ cap) (hm : cap ≤ maxLen) (hn : len ≤ 100000000) :
  Calls Tryz.prog 122 #[.slice (some ⟨b,off,none⟩) len cap,.int .i64 n] w fun e w' => (e = .returned (.slice (some ⟨b,off,none⟩) len cap) ∧ putL xs n = xs ∧ w' = w) ∨ AnsN w w' e (putL xs n) := by
 obtain ⟨i0,hi0,hz0,hz1,hz2⟩ := info_parts2n Tryz.info2n
 unfold maxLen at hm
 have HL : Hid (xs.length = len) := hl
 have HP : Hid (∀ k,k ≤ len → (∀ t,t < k → el xs t < n) → (k < len → ¬ el xs k < n) → putL xs n = if k < len ∧ el xs k = n then xs else xs.take k ++ n :: xs.drop k) := fun k h1 h2 h3 => by
  have := putL_at n xs k (by omega) h2 (by rw [hl];exact h3)
  rw [hl] at this
  exact this
 clear hl
 go_enter Tryz.func122,Tryz.ntmps122
 go_wp2_with fail
 go_loop [5] (fun i => ∃ k : Nat,k ≤ len ∧ i = .int .i64 k ∧ ∀ t,t < k → el xs t < n) (fun i => len - (intOf i).toNat)
 case atStart => exact ⟨0,Nat.zero_le _,rfl,fun t ht => by omega⟩
 case round =>
  obtain ⟨k,hk,rfl,hlo⟩ := hrel
  have HO : Hid (∀ t,t < k → el xs t < n) := hlo
  clear hlo
  have k0 : (0 : Int) ≤ (k : Int) := by omega
  by_cases hlt : k < len
  ·have hck := hc k hlt
   have k1 : (k : Int) < (len : Int) := by omega
   by_cases hx : el xs k < n
   ·have hd : decide (el xs k < n) = true := by simpa using hx
    have HE : Hid (∀ t,t < k + 1 → el xs t < n) := fun t ht => by
     rcases Nat.lt_succ_iff_lt_or_eq.1 ht with h1 | h1
     ·exact HO.out t h1
     ·rw [h1];exact hx
    go_wp2
    go_round
    case rel => exact ⟨k + 1,by omega,by go_num,HE.out⟩
    case measure => simp [intOf];omega
   ·have hd : decide (el xs k < n) = false := by simpa using hx
    have HQ := HP.out k hk HO.out (fun _ => by omega)
    by_cases he : el xs k = n
    ·have hb : (el xs k == n) = true := by simpa using he
     have HZ : Hid (putL xs n = xs) := by rw [Hid,HQ,if_pos ⟨hlt,he⟩]
     clear HQ he hx
     go_wp2
     go_ret
     exact .inl ⟨rfl,HZ.out,rfl⟩
    ·have hb : (el xs k == n) = false := by simpa using he
     have HZ : Hid (putL xs n = xs.take k ++ n :: xs.drop k) := by rw [Hid,HQ,if_neg (fun h => he h.2)]
     clear HQ he hx
     have k2 : (k : Int) ≤ (len : Int) := by omega
     have k3 : (k : Int) ≤ (cap : Int) := by omega
     have HTl : Hid ((xs.take k).length = k) := by rw [Hid,List.length_take,HL.out];omega
     have HDl : Hid ((xs.drop k).length = len - k) := by rw [Hid,List.length_drop,HL.out]
     have HD : Hid (∀ i,i < (xs.drop k).length → (w.alloc (.cells #[] 2)).cell? ⟨b,off + k + i,none⟩ = some (.int .i64 (el (xs.drop k) i))) := fun i hi => by
      rw [el_drop,Nat.add_assoc]
      exact below_cell ((Below.refl _ _).alloc (Nat.le_refl _) _) (hc (k + i) (by have := HDl.out;omega))
     have HT : Hid (∀ i,i < (xs.take k).length → w.cell? ⟨b,off + i,none⟩ = some (.int .i64 (el (xs.take k) i))) := fun i hi => by
      rw [el_take (by have := HTl.out;omega)]
      exact hc i (by have := HTl.out;omega)
     clear hc
     generalize xs.take k = T at *
     generalize xs.drop k = D at *
     have hTn : (T.map (Value.int .i64)).length = k * 1 := by rw [List.length_map,HTl.out];omega
     have hDn : (D.map (Value.int .i64)).length = (len - k) * 1 := by rw [List.length_map,HDl.out];omega
     go_wp2_with (first
      | (at_builtin;refine wpList_append_os _ rfl (.tmp 34) (.tmp 37) _ rfl 2 i0 _ 1 8 Tryz.underlying25 hi0 hz0 hz1 hz2 rfl (by omega) w.heap.size 0 0 0 (([] : List Int).map (Value.int .i64)) rfl (num_empty w 2) ⟨b,off + k,none⟩ (len - k) (cap - k) (D.map (Value.int .i64)) rfl hDn (num_news HD.out) (by simp [Value.oneCell']) (by unfold maxLen;omega) (by omega) ?_;intro g2 o2 c2 w2 ho2 hg2 hat2;obtain ⟨q2,r2,s2,t2⟩ := app_one ho2 hg2 hat2;clear ho2 hg2 hat2)
      | (at_builtin;refine wpList_append_os _ rfl (.tmp 39) (.tmp 42) _ rfl 2 i0 _ 1 8 Tryz.underlying25 hi0 hz0 hz1 hz2 rfl (by omega) w2.heap.size 0 0 0 (([] : List Int).map (Value.int .i64)) rfl (num_empty w2 2) ⟨b,off,none⟩ k cap (T.map (Value.int .i64)) rfl hTn (num_news (fun i hi => below_cell ((Below.refl _ _).alloc (Nat.le_refl _) _) (below_cell s2 (HT.out i hi)))) (by simp [Value.oneCell']) (by unfold maxLen;omega) (by omega) ?_;intro g3 o3 c3 w3 ho3 hg3 hat3;obtain ⟨q3,r3,s3,t3⟩ := app_one ho3 hg3 hat3;clear ho3 hg3 hat3)
      | (at_builtin;refine wpList_append_os _ rfl (.tmp 43) (.tmp 45) _ rfl 2 i0 _ 1 8 Tryz.underlying25 hi0 hz0 hz1 hz2 rfl (by omega) g3 o3 k c3 (T.map (Value.int .i64)) rfl (OSl.below q3 ((Below.refl _ _).alloc (Nat.le_refl _) _) t3) ⟨w3.heap.size,0,none⟩ 1 1 [.int .i64 n] rfl rfl (World.news_of_block (cs := #[.int .i64 n]) (t := 2) (fr := (0,0)) (heap_alloc_new _ _)) (by simp [Value.oneCell']) (by unfold maxLen;omega) (by omega) ?_;intro g4 o4 c4 w4 ho4 hg4 hat4;obtain ⟨q4,r4,s4⟩ := app_more (m := 0) s3 r3 ho4 hg4 hat4;clear ho4 hg4 hat4)
      | (at_builtin;refine wpList_append_os _ rfl (.tmp 46) (.tmp 47) _ rfl 2 i0 _ 1 8 Tryz.underlying25 hi0 hz0 hz1 hz2 rfl (by omega) g4 o4 (k + 1) c4 ((T ++ [n]).map (Value.int .i64)) rfl q4 ⟨g2,o2,none⟩ (len - k) c2 (D.map (Value.int .i64)) rfl hDn (num_news (fun i hi => OI.cellAt (show OI w4 g2 o2 (len - k) c2 D from OSl.below q2 s4 t2) (by have := HDl.out;omega))) (by simp [Value.oneCell']) (by unfold maxLen;omega) (by omega) ?_;intro g5 o5 c5 w5 ho5 hg5 hat5;obtain ⟨q5,r5,s5⟩ := app_last s4 r4 ho5 hg5 hat5;clear ho5 hg5 hat5))
     go_ret
     refine .inr ⟨g5,o5,c5, ?_,Nat.le_trans s2.size r5, ?_,s2.trans (s5.mono s2.size)⟩
     ·rw [HZ.out,List.length_append,List.length_cons,HTl.out,HDl.out]
      exact congrArg (fun z => Ending.returned (.slice (some ⟨g5,o5,none⟩) z c5)) (by omega)
     ·rw [HZ.out,List.length_append,List.length_cons,HTl.out,HDl.out,show k + (len - k + 1) = k + 1 + (len - k) by omega]
      exact q5
  ·have HQ := HP.out k hk HO.out (fun h => absurd h hlt)
   have HZ : Hid (putL xs n = xs.take k ++ n :: xs.drop k) := by rw [Hid,HQ,if_neg (fun h => hlt h.1)]
   clear HQ
   have hkl : len = k := by omega
   subst hkl
   clear hlt
   by_cases hcl : len = cap
   ·subst hcl
    have k2 : (0 : Int) ≤ (len : Int) := by omega
    have k3 : (len : Int) ≤ (len : Int) := by omega
    have HTl : Hid ((xs.take len).length = len) := by rw [Hid,List.length_take,HL.out];omega
    have HDl : Hid ((xs.drop len).length = 0) := by rw [Hid,List.length_drop,HL.out];omega
    have HD : Hid (∀ i,i < (xs.drop len).length → (w.alloc (.cells #[] 2)).cell? ⟨b,off + i,none⟩ = some (.int .i64 (el (xs.drop len) i))) := fun i hi => absurd hi (by have := HDl.out;omega)
    have HT : Hid (∀ i,i < (xs.take len).length → w.cell? ⟨b,off + i,none⟩ = some (.int .i64 (el (xs.take len) i))) := fun i hi => by
     rw [el_take (by have := HTl.out;omega)]
     exact hc i (by have := HTl.out;omega)
    clear hc
    generalize xs.take len = T at *
    generalize xs.drop len = D at *
    have hTn : (T.map (Value.int .i64)).length = len * 1 := by rw [List.length_map,HTl.out];omega
    have hDn : (D.map (Value.int .i64)).length = 0 * 1 := by rw [List.length_map,HDl.out]
    go_wp2_with (first
     | (at_builtin;refine wpList_append_os _ rfl (.tmp 34) (.tmp 37) _ rfl 2 i0 _ 1 8 Tryz.underlying25 hi0 hz0 hz1 hz2 rfl (by omega) w.heap.size 0 0 0 (([] : List Int).map (Value.int .i64)) rfl (num_empty w 2) ⟨b,off,none⟩ 0 0 (D.map (Value.int .i64)) rfl hDn (num_news HD.out) (by simp [Value.oneCell']) (by unfold maxLen;omega) (by omega) ?_;intro g2 o2 c2 w2 ho2 hg2 hat2;obtain ⟨q2,r2,s2,t2⟩ := app_one ho2 hg2 hat2;clear ho2 hg2 hat2)
     | (at_builtin;refine wpList_append_os _ rfl (.tmp 39) (.tmp 42) _ rfl 2 i0 _ 1 8 Tryz.underlying25 hi0 hz0 hz1 hz2 rfl (by omega) w2.heap.size 0 0 0 (([] : List Int).map (Value.int .i64)) rfl (num_empty w2 2) ⟨b,off,none⟩ len len (T.map (Value.int .i64)) rfl hTn (num_news (fun i hi => below_cell ((Below.refl _ _).alloc (Nat.le_refl _) _) (below_cell s2 (HT.out i hi)))) (by simp [Value.oneCell']) (by unfold maxLen;omega) (by omega) ?_;intro g3 o3 c3 w3 ho3 hg3 hat3;obtain ⟨q3,r3,s3,t3⟩ := app_one ho3 hg3 hat3;clear ho3 hg3 hat3)
     | (at_builtin;refine wpList_append_os _ rfl (.tmp 43) (.tmp 45) _ rfl 2 i0 _ 1 8 Tryz.underlying25 hi0 hz0 hz1 hz2 rfl (by omega) g3 o3 len c3 (T.map (Value.int .i64)) rfl (OSl.below q3 ((Below.refl _ _).alloc (Nat.le_refl _) _) t3) ⟨w3.heap.size,0,none⟩ 1 1 [.int .i64 n] rfl rfl (World.news_of_block (cs := #[.int .i64 n]) (t := 2) (fr := (0,0)) (heap_alloc_new _ _)) (by simp [Value.oneCell']) (by unfold maxLen;omega) (by omega) ?_;intro g4 o4 c4 w4 ho4 hg4 hat4;obtain ⟨q4,r4,s4⟩ := app_more (m := 0) s3 r3 ho4 hg4 hat4;clear ho4 hg4 hat4)
     | (at_builtin;refine wpList_append_os _ rfl (.tmp 46) (.tmp 47) _ rfl 2 i0 _ 1 8 Tryz.underlying25 hi0 hz0 hz1 hz2 rfl (by omega) g4 o4 (len + 1) c4 ((T ++ [n]).map (Value.int .i64)) rfl q4 ⟨g2,o2,none⟩ 0 c2 (D.map (Value.int .i64)) rfl hDn (num_news (fun i hi => OI.cellAt (show OI w4 g2 o2 0 c2 D from OSl.below q2 s4 t2) (by have := HDl.out;omega))) (by simp [Value.oneCell']) (by unfold maxLen;omega) (by omega) ?_;intro g5 o5 c5 w5 ho5 hg5 hat5;obtain ⟨q5,r5,s5⟩ := app_last s4 r4 ho5 hg5 hat5;clear ho5 hg5 hat5))
    go_ret
    refine .inr ⟨g5,o5,c5, ?_,Nat.le_trans s2.size r5, ?_,s2.trans (s5.mono s2.size)⟩
    ·rw [HZ.out,List.length_append,List.length_cons,HTl.out,HDl.out]
     exact congrArg (fun z => Ending.returned (.slice (some ⟨g5,o5,none⟩) z c5)) (by omega)
    ·rw [HZ.out,List.length_append,List.length_cons,HTl.out,HDl.out,show len + (0 + 1) = len + 1 + 0 by omega]
     exact q5
   ·have hcl2 : ¬ (cap = len) := fun h => hcl h.symm
    have k2 : (0 : Int) ≤ (len : Int) := by omega
    have k3 : (len : Int) ≤ (cap : Int) := by omega
    have HTl : Hid ((xs.take len).length = len) := by rw [Hid,List.length_take,HL.out];omega
    have HDl : Hid ((xs.drop len).length = 0) := by rw [Hid,List.length_drop,HL.out];omega
    have HD : Hid (∀ i,i < (xs.drop len).length → (w.alloc (.cells #[] 2)).cell? ⟨b,off + len + i,none⟩ = some (.int .i64 (el (xs.drop len) i))) := fun i hi => absurd hi (by have := HDl.out;omega)
    have HT : Hid (∀ i,i < (xs.take len).length → w.cell? ⟨b,off + i,none⟩ = some (.int .i64 (el (xs.take len) i))) := fun i hi => by
     rw [el_take (by have := HTl.out;omega)]
     exact hc i (by have := HTl.out;omega)
    clear hc
    generalize xs.take len = T at *
    generalize xs.drop len = D at *
    have hTn : (T.map (Value.int .i64)).length = len * 1 := by rw [List.length_map,HTl.out];omega
    have hDn : (D.map (Value.int .i64)).length = 0 * 1 := by rw [List.length_map,HDl.out]
    go_wp2_with (first
     | (at_builtin;refine wpList_append_os _ rfl (.tmp 34) (.tmp 37) _ rfl 2 i0 _ 1 8 Tryz.underlying25 hi0 hz0 hz1 hz2 rfl (by omega) w.heap.size 0 0 0 (([] : List Int).map (Value.int .i64)) rfl (num_empty w 2) ⟨b,off + len,none⟩ 0 (cap - len) (D.map (Value.int .i64)) rfl hDn (num_news HD.out) (by simp [Value.oneCell']) (by unfold maxLen;omega) (by omega) ?_;intro g2 o2 c2 w2 ho2 hg2 hat2;obtain ⟨q2,r2,s2,t2⟩ := app_one ho2 hg2 hat2;clear ho2 hg2 hat2)
     | (at_builtin;refine wpList_append_os _ rfl (.tmp 39) (.tmp 42) _ rfl 2 i0 _ 1 8 Tryz.underlying25 hi0 hz0 hz1 hz2 rfl (by omega) w2.heap.size 0 0 0 (([] : List Int).map (Value.int .i64)) rfl (num_empty w2 2) ⟨b,off,none⟩ len cap (T.map (Value.int .i64)) rfl hTn (num_news (fun i hi => below_cell ((Below.refl _ _).alloc (Nat.le_refl _) _) (below_cell s2 (HT.out i hi)))) (by simp [Value.oneCell']) (by unfold maxLen;omega) (by omega) ?_;intro g3 o3 c3 w3 ho3 hg3 hat3;obtain ⟨q3,r3,s3,t3⟩ := app_one ho3 hg3 hat3;clear ho3 hg3 hat3)
     | (at_builtin;refine wpList_append_os _ rfl (.tmp 43) (.tmp 45) _ rfl 2 i0 _ 1 8 Tryz.underlying25 hi0 hz0 hz1 hz2 rfl (by omega) g3 o3 len c3 (T.map (Value.int .i64)) rfl (OSl.below q3 ((Below.refl _ _).alloc (Nat.le_refl _) _) t3) ⟨w3.heap.size,0,none⟩ 1 1 [.int .i64 n] rfl rfl (World.news_of_block (cs := #[.int .i64 n]) (t := 2) (fr := (0,0)) (heap_alloc_new _ _)) (by simp [Value.oneCell']) (by unfold maxLen;omega) (by omega) ?_;intro g4 o4 c4 w4 ho4 hg4 hat4;obtain ⟨q4,r4,s4⟩ := app_more (m := 0) s3 r3 ho4 hg4 hat4;clear ho4 hg4 hat4)
     | (at_builtin;refine wpList_append_os _ rfl (.tmp 46) (.tmp 47) _ rfl 2 i0 _ 1 8 Tryz.underlying25 hi0 hz0 hz1 hz2 rfl (by omega) g4 o4 (len + 1) c4 ((T ++ [n]).map (Value.int .i64)) rfl q4 ⟨g2,o2,none⟩ 0 c2 (D.map (Value.int .i64)) rfl hDn (num_news (fun i hi => OI.cellAt (show OI w4 g2 o2 0 c2 D from OSl.below q2 s4 t2) (by have := HDl.out;omega))) (by simp [Value.oneCell']) (by unfold maxLen;omega) (by omega) ?_;intro g5 o5 c5 w5 ho5 hg5 hat5;obtain ⟨q5,r5,s5⟩ := app_last s4 r4 ho5 hg5 hat5;clear ho5 hg5 hat5))
    go_ret
    refine .inr ⟨g5,o5,c5, ?_,Nat.le_trans s2.size r5, ?_,s2.trans (s5.mono s2.size)⟩
    ·rw [HZ.out,List.length_append,List.length_cons,HTl.out,HDl.out]
     exact congrArg (fun z => Ending.returned (.slice (some ⟨g5,o5,none⟩) z c5)) (by omega)
    ·rw [HZ.out,List.length_append,List.length_cons,HTl.out,HDl.out,show len + (0 + 1) = len + 1 + 0 by omega]
     exact q5
end Go.Proofs.YthioodpmgifomaaGreat
namespace Go.Proofs.YthioodpmgifomaaGreat
set_option linter.unusedVariables false
set_option linter.unusedSimpArgs false
open Go.RowKit Go.Sort
set_option maxRecDepth 100000 in
set_option maxHeartbeats 3200000 in
theorem putN_any (n : Int) (w : World) : Calls Tryz.prog 122 #[.slice none 0 0,.int .i64 n] w fun e w' => AnsN w w' e [n] := by
 obtain ⟨i0,hi0,hz0,hz1,hz2⟩ := info_parts2n Tryz.info2n
 go_enter Tryz.func122,Tryz.ntmps122
 go_wp2_with fail
 go_loop [5] (fun i => i = .int .i64 0) (fun i => 0)
 case atStart => rfl
 case round =>
  subst hrel
  go_wp2_with (first
   | (at_builtin;refine wpList_append_none _ rfl (.tmp 34) (.tmp 37) _ rfl 2 i0 Tryz.underlying25 hi0 (some ⟨w.heap.size,0,none⟩) 0 0 rfl (Nat.le_refl _) none 0 rfl ?_)
   | (at_builtin;refine wpList_append_none _ rfl (.tmp 39) (.tmp 42) _ rfl 2 i0 Tryz.underlying25 hi0 (some ⟨w.heap.size + 1,0,none⟩) 0 0 rfl (Nat.le_refl _) none 0 rfl ?_)
   | (at_builtin;refine wpList_append_oo _ rfl (.tmp 43) (.tmp 45) _ rfl 2 i0 _ 1 8 Tryz.underlying25 hi0 hz0 hz1 hz2 rfl (by omega) (some ⟨w.heap.size + 1,0,none⟩) 0 0 [] none rfl (OSo.nil _ _ (plainS _ _)) (some ⟨w.heap.size + 1 + 1,0,none⟩) 1 1 [.int .i64 n] rfl rfl (.inr ⟨_,rfl,World.news_of_block (cs := #[.int .i64 n]) (t := 2) (fr := (0,0)) (by simpa using heap_alloc_new ((w.alloc (.cells #[] 2)).alloc (.cells #[] 2)) (.cells #[.int .i64 n] 2))⟩) (by simp [Value.oneCell']) (by unfold maxLen;omega) (by omega) ?_;intro a2 c2 G2 w2 ho2 hg2 hat2)
   | (at_builtin;refine wpList_append_none _ rfl (.tmp 46) (.tmp 47) _ rfl 2 i0 Tryz.underlying25 hi0 a2 (0 + 1) c2 rfl ho2.le.1 (some ⟨w.heap.size,0,none⟩) 0 rfl ?_))
  go_ret
  rcases ho2 with ⟨h0,_⟩ | ⟨g,off,rfl,ho2,rfl⟩
  ·omega
  ·have hG : g = w.heap.size + 1 + 1 + 1 := by
    rcases hat2 with h | h
    ·cases h
    ·simpa using h
   refine ⟨g,off,c2,rfl,by omega,by simpa [OI] using ho2, ?_⟩
   have h3 : Below w.heap.size w (((w.alloc (.cells #[] 2)).alloc (.cells #[] 2)).alloc (.cells #[.int .i64 n] 2)) := (((Below.refl _ _).alloc (Nat.le_refl _) _).alloc (by simp) _).alloc (by simp;omega) _
   exact below_of_grown h3 hg2 (fun k hk => by cases hk) h3.size
theorem putO_any (a : Option Addr) (cap : Nat) (xs : List Int) (n : Int) (w : World) (hv : Vec w a xs.length xs) (ha : a = none → cap = 0) (hcap : xs.length ≤ cap) (hm : cap ≤ maxLen) (hn : xs.length ≤ 100000000) (hoff : PlainA a) :
  Calls Tryz.prog 122 #[.slice a xs.length cap,.int .i64 n] w fun e w' => (e = .returned (.slice a xs.length cap) ∧ putL xs n = xs ∧ w' = w) ∨ AnsN w w' e (putL xs n) := by
 cases a with
 | none =>
  have hc := ha rfl
  subst hc
  have hx : xs = [] := List.eq_nil_of_length_eq_zero (by omega)
  subst hx
  exact (putN_any n w).mono (fun e w' h => .inr h)
 | some x =>
  obtain ⟨b,off,rfl⟩ := hoff x rfl
  refine putS_any b off xs.length cap xs n w rfl (fun i hi => ?_) hcap hm hn
  rcases hv.2.2 with h | ⟨b',off',hb,hc⟩
  ·omega
  ·cases hb
   exact hc i hi
end Go.Proofs.YthioodpmgifomaaGreat
namespace Go.Proofs.YthioodpmgifomaaGreat
set_option linter.unusedVariables false
set_option linter.unusedSimpArgs false
open Go.RowKit Go.Sort
structure Bk (B : World) where
 w : World
 h : Below B.heap.size B w
theorem wp_region_bk {P : Program} {id : Nat} {Q : Exit → Act → World → Prop} {a : Act} {w : World} {l : List Oper} (hm : P.follows .mixedOrders = true) (hB : Region.lexB .any l.toArray = true)
  (h : wpQuiet P l.toArray (fun w' => ∃ p : Bk w,w' = p.w) (fun a' => ∀ w',(∃ p : Bk w,w' = p.w) → Q .normal a' w') l a) : (Code.region id l.toArray true).wp P Q a w :=
 wp_region_quiet (C := fun w' => ∃ p : Bk w,w' = p.w) hm hB ⟨⟨w.drewN 1,belowN (Below.refl _ _)⟩,rfl⟩ (by simpa using h)
theorem bk_call {P : Program} {f : FuncId} {args : Array Value} {B : World} {v : Value} (p : Bk B) (h : Calls P f args p.w fun e w' => e = .returned v ∧ Below p.w.heap.size p.w w') : Calls P f args p.w fun e w' => e = .returned v ∧ ∃ q : Bk B,w' = q.w :=
 h.mono fun e w' h => ⟨h.1,⟨w',p.h.trans (h.2.mono p.h.size)⟩,rfl⟩
end Go.Proofs.YthioodpmgifomaaGreat
namespace Go.Proofs.YthioodpmgifomaaGreat
set_option linter.unusedVariables false
set_option linter.unusedSimpArgs false
open Go.RowKit Go.Sort
end Go.Proofs.YthioodpmgifomaaGreat
namespace Go.Proofs.YthioodpmgifomaaGreat
set_option linter.unusedVariables false
set_option linter.unusedSimpArgs false
open Go.RowKit Go.Sort
theorem put_ow (a : Option Addr) (cap : Nat) (xs : List Int) (n : Int) (w : World) (fp : Fp) (ho : Cel.ow w (icl xs) (.slice a xs.length cap) fp) (hf : Fits xs) (hn : xs.length ≤ 100000000) :
  Calls Tryz.prog 122 #[.slice a xs.length cap,.int .i64 n] w fun e w' => ∃ a' c' fp',e = .returned (.slice a' (putL xs n).length c') ∧ Cel.ow w' (icl (putL xs n)) (.slice a' (putL xs n).length c') fp' ∧ (∀ b,fp' b → fp b ∨ w.heap.size ≤ b) ∧ Below w.heap.size w w' := by
 obtain ⟨a0,c0,e0,hv,h1,h2⟩ := vw_icl (Cel.ow_vw ho) hf
 cases e0
 obtain ⟨a1,c1,G,e1,hs,hG⟩ := ow_icl.1 ho
 cases e1
 have hnone : a = none → cap = 0 := fun e => by
  rcases hs with ⟨_,h,_⟩ | ⟨g,off,ha,_⟩
  ·exact h
  ·rw [ha] at e;cases e
 refine (putO_any a cap xs n w hv hnone h1 h2 hn hs.plain).mono ?_
 rintro e w' (⟨rfl,h3,rfl⟩ | ⟨g,off,c,rfl,hg,hO,hb⟩)
 ·exact ⟨a,cap,fp,by rw [h3],by rw [h3];exact ho,fun b hb => .inl hb,Below.refl _ _⟩
 ·exact ⟨_,c,fun b => b = g,rfl,ow_icl.2 ⟨_,c,some g,rfl,OSo.of hO,fun b => by simp [eq_comm]⟩,fun b hb => .inr (by rw [hb];exact hg),hb⟩
end Go.Proofs.YthioodpmgifomaaGreat
namespace Go.Proofs.YthioodpmgifomaaGreat
set_option linter.unusedVariables false
set_option linter.unusedSimpArgs false
open Go.RowKit Go.Sort
theorem touch_wrt {g : Nat} {w w' : World} (h : Touch g w w') : Wrt (fun b => b = g) w w' := (Wrt.of_grown h.grown).mono (fun b _ e => by simpa using e.symm)
end Go.Proofs.YthioodpmgifomaaGreat
namespace Go.Proofs.YthioodpmgifomaaGreat
set_option linter.unusedVariables false
set_option linter.unusedSimpArgs false
open Go.RowKit Go.Sort
def I64v (x : Int) : Prop := -9223372036854775808 ≤ x ∧ x ≤ 9223372036854775807
structure VcP (w : World) (a : Option Addr) (c : Nat) (M : List Int) : Prop where
 vec : Vec w a M.length M
 le : M.length ≤ c
 mx : c ≤ maxLen
 pl : PlainA a
 nn : a = none → c = 0
theorem VcP.below {w w' : World} {a : Option Addr} {c : Nat} {M : List Int} (h : VcP w a c M) (hb : Below w.heap.size w w') : VcP w' a c M := ⟨h.vec.below hb (Nat.le_refl _),h.le,h.mx,h.pl,h.nn⟩
theorem ow_vcp {w : World} {a : Option Addr} {c : Nat} {M : List Int} {fp : Fp} (h : Cel.ow w (icl M) (.slice a M.length c) fp) (hf : Fits M) : VcP w a c M := by
 obtain ⟨a0,c0,e0,hv,h1,h2⟩ := vw_icl (Cel.ow_vw h) hf
 cases e0
 obtain ⟨a1,c1,G,e1,hs,hG⟩ := ow_icl.1 h
 cases e1
 refine ⟨hv,h1,h2,hs.plain,fun e => ?_⟩
 rcases hs with ⟨_,h,_⟩ | ⟨g,off,ha,_⟩
 ·exact h
 ·rw [ha] at e;cases e
set_option maxHeartbeats 400000 in
theorem szI14_any (a : Option Addr) (len cap : Nat) (left : Int) (w : World) (hm : len ≤ maxLen) (hl : 0 ≤ left ∧ left ≤ 1048576) :
  Calls Tryz.prog 102 #[.slice a len cap,.int .i64 left] w fun e w' => e = .returned (.int .i64 (if (len : Int) ≤ left then left - (len : Int) else -1)) ∧ w' = w := by
 unfold maxLen at hm
 have h1 : wrap64 (left - (len : Int)) = left - (len : Int) := by unfold wrap64;omega
 by_cases h : (len : Int) ≤ left
 ·rw [if_pos h]
  have h2 : decide (left - (len : Int) < 0) = false := by simp;omega
  go_enter Tryz.func102,Tryz.ntmps102
  go_wp2
  go_ret
  exact ⟨rfl,rfl⟩
 ·rw [if_neg h]
  have h2 : decide (left - (len : Int) < 0) = true := by simp;omega
  go_enter Tryz.func102,Tryz.ntmps102
  go_wp2
  go_ret
  exact ⟨rfl,rfl⟩
end Go.Proofs.YthioodpmgifomaaGreat
namespace Go.Proofs.YthioodpmgifomaaGreat
set_option linter.unusedVariables false
set_option linter.unusedSimpArgs false
open Go.RowKit Go.Sort
def szRw (r : Rw) : Nat := r.txt.length + totS r.txt r.txt.length + r.got.length + r.sus.length + r.trm.length
attribute [local irreducible] sv
set_option maxRecDepth 100000 in
set_option maxHeartbeats 1600000 in
theorem szRw_any (A : Ra) (r : Rw) (left : Int) (w : World) (hv : RwS w A r) (hlg : LongT r.txt) (hl : 0 ≤ left ∧ left ≤ 1048576) :
  Calls Tryz.prog 167 #[rwV A r,.int .i64 left] w fun e w' => ∃ q : Int,e = .returned (.int .i64 q) ∧ (q = -1 ∨ 0 ≤ q ∧ q + (szRw r : Int) = left) ∧ Below w.heap.size w w' := by
 have hb := oneA16 w (.cells (rwC A r) 171)
 have hx := Bx.new w 171 (rwC A r)
 have hS := szS_any A.ta A.tc r.txt left _ (hv.txt.below hb) hlg hv.mt hl
 generalize hW : w.alloc (.cells (rwC A r) 171) = W at *
 obtain ⟨ver,txt,got,sus,wed,rdy,by_,trm⟩ := r
 obtain ⟨ta,tc,ga,gc,sa,sc,ma,mc⟩ := A
 have hG := fun l X (h : 0 ≤ l ∧ l ≤ 1048576) => szI14_any ga got.length gc l X hv.mg h
 have hU := fun l X (h : 0 ≤ l ∧ l ≤ 1048576) => szI14_any sa sus.length sc l X hv.ms h
 have hM := fun l X (h : 0 ≤ l ∧ l ≤ 1048576) => szI14_any ma trm.length mc l X hv.mm h
 have hW' : w.alloc (.cells #[.int .i64 ver,.slice ta txt.length tc,.slice ga got.length gc,.slice sa sus.length sc,.bool wed,.bool rdy,.int .i64 by_,.slice ma trm.length mc] 171) = W := hW
 obtain ⟨⟨c0,c1,c2,c3⟩,c4,c5,c6,c7⟩ := Bx.r8 hx
 have HB : Hid (Below w.heap.size w W) := hb
 have HSZ : Hid ((szRw ⟨ver,txt,got,sus,wed,rdy,by_,trm⟩ : Int) = (txt.length : Int) + (totS txt txt.length : Int) + (got.length : Int) + (sus.length : Int) + (trm.length : Int)) := by rw [Hid,szRw];simp only;omega
 unfold rwV rwC
 simp only at hS c0 c1 c2 c3 c4 c5 c6 c7 ⊢
 clear hv hx hb hW
 go_enter Tryz.func167,Tryz.ntmps167
 go_wp2_with fail
 refine hS.mono ?_
 rintro e w1 ⟨q1,rfl,hq1,hw1⟩
 rw [hw1]
 clear hw1 hS
 rcases hq1 with rfl | ⟨hq0,hq1⟩
 ·go_wp2
  go_ret
  exact ⟨-1,rfl,.inl rfl,HB.out⟩
 have n1 : ¬ (q1 < 0) := by omega
 have b1 : q1 ≤ 1048576 := by omega
 have HQ1 : Hid (0 ≤ q1 ∧ q1 + (txt.length : Int) + (totS txt txt.length : Int) = left) := ⟨hq0,hq1⟩
 clear hq1 hq0
 have hs2 := hG q1 W ⟨by omega,by omega⟩
 by_cases g2 : (got.length : Int) ≤ q1
 rotate_left
 ·rw [if_neg g2] at hs2
  go_wp2_with (go_at_call 102;refine hs2.mono ?_;rintro e w' ⟨rfl,hw'⟩;rw [hw'];clear hw')
  go_ret
  exact ⟨-1,rfl,.inl rfl,HB.out⟩
 rw [if_pos g2] at hs2
 obtain ⟨q2,hq2⟩ : ∃ x : Int,q1 - (got.length : Int) = x := ⟨_,rfl⟩
 rw [hq2] at hs2
 have n2 : ¬ (q2 < 0) := by omega
 have Hq2 : Hid (q1 - (got.length : Int) = q2) := hq2
 have b2 : q2 ≤ 1048576 := by omega
 clear hq2 g2
 go_wp2_with fail
 refine hs2.mono ?_
 rintro e w' ⟨rfl,hw'⟩
 rw [hw']
 clear hw' hs2
 have hs3 := hU q2 W ⟨by omega,by omega⟩
 by_cases g3 : (sus.length : Int) ≤ q2
 rotate_left
 ·rw [if_neg g3] at hs3
  go_wp2_with (go_at_call 102;refine hs3.mono ?_;rintro e w' ⟨rfl,hw'⟩;rw [hw'];clear hw')
  go_ret
  exact ⟨-1,rfl,.inl rfl,HB.out⟩
 rw [if_pos g3] at hs3
 obtain ⟨q3,hq3⟩ : ∃ x : Int,q2 - (sus.length : Int) = x := ⟨_,rfl⟩
 rw [hq3] at hs3
 have n3 : ¬ (q3 < 0) := by omega
 have Hq3 : Hid (q2 - (sus.length : Int) = q3) := hq3
 have b3 : q3 ≤ 1048576 := by omega
 clear hq3 g3
 go_wp2_with fail
 refine hs3.mono ?_
 rintro e w' ⟨rfl,hw'⟩
 rw [hw']
 clear hw' hs3
 have hs4 := hM q3 W ⟨by omega,by omega⟩
 by_cases g4 : (trm.length : Int) ≤ q3
 rotate_left
 ·rw [if_neg g4] at hs4
  go_wp2_with (go_at_call 102;refine hs4.mono ?_;rintro e w' ⟨rfl,hw'⟩;rw [hw'];clear hw')
  go_ret
  exact ⟨-1,rfl,.inl rfl,HB.out⟩
 rw [if_pos g4] at hs4
 obtain ⟨q4,hq4⟩ : ∃ x : Int,q3 - (trm.length : Int) = x := ⟨_,rfl⟩
 rw [hq4] at hs4
 have n4 : ¬ (q4 < 0) := by omega
 have Hq4 : Hid (q3 - (trm.length : Int) = q4) := hq4
 have b4 : q4 ≤ 1048576 := by omega
 clear hq4 g4
 go_wp2_with fail
 refine hs4.mono ?_
 rintro e w' ⟨rfl,hw'⟩
 rw [hw']
 clear hw' hs4
 go_wp2
 go_ret
 refine ⟨q4,rfl,.inr ⟨by omega, ?_⟩,HB.out⟩
 have h1 := HQ1.out
 have h2 := Hq2.out
 have h3 := Hq3.out
 have h4 := Hq4.out
 rw [HSZ.out]
 omega
set_option maxRecDepth 100000 in
set_option maxHeartbeats 1600000 in
theorem eqRw_any (A B : Ra) (r : Rw) (w : World) (hv : RwS w A r) (hu : RwS w B r) :
  Calls Tryz.prog 169 #[rwV A r,rwV B r] w fun e w' => e = .returned (.bool true) ∧ Below w.heap.size w w' := by
 have hB0 : Grew w ((w.alloc (.cells (rwC A r) 37)).alloc (.cells (rwC B r) 37)) := ((Grew.refl _).alloc _).alloc _
 have hx : Bx ((w.alloc (.cells (rwC A r) 37)).alloc (.cells (rwC B r) 37)) w.heap.size 37 (rwC A r) := (Bx.new w _ _).alloc _
 have hy : Bx ((w.alloc (.cells (rwC A r) 37)).alloc (.cells (rwC B r) 37)) (w.heap.size + 1) 37 (rwC B r) := by
  have := Bx.new (w.alloc (.cells (rwC A r) 37)) 37 (rwC B r)
  simpa using this
 have h0 := hv.below hB0.1
 have g0 := hu.below hB0.1
 have hT := eqSV_any A.ta B.ta A.tc B.tc r.txt _ h0.txt g0.txt h0.mt
 have hE : ∀ X,Below w.heap.size w X → ∀ (x y : Option Addr) (c d : Nat) (l : List Int),Vec w x l.length l → Vec w y l.length l → l.length ≤ maxLen → Calls Tryz.prog 106 #[.slice x l.length c,.slice y l.length d] X fun e w' => e = .returned (.bool true) ∧ ∃ n,w' = X.drewN n := fun X h x y c d l h1 h2 h3 => (eq_any x y l.length c l.length d l l X (h1.below h (Nat.le_refl _)) (h2.below h (Nat.le_refl _)) h3).mono (fun e w' ⟨h4,h5⟩ => ⟨by rw [h4];simp,h5⟩)
 obtain ⟨ver,txt,got,sus,wed,rdy,by_,trm⟩ := r
 obtain ⟨ta,tc,ga,gc,sa,sc,ma,mc⟩ := A
 obtain ⟨ub,uc,vb,vc,xb,xc,yb,yc⟩ := B
 have HV : Hid (RwS w ⟨ta,tc,ga,gc,sa,sc,ma,mc⟩ ⟨ver,txt,got,sus,wed,rdy,by_,trm⟩) := hv
 have HU : Hid (RwS w ⟨ub,uc,vb,vc,xb,xc,yb,yc⟩ ⟨ver,txt,got,sus,wed,rdy,by_,trm⟩) := hu
 have hG := fun X h => hE X h ga vb gc vc got HV.out.got HU.out.got HV.out.mg
 have hS := fun X h => hE X h sa xb sc xc sus HV.out.sus HU.out.sus HV.out.ms
 have hM := fun X h => hE X h ma yb mc yc trm HV.out.trm HU.out.trm HV.out.mm
 have HX : Hid (∀ X,Grew ((w.alloc (.cells (rwC ⟨ta,tc,ga,gc,sa,sc,ma,mc⟩ ⟨ver,txt,got,sus,wed,rdy,by_,trm⟩) 37)).alloc (.cells (rwC ⟨ub,uc,vb,vc,xb,xc,yb,yc⟩ ⟨ver,txt,got,sus,wed,rdy,by_,trm⟩) 37)) X → Bx X w.heap.size 37 #[.int .i64 ver,.slice ta txt.length tc,.slice ga got.length gc,.slice sa sus.length sc,.bool wed,.bool rdy,.int .i64 by_,.slice ma trm.length mc] ∧ Bx X (w.heap.size + 1) 37 #[.int .i64 ver,.slice ub txt.length uc,.slice vb got.length vc,.slice xb sus.length xc,.bool wed,.bool rdy,.int .i64 by_,.slice yb trm.length yc]) := fun X h => ⟨hx.below h.1,hy.below h.1⟩
 have HG0 : Hid (Grew w ((w.alloc (.cells (rwC ⟨ta,tc,ga,gc,sa,sc,ma,mc⟩ ⟨ver,txt,got,sus,wed,rdy,by_,trm⟩) 37)).alloc (.cells (rwC ⟨ub,uc,vb,vc,xb,xc,yb,yc⟩ ⟨ver,txt,got,sus,wed,rdy,by_,trm⟩) 37))) := hB0
 have n1 : (ver != ver) = false := by simp
 have n2 : (by_ != by_) = false := by simp
 have n3 : (wed != wed) = false := by simp
 have n4 : (rdy != rdy) = false := by simp
 unfold rwV
 unfold rwC at *
 simp only at hT ⊢
 clear hv hu hx hy h0 g0 hE hB0
 go_enter Tryz.func169,Tryz.ntmps169
 go_wp2_with fail
 refine hT.mono ?_
 rintro e w1 ⟨rfl,hg1⟩
 obtain ⟨⟨c0,c1,c2,c3⟩,c4,c5,c6,c7⟩ := Bx.r8 (HX.out w1 hg1).1
 obtain ⟨⟨d0,d1,d2,d3⟩,d4,d5,d6,d7⟩ := Bx.r8 (HX.out w1 hg1).2
 have b1 : Below w.heap.size w w1 := (HG0.out.trans hg1).1
 have bN : ∀ q,Below w.heap.size w (w1.drewN q) := fun q => belowN b1
 have HB1 : Hid (Below w.heap.size w w1) := b1
 clear hT HX HG0 hg1
 go_wp2_with fail
 refine (hG _ b1).mono ?_
 rintro e w2 ⟨rfl,q2,hw2⟩
 have b2 : Below w.heap.size w w2 := by rw [hw2];exact bN _
 have k2 : ∀ x v,w1.cell? x = some v → w2.cell? x = some v := fun x v h => by rw [hw2];exact h
 have x3 := k2 _ _ c3
 have x4 := k2 _ _ c4
 have x5 := k2 _ _ c5
 have x6 := k2 _ _ c6
 have x7 := k2 _ _ c7
 have y3 := k2 _ _ d3
 have y4 := k2 _ _ d4
 have y5 := k2 _ _ d5
 have y6 := k2 _ _ d6
 have y7 := k2 _ _ d7
 clear hw2 k2 c0 c1 c2 c3 c4 c5 c6 c7 d0 d1 d2 d3 d4 d5 d6 d7 hG bN b1 HB1
 go_wp2_with fail
 refine (hS _ b2).mono ?_
 rintro e w3 ⟨rfl,q3,hw3⟩
 have b3 : Below w.heap.size w w3 := by rw [hw3];exact belowN b2
 have k3 : ∀ x v,w2.cell? x = some v → w3.cell? x = some v := fun x v h => by rw [hw3];exact h
 have z4 := k3 _ _ x4
 have z5 := k3 _ _ x5
 have z6 := k3 _ _ x6
 have z7 := k3 _ _ x7
 have u4 := k3 _ _ y4
 have u5 := k3 _ _ y5
 have u6 := k3 _ _ y6
 have u7 := k3 _ _ y7
 clear hw3 k3 x3 x4 x5 x6 x7 y3 y4 y5 y6 y7 hS b2
 go_wp2_with fail
 refine (hM _ b3).mono ?_
 rintro e w4 ⟨rfl,q4,hw4⟩
 have HB4 : Hid (Below w.heap.size w w4) := by rw [Hid,hw4];exact belowN b3
 clear hw4 hM b3 z4 z5 z6 z7 u4 u5 u6 u7
 go_wp2
 go_ret
 exact ⟨rfl,HB4.out⟩
end Go.Proofs.YthioodpmgifomaaGreat
namespace Go.Proofs.YthioodpmgifomaaGreat
set_option linter.unusedVariables false
set_option linter.unusedSimpArgs false
open Go.RowKit Go.Sort
def zero8 : Array Value := #[.int .i64 0,.slice none 0 0,.slice none 0 0,.slice none 0 0,.bool false,.bool false,.int .i64 0,.slice none 0 0]
structure TR (w X : World) (S O : Array Value) (cs : List Cel) (vs : List Value) (fp : Fp) : Prop where
 src : Bx X w.heap.size 171 S
 res : Bx X (w.heap.size + 1) 37 zero8
 out : Bx X (w.heap.size + 1 + 1) 37 O
 own : owL X cs vs fp
 fpl : ∀ b,fp b → w.heap.size + 1 + 1 < b
 below : Below w.heap.size w X
theorem TR.set {w X : World} {S O : Array Value} {cs : List Cel} {vs : List Value} {fp : Fp} (h : TR w X S O cs vs fp) (i : Nat) (v : Value) : TR w (X.setCell ⟨w.heap.size + 1 + 1,i,none⟩ v) S (O.setIfInBounds i v) cs vs fp :=
 ⟨h.src.far (by omega) v,h.res.far (by omega) v,h.out.setC i v,owL_wrt h.own (Wrt.set X (w.heap.size + 1 + 1) i v) (fun b hb e => by have := h.fpl b hb;omega),h.fpl,h.below.setCell (p := ⟨w.heap.size + 1 + 1,i,none⟩) (show w.heap.size ≤ w.heap.size + 1 + 1 by omega) v⟩
theorem TR.add {w X X' : World} {S O : Array Value} {cs : List Cel} {vs : List Value} {fp : Fp} (h : TR w X S O cs vs fp) {c : Cel} {v : Value} (hN : NewO X X' c v) : ∃ fp',TR w X' S O (cs ++ [c]) (vs ++ [v]) fp' := by
 obtain ⟨f,ho,hf,hb⟩ := hN
 have hol := h.out.lt
 refine ⟨fun b => fp b ∨ f b,h.src.below hb,h.res.below hb,h.out.below hb,owL_append (owL_below h.own hb) (owL_one.2 ho) (fun b h1 h2 => ?_),fun b hb => ?_,h.below.trans (hb.mono h.below.size)⟩
 ·have := owL_lt h.own b h1
  have := hf b h2
  omega
 ·rcases hb with hb | hb
  ·exact h.fpl b hb
  ·have := hf b hb;omega
theorem toI16 (a : Option Addr) (c : Nat) (l : List Int) (w : World) (hv : Vec w a l.length l) (hm : l.length ≤ 1048576) :
  Calls Tryz.prog 104 #[.slice a l.length c] w fun e w' => ∃ a' c',e = .returned (.slice a' l.length c') ∧ NewO w w' (icl l) (.slice a' l.length c') := by
 refine (copy_any a _ c l w hv (by omega)).mono ?_
 rintro e w2 ⟨b,rfl,hb,hr,hbw⟩
 exact ⟨_,_,rfl,fun x => x = b,ow_icl.2 ⟨_,_,some b,rfl,OSo.of (OI.own (hr.own (by unfold maxLen;omega))),fun x => by simp [eq_comm]⟩,fun x hx => by rw [hx];exact hb,hbw⟩
set_option maxRecDepth 100000 in
set_option maxHeartbeats 3200000 in
theorem toRw_any (A : Ra) (r : Rw) (w : World) (hv : RwS w A r) (h1 : r.txt.length ≤ 1048576) (h2 : r.got.length ≤ 1048576) (h3 : r.sus.length ≤ 1048576) (h4 : r.trm.length ≤ 1048576) :
  Calls Tryz.prog 168 #[rwV A r] w fun e w' => AnsRw w w' e r := by
 obtain ⟨ver,txt,got,sus,wed,rdy,by_,trm⟩ := r
 obtain ⟨ta,tc,ga,gc,sa,sc,ma,mc⟩ := A
 simp only at h1 h2 h3 h4
 have HV : Hid (∀ X,Below w.heap.size w X → RwS X ⟨ta,tc,ga,gc,sa,sc,ma,mc⟩ ⟨ver,txt,got,sus,wed,rdy,by_,trm⟩) := fun X h => hv.below h
 have T0 : TR w (((w.alloc (.cells #[.int .i64 ver,.slice ta txt.length tc,.slice ga got.length gc,.slice sa sus.length sc,.bool wed,.bool rdy,.int .i64 by_,.slice ma trm.length mc] 171)).alloc (.cells #[.int .i64 0,.slice none 0 0,.slice none 0 0,.slice none 0 0,.bool false,.bool false,.int .i64 0,.slice none 0 0] 37)).alloc (.cells #[.int .i64 ver,.slice none 0 0,.slice none 0 0,.slice none 0 0,.bool false,.bool false,.int .i64 0,.slice none 0 0] 37)) #[.int .i64 ver,.slice ta txt.length tc,.slice ga got.length gc,.slice sa sus.length sc,.bool wed,.bool rdy,.int .i64 by_,.slice ma trm.length mc] #[.int .i64 ver,.slice none 0 0,.slice none 0 0,.slice none 0 0,.bool false,.bool false,.int .i64 0,.slice none 0 0] [] [] (fun _ => False) := by
  have x0 := ((Bx.new w 171 #[.int .i64 ver,.slice ta txt.length tc,.slice ga got.length gc,.slice sa sus.length sc,.bool wed,.bool rdy,.int .i64 by_,.slice ma trm.length mc]).alloc (.cells #[.int .i64 0,.slice none 0 0,.slice none 0 0,.slice none 0 0,.bool false,.bool false,.int .i64 0,.slice none 0 0] 37)).alloc (.cells #[.int .i64 ver,.slice none 0 0,.slice none 0 0,.slice none 0 0,.bool false,.bool false,.int .i64 0,.slice none 0 0] 37)
  have x1 := (Bx.new (w.alloc (.cells #[.int .i64 ver,.slice ta txt.length tc,.slice ga got.length gc,.slice sa sus.length sc,.bool wed,.bool rdy,.int .i64 by_,.slice ma trm.length mc] 171)) 37 #[.int .i64 0,.slice none 0 0,.slice none 0 0,.slice none 0 0,.bool false,.bool false,.int .i64 0,.slice none 0 0]).alloc (.cells #[.int .i64 ver,.slice none 0 0,.slice none 0 0,.slice none 0 0,.bool false,.bool false,.int .i64 0,.slice none 0 0] 37)
  have x2 := Bx.new ((w.alloc (.cells #[.int .i64 ver,.slice ta txt.length tc,.slice ga got.length gc,.slice sa sus.length sc,.bool wed,.bool rdy,.int .i64 by_,.slice ma trm.length mc] 171)).alloc (.cells #[.int .i64 0,.slice none 0 0,.slice none 0 0,.slice none 0 0,.bool false,.bool false,.int .i64 0,.slice none 0 0] 37)) 37 #[.int .i64 ver,.slice none 0 0,.slice none 0 0,.slice none 0 0,.bool false,.bool false,.int .i64 0,.slice none 0 0]
  simp only [World.size_alloc] at x1 x2
  exact ⟨x0,x1,x2,⟨rfl,fun _ h => h⟩,fun b h => absurd h id,((Below.refl _ _).alloc (Nat.le_refl _) _).alloc (by simp) _ |>.alloc (by simp only [World.size_alloc];omega) _⟩
 have hC1 := toS_any ta tc txt _ (HV.out _ T0.below).txt h1
 have HT0 : Hid (TR w (((w.alloc (.cells #[.int .i64 ver,.slice ta txt.length tc,.slice ga got.length gc,.slice sa sus.length sc,.bool wed,.bool rdy,.int .i64 by_,.slice ma trm.length mc] 171)).alloc (.cells #[.int .i64 0,.slice none 0 0,.slice none 0 0,.slice none 0 0,.bool false,.bool false,.int .i64 0,.slice none 0 0] 37)).alloc (.cells #[.int .i64 ver,.slice none 0 0,.slice none 0 0,.slice none 0 0,.bool false,.bool false,.int .i64 0,.slice none 0 0] 37)) #[.int .i64 ver,.slice ta txt.length tc,.slice ga got.length gc,.slice sa sus.length sc,.bool wed,.bool rdy,.int .i64 by_,.slice ma trm.length mc] #[.int .i64 ver,.slice none 0 0,.slice none 0 0,.slice none 0 0,.bool false,.bool false,.int .i64 0,.slice none 0 0] [] [] (fun _ => False)) := T0
 unfold rwV rwC
 simp only
 clear hv T0
 go_enter Tryz.func168,Tryz.ntmps168
 go_wp2_with fail
 refine hC1.mono ?_
 rintro e w1 ⟨a1,c1,rfl,hN1⟩
 obtain ⟨fp1,T1⟩ := HT0.out.add hN1
 obtain ⟨⟨s0,s1,s2,s3⟩,s4,s5,s6,s7⟩ := Bx.r8 T1.src;obtain ⟨⟨o0,o1,o2,o3⟩,o4,o5,o6,o7⟩ := Bx.r8 (show Bx _ _ _ #[.int .i64 ver,.slice none 0 0,.slice none 0 0,.slice none 0 0,.bool false,.bool false,.int .i64 0,.slice none 0 0] from T1.out);obtain ⟨⟨f0,f1,f2,f3⟩,f4,f5,f6,f7⟩ := T1.out.f8
 have T1s := T1.set 1 (.slice a1 txt.length c1)
 have T1' : TR w (w1.setCell ⟨w.heap.size + 1 + 1,1,none⟩ (.slice a1 txt.length c1)) #[.int .i64 ver,.slice ta txt.length tc,.slice ga got.length gc,.slice sa sus.length sc,.bool wed,.bool rdy,.int .i64 by_,.slice ma trm.length mc] #[.int .i64 ver,.slice a1 txt.length c1,.slice none 0 0,.slice none 0 0,.bool false,.bool false,.int .i64 0,.slice none 0 0] ([] ++ [scl txt]) ([] ++ [.slice a1 txt.length c1]) fp1 := by simpa using T1s
 have hC2 := toI16 ga gc got _ (HV.out _ T1'.below).got h2
 have HT1 : Hid (TR w (w1.setCell ⟨w.heap.size + 1 + 1,1,none⟩ (.slice a1 txt.length c1)) #[.int .i64 ver,.slice ta txt.length tc,.slice ga got.length gc,.slice sa sus.length sc,.bool wed,.bool rdy,.int .i64 by_,.slice ma trm.length mc] #[.int .i64 ver,.slice a1 txt.length c1,.slice none 0 0,.slice none 0 0,.bool false,.bool false,.int .i64 0,.slice none 0 0] ([] ++ [scl txt]) ([] ++ [.slice a1 txt.length c1]) fp1) := T1'
 obtain ⟨x0,x1⟩ : (w1.setCell ⟨w.heap.size + 1 + 1,1,none⟩ (.slice a1 txt.length c1)).cell? ⟨w.heap.size,2,none⟩ = some (.slice ga got.length gc) ∧ True := ⟨T1'.src.at 2 rfl,trivial⟩
 clear hN1 T1 T1s T1' hC1 HT0
 go_wp2_with fail
 refine hC2.mono ?_
 rintro e w2 ⟨a2,c2,rfl,hN2⟩
 clear s0 s1 s2 s3 s4 s5 s6 s7 o0 o1 o2 o3 o4 o5 o6 o7 f0 f1 f2 f3 f4 f5 f6 f7 x0
 obtain ⟨fp2,T2⟩ := HT1.out.add hN2
 obtain ⟨⟨s0,s1,s2,s3⟩,s4,s5,s6,s7⟩ := Bx.r8 T2.src;obtain ⟨⟨o0,o1,o2,o3⟩,o4,o5,o6,o7⟩ := Bx.r8 (show Bx _ _ _ #[.int .i64 ver,.slice a1 txt.length c1,.slice none 0 0,.slice none 0 0,.bool false,.bool false,.int .i64 0,.slice none 0 0] from T2.out);obtain ⟨⟨f0,f1,f2,f3⟩,f4,f5,f6,f7⟩ := T2.out.f8
 have T2s := T2.set 2 (.slice a2 got.length c2)
 have T2' : TR w (w2.setCell ⟨w.heap.size + 1 + 1,2,none⟩ (.slice a2 got.length c2)) #[.int .i64 ver,.slice ta txt.length tc,.slice ga got.length gc,.slice sa sus.length sc,.bool wed,.bool rdy,.int .i64 by_,.slice ma trm.length mc] #[.int .i64 ver,.slice a1 txt.length c1,.slice a2 got.length c2,.slice none 0 0,.bool false,.bool false,.int .i64 0,.slice none 0 0] (([] ++ [scl txt]) ++ [icl got]) (([] ++ [.slice a1 txt.length c1]) ++ [.slice a2 got.length c2]) fp2 := by simpa using T2s
 have hC3 := toI16 sa sc sus _ (HV.out _ T2'.below).sus h3
 have HT2 : Hid (TR w (w2.setCell ⟨w.heap.size + 1 + 1,2,none⟩ (.slice a2 got.length c2)) #[.int .i64 ver,.slice ta txt.length tc,.slice ga got.length gc,.slice sa sus.length sc,.bool wed,.bool rdy,.int .i64 by_,.slice ma trm.length mc] #[.int .i64 ver,.slice a1 txt.length c1,.slice a2 got.length c2,.slice none 0 0,.bool false,.bool false,.int .i64 0,.slice none 0 0] (([] ++ [scl txt]) ++ [icl got]) (([] ++ [.slice a1 txt.length c1]) ++ [.slice a2 got.length c2]) fp2) := T2'
 have x0 : (w2.setCell ⟨w.heap.size + 1 + 1,2,none⟩ (.slice a2 got.length c2)).cell? ⟨w.heap.size,3,none⟩ = some (.slice sa sus.length sc) := T2'.src.at 3 rfl
 clear hN2 T2 T2s T2' hC2 HT1
 go_wp2_with fail
 refine hC3.mono ?_
 rintro e w3 ⟨a3,c3,rfl,hN3⟩
 clear s0 s1 s2 s3 s4 s5 s6 s7 o0 o1 o2 o3 o4 o5 o6 o7 f0 f1 f2 f3 f4 f5 f6 f7 x0
 obtain ⟨fp3,T3⟩ := HT2.out.add hN3
 have p0 := (show Bx _ _ _ #[.int .i64 ver,.slice a1 txt.length c1,.slice a2 got.length c2,.slice none 0 0,.bool false,.bool false,.int .i64 0,.slice none 0 0] from T3.out).at 3 rfl
 have q0 := T3.out.f 3
 have T3as := T3.set 3 (.slice a3 sus.length c3)
 have T3a : TR w (w3.setCell ⟨w.heap.size + 1 + 1,3,none⟩ (.slice a3 sus.length c3)) #[.int .i64 ver,.slice ta txt.length tc,.slice ga got.length gc,.slice sa sus.length sc,.bool wed,.bool rdy,.int .i64 by_,.slice ma trm.length mc] #[.int .i64 ver,.slice a1 txt.length c1,.slice a2 got.length c2,.slice a3 sus.length c3,.bool false,.bool false,.int .i64 0,.slice none 0 0] ((([] ++ [scl txt]) ++ [icl got]) ++ [icl sus]) ((([] ++ [.slice a1 txt.length c1]) ++ [.slice a2 got.length c2]) ++ [.slice a3 sus.length c3]) fp3 := by simpa using T3as
 have s4 : (w3.setCell ⟨w.heap.size + 1 + 1,3,none⟩ (.slice a3 sus.length c3)).cell? ⟨w.heap.size,4,none⟩ = _ := T3a.src.at 4 rfl
 have p4 := T3a.out.at 4 rfl
 have q4 := T3a.out.f 4
 clear T3as
 have T3bs := T3a.set 4 (.bool wed)
 have T3b : TR w ((w3.setCell ⟨w.heap.size + 1 + 1,3,none⟩ (.slice a3 sus.length c3)).setCell ⟨w.heap.size + 1 + 1,4,none⟩ (.bool wed)) #[.int .i64 ver,.slice ta txt.length tc,.slice ga got.length gc,.slice sa sus.length sc,.bool wed,.bool rdy,.int .i64 by_,.slice ma trm.length mc] #[.int .i64 ver,.slice a1 txt.length c1,.slice a2 got.length c2,.slice a3 sus.length c3,.bool wed,.bool false,.int .i64 0,.slice none 0 0] ((([] ++ [scl txt]) ++ [icl got]) ++ [icl sus]) ((([] ++ [.slice a1 txt.length c1]) ++ [.slice a2 got.length c2]) ++ [.slice a3 sus.length c3]) fp3 := by simpa using T3bs
 have s5 : ((w3.setCell ⟨w.heap.size + 1 + 1,3,none⟩ (.slice a3 sus.length c3)).setCell ⟨w.heap.size + 1 + 1,4,none⟩ (.bool wed)).cell? ⟨w.heap.size,5,none⟩ = _ := T3b.src.at 5 rfl
 have p5 := T3b.out.at 5 rfl
 have q5 := T3b.out.f 5
 clear T3bs
 have T3cs := T3b.set 5 (.bool rdy)
 have T3c : TR w (((w3.setCell ⟨w.heap.size + 1 + 1,3,none⟩ (.slice a3 sus.length c3)).setCell ⟨w.heap.size + 1 + 1,4,none⟩ (.bool wed)).setCell ⟨w.heap.size + 1 + 1,5,none⟩ (.bool rdy)) #[.int .i64 ver,.slice ta txt.length tc,.slice ga got.length gc,.slice sa sus.length sc,.bool wed,.bool rdy,.int .i64 by_,.slice ma trm.length mc] #[.int .i64 ver,.slice a1 txt.length c1,.slice a2 got.length c2,.slice a3 sus.length c3,.bool wed,.bool rdy,.int .i64 0,.slice none 0 0] ((([] ++ [scl txt]) ++ [icl got]) ++ [icl sus]) ((([] ++ [.slice a1 txt.length c1]) ++ [.slice a2 got.length c2]) ++ [.slice a3 sus.length c3]) fp3 := by simpa using T3cs
 have s6 : (((w3.setCell ⟨w.heap.size + 1 + 1,3,none⟩ (.slice a3 sus.length c3)).setCell ⟨w.heap.size + 1 + 1,4,none⟩ (.bool wed)).setCell ⟨w.heap.size + 1 + 1,5,none⟩ (.bool rdy)).cell? ⟨w.heap.size,6,none⟩ = _ := T3c.src.at 6 rfl
 have p6 := T3c.out.at 6 rfl
 have q6 := T3c.out.f 6
 clear T3cs
 have T3ds := T3c.set 6 (.int .i64 by_)
 have T3d : TR w ((((w3.setCell ⟨w.heap.size + 1 + 1,3,none⟩ (.slice a3 sus.length c3)).setCell ⟨w.heap.size + 1 + 1,4,none⟩ (.bool wed)).setCell ⟨w.heap.size + 1 + 1,5,none⟩ (.bool rdy)).setCell ⟨w.heap.size + 1 + 1,6,none⟩ (.int .i64 by_)) #[.int .i64 ver,.slice ta txt.length tc,.slice ga got.length gc,.slice sa sus.length sc,.bool wed,.bool rdy,.int .i64 by_,.slice ma trm.length mc] #[.int .i64 ver,.slice a1 txt.length c1,.slice a2 got.length c2,.slice a3 sus.length c3,.bool wed,.bool rdy,.int .i64 by_,.slice none 0 0] ((([] ++ [scl txt]) ++ [icl got]) ++ [icl sus]) ((([] ++ [.slice a1 txt.length c1]) ++ [.slice a2 got.length c2]) ++ [.slice a3 sus.length c3]) fp3 := by simpa using T3ds
 have s7 : ((((w3.setCell ⟨w.heap.size + 1 + 1,3,none⟩ (.slice a3 sus.length c3)).setCell ⟨w.heap.size + 1 + 1,4,none⟩ (.bool wed)).setCell ⟨w.heap.size + 1 + 1,5,none⟩ (.bool rdy)).setCell ⟨w.heap.size + 1 + 1,6,none⟩ (.int .i64 by_)).cell? ⟨w.heap.size,7,none⟩ = _ := T3d.src.at 7 rfl
 have p7 := T3d.out.at 7 rfl
 have q7 := T3d.out.f 7
 clear T3ds
 have hC4 := toI16 ma mc trm _ (HV.out _ T3d.below).trm h4
 have HT3 : Hid (TR w ((((w3.setCell ⟨w.heap.size + 1 + 1,3,none⟩ (.slice a3 sus.length c3)).setCell ⟨w.heap.size + 1 + 1,4,none⟩ (.bool wed)).setCell ⟨w.heap.size + 1 + 1,5,none⟩ (.bool rdy)).setCell ⟨w.heap.size + 1 + 1,6,none⟩ (.int .i64 by_)) #[.int .i64 ver,.slice ta txt.length tc,.slice ga got.length gc,.slice sa sus.length sc,.bool wed,.bool rdy,.int .i64 by_,.slice ma trm.length mc] #[.int .i64 ver,.slice a1 txt.length c1,.slice a2 got.length c2,.slice a3 sus.length c3,.bool wed,.bool rdy,.int .i64 by_,.slice none 0 0] ((([] ++ [scl txt]) ++ [icl got]) ++ [icl sus]) ((([] ++ [.slice a1 txt.length c1]) ++ [.slice a2 got.length c2]) ++ [.slice a3 sus.length c3]) fp3) := T3d
 clear hN3 T3 T3a T3b T3c T3d hC3 HT2
 go_wp2_with fail
 refine hC4.mono ?_
 rintro e w4 ⟨a4,c4,rfl,hN4⟩
 clear p0 q0 s4 p4 q4 s5 p5 q5 s6 p6 q6 s7 p7 q7
 obtain ⟨fp4,T4⟩ := HT3.out.add hN4
 have p7 := (show Bx _ _ _ #[.int .i64 ver,.slice a1 txt.length c1,.slice a2 got.length c2,.slice a3 sus.length c3,.bool wed,.bool rdy,.int .i64 by_,.slice none 0 0] from T4.out).at 7 rfl
 have q7 := T4.out.f 7
 have T4s := T4.set 7 (.slice a4 trm.length c4)
 have T5 : TR w (w4.setCell ⟨w.heap.size + 1 + 1,7,none⟩ (.slice a4 trm.length c4)) #[.int .i64 ver,.slice ta txt.length tc,.slice ga got.length gc,.slice sa sus.length sc,.bool wed,.bool rdy,.int .i64 by_,.slice ma trm.length mc] #[.int .i64 ver,.slice a1 txt.length c1,.slice a2 got.length c2,.slice a3 sus.length c3,.bool wed,.bool rdy,.int .i64 by_,.slice a4 trm.length c4] (((([] ++ [scl txt]) ++ [icl got]) ++ [icl sus]) ++ [icl trm]) (((([] ++ [.slice a1 txt.length c1]) ++ [.slice a2 got.length c2]) ++ [.slice a3 sus.length c3]) ++ [.slice a4 trm.length c4]) fp4 := by simpa using T4s
 obtain ⟨⟨o0,o1,o2,o3⟩,o4,o5,o6,o7⟩ := Bx.r8 (show Bx _ _ _ #[.int .i64 ver,.slice a1 txt.length c1,.slice a2 got.length c2,.slice a3 sus.length c3,.bool wed,.bool rdy,.int .i64 by_,.slice a4 trm.length c4] from T5.out)
 obtain ⟨⟨r0,r1,r2,r3⟩,r4,r5,r6,r7⟩ := Bx.r8 (show Bx _ _ _ #[.int .i64 0,.slice none 0 0,.slice none 0 0,.slice none 0 0,.bool false,.bool false,.int .i64 0,.slice none 0 0] from T5.res)
 obtain ⟨⟨f0,f1,f2,f3⟩,f4,f5,f6,f7⟩ := T5.res.f8
 have HT5 : Hid (TR w (w4.setCell ⟨w.heap.size + 1 + 1,7,none⟩ (.slice a4 trm.length c4)) #[.int .i64 ver,.slice ta txt.length tc,.slice ga got.length gc,.slice sa sus.length sc,.bool wed,.bool rdy,.int .i64 by_,.slice ma trm.length mc] #[.int .i64 ver,.slice a1 txt.length c1,.slice a2 got.length c2,.slice a3 sus.length c3,.bool wed,.bool rdy,.int .i64 by_,.slice a4 trm.length c4] (((([] ++ [scl txt]) ++ [icl got]) ++ [icl sus]) ++ [icl trm]) (((([] ++ [.slice a1 txt.length c1]) ++ [.slice a2 got.length c2]) ++ [.slice a3 sus.length c3]) ++ [.slice a4 trm.length c4]) fp4) := T5
 clear hN4 T4 T4s T5 hC4 HT3
 go_wp2
 refine bodyPost_ret (v := .agg #[.int .i64 ver,.slice a1 txt.length c1,.slice a2 got.length c2,.slice a3 sus.length c3,.bool wed,.bool rdy,.int .i64 by_,.slice a4 trm.length c4]) (by simp [results,Tryz.results168,go_sem, *]) rfl ?_
 refine ⟨⟨a1,c1,a2,c2,a3,c3,a4,c4⟩,rfl,fp4,owL_wrt HT5.out.own (wrt8 _ (w.heap.size + 1)) (fun b hb e => by have := HT5.out.fpl b hb;omega),fun b hb => by have := HT5.out.fpl b hb;omega,(wrt8 _ (w.heap.size + 1)).below HT5.out.below HT5.out.below.size (fun b e => by rw [e];omega)⟩
end Go.Proofs.YthioodpmgifomaaGreat
namespace Go.Proofs.YthioodpmgifomaaGreat
set_option linter.unusedVariables false
set_option linter.unusedSimpArgs false
open Go.RowKit Go.Sort
theorem markI_ow (u : Value) (k0 : Nat) (Z : List Int) (f : Fp) (w : World) (h : Cel.ow w (icl Z) u f) (hk : k0 ≤ 10000000) (hn : Z.length ≤ 10000000) :
  Calls Tryz.prog 108 #[u,.int .i64 (k0 : Int)] w fun e w' => e = .returned (.int .i64 ((k0 : Int) + (Z.length : Int))) ∧ Cel.ow w' (icl (marks Z.length k0)) u f ∧ Wrt f w w' := by
 obtain ⟨a,c,G,rfl,ho,hf⟩ := ow_icl.1 h
 rcases ho.oi with ⟨rfl,rfl,rfl⟩ | ⟨g,off,rfl,ho',rfl⟩
 ·refine (mark0_any a 0 (k0 : Int) w).mono ?_
  rintro e w' ⟨rfl,rfl⟩
  exact ⟨by simp,h,Wrt.refl _ _⟩
 ·refine (markN_any g off c k0 _ (k0 : Int) Z w ho' rfl hk hn).mono ?_
  rintro e w' ⟨rfl,h1,h2⟩
  refine ⟨rfl,ow_icl.2 ⟨_,c,some g,by rw [marks_len],by rw [marks_len];exact OSo.of h1,hf⟩,(touch_wrt h2).mono (fun b _ e => (hf b).2 (by rw [e]))⟩
theorem heldI_ow (u : Value) (k0 n : Nat) (f : Fp) (w : World) (h : Cel.ow w (icl (marks n k0)) u f) (hk : k0 ≤ 10000000) (hn : n ≤ 10000000) :
  Calls Tryz.prog 110 #[u,.int .i64 (k0 : Int)] w fun e w' => e = .returned (.int .i64 ((k0 : Int) + (n : Int))) ∧ w' = w := by
 obtain ⟨a,c,G,rfl,ho,hf⟩ := ow_icl.1 h
 have := ho.slc
 rw [marks_len]
 exact heldC_any a c k0 n (k0 : Int) w this rfl hk hn
theorem markS_ow (u : Value) (k0 : Nat) (T : List (List UInt8)) (f : Fp) (w : World) (h : Cel.ow w (scl T) u f) (hk1 : 1 ≤ k0) (hk : k0 ≤ 10000000) (hn : T.length ≤ 10000000) :
  Calls Tryz.prog 170 #[u,.int .i64 (k0 : Int)] w fun e w' => e = .returned (.int .i64 ((k0 : Int) + (T.length : Int))) ∧ Cel.ow w' (scl (marksS T.length k0)) u f ∧ Wrt f w w' := by
 obtain ⟨a',c',G,rfl,ho,hf⟩ := ow_scl.1 h
 rcases ho.os with ⟨rfl,rfl,rfl⟩ | ⟨g,off,rfl,ho',rfl⟩
 ·refine (markS0_any a' 0 (k0 : Int) w).mono ?_
  rintro e w' ⟨rfl,rfl⟩
  exact ⟨by simp,h,Wrt.refl _ _⟩
 ·refine (markS_any g off c' k0 T.length T w ho' hk1 hk hn).mono ?_
  rintro e w' ⟨rfl,h3,h4⟩
  exact ⟨rfl,ow_scl.2 ⟨_,c',some g,by rw [marksS_len],by rw [marksS_len];exact OSo.of h3,hf⟩,(Wrt.of_grown h4).mono (fun b _ e => (hf b).2 e)⟩
theorem heldS_ow (u : Value) (k0 n : Nat) (f : Fp) (w : World) (h : Cel.ow w (scl (marksS n k0)) u f) (hk1 : 1 ≤ k0) (hk : k0 ≤ 10000000) (hn : n ≤ 10000000) :
  Calls Tryz.prog 171 #[u,.int .i64 (k0 : Int)] w fun e w' => e = .returned (.int .i64 ((k0 : Int) + (n : Int))) ∧ Below w.heap.size w w' := by
 obtain ⟨a,c,G,rfl,ho,hf⟩ := ow_scl.1 h
 rw [marksS_len]
 rcases ho.os with ⟨e0,rfl,rfl⟩ | ⟨g,off,rfl,ho',rfl⟩
 ·have : n = 0 := by have := congrArg List.length e0;rw [marksS_len] at this;simpa using this
  subst this
  exact (heldS0_any a 0 (k0 : Int) w).mono (fun e w' ⟨h1,h2⟩ => ⟨by rw [h1];simp,by rw [h2];exact Below.refl _ _⟩)
 ·rw [marksS_len] at ho'
  exact heldS_any g off c k0 n w ho' hk1 hk hn
attribute [local irreducible] sv
end Go.Proofs.YthioodpmgifomaaGreat
namespace Go.Proofs.YthioodpmgifomaaGreat
set_option linter.unusedVariables false
set_option linter.unusedSimpArgs false
open Go.RowKit Go.Sort
def Rw64 (r : Rw) : Prop := I64v r.ver ∧ I64v r.by_
structure RwP (w : World) (A : Ra) (r : Rw) : Prop where
 txt : TxP w A.ta A.tc r.txt
 got : VcP w A.ga A.gc r.got
 sus : VcP w A.sa A.sc r.sus
 trm : VcP w A.ma A.mc r.trm
 i64 : Rw64 r
 sz : szRw r ≤ 1048576
theorem RwP.below {w w' : World} {A : Ra} {r : Rw} (h : RwP w A r) (hb : Below w.heap.size w w') : RwP w' A r := ⟨h.txt.below hb,h.got.below hb,h.sus.below hb,h.trm.below hb,h.i64,h.sz⟩
theorem RwP.rws {w : World} {A : Ra} {r : Rw} (h : RwP w A r) : RwS w A r := by
 have hs := h.sz
 unfold szRw at hs
 exact ⟨h.txt.txs,h.got.vec,h.sus.vec,h.trm.vec,by unfold maxLen;omega,by unfold maxLen;omega,by unfold maxLen;omega,by unfold maxLen;omega⟩
def FitR (r : Rw) : Prop := Fits r.got ∧ Fits r.sus ∧ Fits r.trm
theorem it_parts {w : World} {A : Ra} {r : Rw} {lo hi : Nat} (h : It w (rwCels r) (rwVals A r) lo hi) : ∃ f1 f2 f3 f4,Cel.ow w (scl r.txt) (.slice A.ta r.txt.length A.tc) f1 ∧ Cel.ow w (icl r.got) (.slice A.ga r.got.length A.gc) f2 ∧ Cel.ow w (icl r.sus) (.slice A.sa r.sus.length A.sc) f3 ∧ Cel.ow w (icl r.trm) (.slice A.ma r.trm.length A.mc) f4 := by
 obtain ⟨f,h1,_⟩ := h
 obtain ⟨u1,us1,f1,g1,e1,o1,h2,_⟩ := h1
 cases e1
 obtain ⟨u2,us2,f2,g2,e2,o2,h3,_⟩ := h2
 cases e2
 obtain ⟨u3,us3,f3,g3,e3,o3,h4,_⟩ := h3
 cases e3
 obtain ⟨u4,us4,f4,g4,e4,o4,h5,_⟩ := h4
 cases e4
 exact ⟨f1,f2,f3,f4,o1,o2,o3,o4⟩
theorem it_rwp {w : World} {A : Ra} {r : Rw} {lo hi : Nat} (h : It w (rwCels r) (rwVals A r) lo hi) (hf : FitR r) (h6 : Rw64 r) (hs : szRw r ≤ 1048576) : RwP w A r := by
 obtain ⟨f1,f2,f3,f4,o1,o2,o3,o4⟩ := it_parts h
 exact ⟨ow_txp o1,ow_vcp o2 hf.1,ow_vcp o3 hf.2.1,ow_vcp o4 hf.2.2,h6,hs⟩
end Go.Proofs.YthioodpmgifomaaGreat
namespace Go.Proofs.YthioodpmgifomaaGreat
set_option linter.unusedVariables false
set_option linter.unusedSimpArgs false
open Go.RowKit Go.Sort
structure Nx (r r' : Rw) : Prop where
 ver : r.ver ≤ r'.ver
 txt : r.txt <+: r'.txt
 got : ∀ i,el r.got i ≤ el r'.got i
 sus : ∀ x ∈ r.sus,x ∈ r'.sus
 wed : r.wed = true → r'.wed = true ∧ r'.got = r.got ∧ r'.txt = r.txt
 rdy : r.rdy = true → r'.rdy = true ∧ r.by_ ≤ r'.by_ ∧ (r'.by_ = r.by_ → r'.trm = r.trm)
theorem Nx.refl (r : Rw) : Nx r r := ⟨Int.le_refl _,List.prefix_refl _,fun _ => Int.le_refl _,fun _ h => h,fun h => ⟨h,rfl,rfl⟩,fun h => ⟨h,Int.le_refl _,fun _ => rfl⟩⟩
end Go.Proofs.YthioodpmgifomaaGreat
namespace Go.Proofs.YthioodpmgifomaaGreat
set_option linter.unusedVariables false
set_option linter.unusedSimpArgs false
set_option linter.unusedVariables false
set_option linter.unusedSimpArgs false
open Go.RowKit Go.Sort
structure Mb where
 id : Int
 n : Int
 rows : List Rw
 sung : List Int
 done : Bool
def zeroMb : Mb := ⟨0,0,[],[],false⟩
def rowN (R : List Rw) (j : Nat) : Rw := R.getD j zeroRw
def Mb.i (m : Mb) : Nat := m.id.toNat
def Mb.own (m : Mb) : Rw := rowN m.rows m.i
def okSg (m : Mb) : Bool := (List.range m.sung.length).all (fun i => inB (el m.sung i) 0 59 && (m.done || decide (el m.sung i = (i : Int))))
def okMb (m : Mb) : Bool :=
 inB m.n 1 5 && (inB m.id 0 (m.n - 1) && (decide ((m.rows.length : Int) = m.n) && (decide (m.sung.length ≤ 60) && (risB m.sung && (m.rows.all (fun r => okRw r m.n) && (okSg m &&
  (decide (el m.own.got m.i = (m.own.txt.length : Int)) && (decide (m.id ∉ m.own.sus) && (!m.done || m.own.rdy)))))))))
def Mb.put (m : Mb) (o : Rw) : Mb := { m with rows := m.rows.set m.i o }
def doubtMb (m : Mb) (who : Int) : Mb × Bool :=
 if inB who 0 (m.n - 1) = false ∨ who = m.id ∨ who ∈ m.own.sus ∨ m.done = true ∨ m.own.ver = 1000000 then (m,false)
 else (m.put { m.own with sus := putL m.own.sus who,wed := true,ver := m.own.ver + 1 },true)
def learnS (id : Nat) (s : List Int) (r : List Int) : List Int := r.foldl (fun s x => if x = (id : Int) then s else putL s x) s
theorem mem_learnS {id : Nat} {x : Int} : ∀ {r s : List Int},x ∈ learnS id s r ↔ x ∈ s ∨ (x ∈ r ∧ x ≠ (id : Int))
 | [],s => by simp [learnS]
 | y :: r,s => by
  have ih := mem_learnS (id := id) (x := x) (r := r) (s := if y = (id : Int) then s else putL s y)
  unfold learnS at ih ⊢
  rw [List.foldl_cons,ih]
  by_cases e : y = (id : Int)
  ·rw [if_pos e]
   constructor
   ·rintro (h | ⟨h,h2⟩)
    ·exact .inl h
    ·exact .inr ⟨List.mem_cons_of_mem _ h,h2⟩
   ·rintro (h | ⟨h,h2⟩)
    ·exact .inl h
    ·rcases List.mem_cons.1 h with h | h
     ·exact absurd (h.trans e) h2
     ·exact .inr ⟨h,h2⟩
  ·rw [if_neg e,mem_putL]
   constructor
   ·rintro ((h | h) | ⟨h,h2⟩)
    ·exact .inr ⟨by rw [h];exact List.mem_cons_self,by rw [h];exact e⟩
    ·exact .inl h
    ·exact .inr ⟨List.mem_cons_of_mem _ h,h2⟩
   ·rintro (h | ⟨h,h2⟩)
    ·exact .inl (.inr h)
    ·rcases List.mem_cons.1 h with h | h
     ·exact .inl (.inl h)
     ·exact .inr ⟨h,h2⟩
end Go.Proofs.YthioodpmgifomaaGreat
namespace Go.Proofs.YthioodpmgifomaaGreat
set_option linter.unusedVariables false
set_option linter.unusedSimpArgs false
def fl (al : List Bool) (i : Nat) : Bool := al.getD i false
set_option linter.unusedVariables false
set_option linter.unusedSimpArgs false
open Go.RowKit Go.Sort
structure OkR (r : Rw) (n : Nat) : Prop where
 n5 : 1 ≤ n ∧ n ≤ 5
 ver : 0 ≤ r.ver ∧ r.ver ≤ 1000000
 tl : r.txt.length ≤ 12
 ts : ∀ t ∈ r.txt,t.length ≤ 20
 got : okB r.got = true
 gl : r.got.length = n
 g12 : ∀ x ∈ r.got,x ≤ 12
 sus : ∀ x ∈ r.sus,0 ≤ x ∧ x < (n : Int)
 ris : risB r.sus = true
 rdy : r.rdy = true → r.wed = true ∧ (0 ≤ r.by_ ∧ r.by_ < (n : Int)) ∧ okB r.trm = true ∧ r.trm.length = n ∧ ∀ x ∈ r.trm,x ≤ 12
 not : r.rdy = false → r.by_ = 0 ∧ r.trm = []
theorem smB_iff {v : List Int} {n : Nat} : smB v (n : Int) = true ↔ okB v = true ∧ v.length = n ∧ ∀ x ∈ v,x ≤ 12 := by
 simp only [smB,Bool.and_eq_true,decide_eq_true_eq,List.all_eq_true]
 constructor
 ·rintro ⟨h1,h2,h3⟩;exact ⟨h1,by omega,h3⟩
 ·rintro ⟨h1,h2,h3⟩;exact ⟨h1,by omega,h3⟩
theorem okRw_iff {r : Rw} {n : Nat} : okRw r (n : Int) = true ↔ OkR r n := by
 constructor
 ·intro h
  simp only [okRw,Bool.and_eq_true,decide_eq_true_eq,List.all_eq_true,susB] at h
  obtain ⟨h1,h2,h3,h4,⟨h5,h6⟩,h7,h8⟩ := h
  have h1 := inB7.1 h1
  have h2 := inB7.1 h2
  obtain ⟨g1,g2,g3⟩ := smB_iff.1 h4
  refine ⟨by omega,h2,h3,h7,g1,g2,g3,fun x hx => by have := inB7.1 (h5 x hx);omega,h6,fun hr => ?_,fun hr => ?_⟩
  ·rw [if_pos hr] at h8
   simp only [Bool.and_eq_true] at h8
   obtain ⟨k1,k2,k3⟩ := h8
   have k2 := inB7.1 k2
   obtain ⟨t1,t2,t3⟩ := smB_iff.1 k3
   exact ⟨k1,by omega,t1,t2,t3⟩
  ·rw [hr] at h8
   simp at h8
   exact h8
 ·intro h
  simp only [okRw,Bool.and_eq_true,decide_eq_true_eq,List.all_eq_true,susB]
  have := h.n5
  have := h.ver
  refine ⟨inB7.2 (by omega),inB7.2 (by omega),h.tl,smB_iff.2 ⟨h.got,h.gl,h.g12⟩,⟨fun x hx => inB7.2 (by have := h.sus x hx;omega),h.ris⟩,h.ts, ?_⟩
  cases hr : r.rdy with
  | true =>
   obtain ⟨k1,k2,k3,k4,k5⟩ := h.rdy hr
   rw [if_pos rfl]
   simp only [Bool.and_eq_true]
   exact ⟨k1,inB7.2 (by omega),smB_iff.2 ⟨k3,k4,k5⟩⟩
  | false =>
   obtain ⟨k1,k2⟩ := h.not hr
   simp [k1,k2]
theorem rowN_set {R : List Rw} {i j : Nat} {o : Rw} (hi : i < R.length) : rowN (R.set i o) j = if j = i then o else rowN R j := by
 unfold rowN
 rw [List.getD_eq_getElem?_getD,List.getD_eq_getElem?_getD,List.getElem?_set]
 by_cases e : i = j
 ·subst e;simp [hi]
 ·rw [if_neg e,if_neg (Ne.symm e)]
end Go.Proofs.YthioodpmgifomaaGreat