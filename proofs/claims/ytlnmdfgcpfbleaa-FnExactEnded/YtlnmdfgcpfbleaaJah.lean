/-
  Texts in one: Pga Pgb Qaa.
-/
import Derived.Test.YtlnmdfgcpfbleaaJaf
import Derived.Test.YtlnmdfgcpfbleaaJad
import Derived.Test.YtlnmdfgcpfbleaaJag
namespace Go.Proofs.Ytlnmdfgcpfbleaa
set_option linter.unusedVariables false
set_option linter.unusedSimpArgs false
open Go.RowKit Go.Sort
def belN (n : Int) (xs : List Int) : Bool := (List.range xs.length).all (fun i => inB (el xs i) 0 (n - 1) && decide (el xs i ∉ xs.take i))
theorem belN_two (n f t : Int) : belN n [f,t] = (inB f 0 (n - 1) && (inB t 0 (n - 1) && decide (f ≠ t))) := by
 have e : List.range [f,t].length = [0,1] := rfl
 rw [belN,e]
 simp [el,eq_comm]
theorem take_in {a : Option Addr} {n c j : Nat} (ha : a ≠ none) (hj : j ≤ n) (hc : n ≤ c) (hm : c ≤ maxLen) (X : World) :
  (Instr.slice 24 (.slice a n c) none (some (.int .i64 (j : Int))) none).run Try.prog X = .ok (.slice a j c) X := by
 obtain ⟨i0,hi0,hz0,hz1,hz2⟩ := info_parts2n Try.info2n
 unfold maxLen at hm
 have hs : (Instr.slice 24 (.slice a n c) none (some (.int .i64 (j : Int))) none).run Try.prog X = .ok (sliced a 0 j c 1) X := by
  rw [run_slice_h X 24 a n c (by kernel_rfl) .i64 (j : Int) (by omega) (by omega)]
  rw [show Try.prog.elem 24 = 2 by kernel_rfl]
  rw [run_sizeOf X hi0,show Try.prog.cellsOf 2 = 1 by kernel_rfl]
  simp [Result.andThen]
 rw [hs]
 have e : (if c = 0 then a else a.map (·.add (0 * 1))) = a := by
  split
  ·rfl
  ·cases a with
   | none => exact absurd rfl ha
   | some p => simp [Addr.add]
 simp only [sliced,e,Nat.sub_zero]
set_option maxHeartbeats 800000 in
theorem anb_any (n : Int) (b off c : Nat) (xs : List Int) (w : World) (hv : Vec w (some ⟨b,off,none⟩) xs.length xs) (hl : xs.length ≤ 100) (hc : xs.length ≤ c) (hm : c ≤ maxLen) (hn : -1000000 ≤ n ∧ n ≤ 1000000) :
  Calls Try.prog 128 #[.int .i64 n,.slice (some ⟨b,off,none⟩) xs.length c] w fun e w' => e = .returned (.bool (belN n xs)) ∧ w' = w := by
 have HV : Hid (Vec w (some ⟨b,off,none⟩) xs.length xs) := hv
 have hw : wrap64 (n - 1) = n - 1 := by unfold wrap64;omega
 have hsl := fun (j : Nat) (hj : j ≤ xs.length) (X : World) => take_in (a := some ⟨b,off,none⟩) (n := xs.length) (c := c) (j := j) (by simp) hj hc hm X
 have HSl : Hid (∀ (j : Nat),j ≤ xs.length → ∀ X : World,(Instr.slice 24 (.slice (some ⟨b,off,none⟩) xs.length c) none (some (.int .i64 (j : Int))) none).run Try.prog X = .ok (.slice (some ⟨b,off,none⟩) j c) X) := hsl
 have HC : Hid (∀ j,j < xs.length → Calls Try.prog 138 #[.slice (some ⟨b,off,none⟩) j c,.int .i64 (el xs j)] w fun e w' => e = .returned (.bool (decide (el xs j ∈ xs.take j))) ∧ w' = w) := fun j hj => by
  have e : (xs.take j).length = j := by rw [List.length_take];omega
  have hvt : Vec w (some ⟨b,off,none⟩) (xs.take j).length (xs.take j) := by
   refine ⟨rfl,fun x hx => hv.2.1 x (List.mem_of_mem_take hx),.inr ⟨b,off,rfl,fun k hk => ?_⟩⟩
   rcases hv.2.2 with h0 | ⟨b',o',ee,hcell⟩
   ·omega
   ·cases ee
    rw [hcell k (by omega)]
    simp [el,List.getD,show k < j by omega]
  have := con14_any (some ⟨b,off,none⟩) c (xs.take j) (el xs j) w hvt (by unfold maxLen;omega)
  rw [e] at this
  exact this
 clear hv hsl
 go_enter Try.func128,Try.ntmps128
 go_wp2
 go_loop [9] (fun i => ∃ k : Nat,k ≤ xs.length ∧ i = .int .i64 (k : Int) ∧ Hid (∀ j,j < k → (inB (el xs j) 0 (n - 1) && decide (el xs j ∉ xs.take j)) = true)) (fun i => xs.length - (intOf i).toNat)
 case atStart => exact ⟨0,Nat.zero_le _,rfl,fun j hj => by omega⟩
 case round =>
  obtain ⟨k,hk,rfl,HA⟩ := hrel
  by_cases hlt : k < xs.length
  ·rcases HV.out.2.2 with h0 | ⟨b',o',ee,hcell⟩
   ·omega
   cases ee
   have hck := hcell k hlt
   have k1 : (k : Int) < (xs.length : Int) := by omega
   have k0 : (0 : Int) ≤ (k : Int) := by omega
   have hT := HSl.out k hk
   have hCk := HC.out k hlt
   have hI : ∀ z,z = n - 1 → Calls Try.prog 114 #[.int .i64 (el xs k),.int .i64 z] w fun e w' => e = .returned (.bool (inB (el xs k) 0 (n - 1))) ∧ w' = w := fun z hz => by rw [hz];exact isW14_any _ _ w
   have HF : Hid ((inB (el xs k) 0 (n - 1) && decide (el xs k ∉ xs.take k)) = false → belN n xs = false) := fun h => by
    rw [belN,List.all_eq_false]
    exact ⟨k,List.mem_range.2 hlt,by rw [h];decide⟩
   have HT : Hid ((inB (el xs k) 0 (n - 1) && decide (el xs k ∉ xs.take k)) = true → ∀ j,j < k + 1 → (inB (el xs j) 0 (n - 1) && decide (el xs j ∉ xs.take j)) = true) := fun h j hj => by
    rcases Nat.lt_succ_iff_lt_or_eq.1 hj with h1 | h1
    ·exact HA.out j h1
    ·rw [h1];exact h
   clear hcell
   have hd : decide (el xs k ∉ xs.take k) = !decide (el xs k ∈ xs.take k) := by simp
   rw [hd] at HF HT
   clear hd
   generalize decide (el xs k ∈ xs.take k) = q at *
   generalize inB (el xs k) 0 (n - 1) = p at *
   generalize el xs k = x at *
   cases p with
   | false =>
    have HZ : Hid (belN n xs = false) := HF.out rfl
    clear HF HT
    go_wp2_with (go_at_call 114;refine (hI _ (by first | rfl | exact hw)).mono ?_;rintro e w' ⟨rfl,hw'⟩;rw [hw'];clear hw')
    go_ret
    exact ⟨ret_bool (by rw [HZ.out]),rfl⟩
   | true =>
    cases q with
    | true =>
     have HZ : Hid (belN n xs = false) := HF.out rfl
     clear HF HT
     go_wp2_with (first | (go_at_call 114;refine (hI _ (by first | rfl | exact hw)).mono ?_;rintro e w' ⟨rfl,hw'⟩;rw [hw'];clear hw') | (go_at_call 138;refine hCk.mono ?_;rintro e w' ⟨rfl,hw'⟩;rw [hw'];clear hw'))
     go_ret
     exact ⟨ret_bool (by rw [HZ.out]),rfl⟩
    | false =>
     have HZ : Hid _ := HT.out rfl
     clear HF HT
     go_wp2_with (first | (go_at_call 114;refine (hI _ (by first | rfl | exact hw)).mono ?_;rintro e w' ⟨rfl,hw'⟩;rw [hw'];clear hw') | (go_at_call 138;refine hCk.mono ?_;rintro e w' ⟨rfl,hw'⟩;rw [hw'];clear hw'))
     go_round
     case rel => exact ⟨k + 1,by omega,by go_num,HZ⟩
     case measure => simp [intOf];omega
  ·have k1 : ¬ ((k : Int) < (xs.length : Int)) := by omega
   have HZ : Hid (belN n xs = true) := by
    rw [Hid,belN,List.all_eq_true]
    intro j hj
    exact HA.out j (by have := List.mem_range.1 hj;omega)
   go_wp2
   go_ret
   exact ⟨ret_bool (by rw [HZ.out]),rfl⟩
theorem GrP.below {w w' : World} {A : Ga} {g : Gr} (h : GrP w A g) (hb : Below w.heap.size w w') : GrP w' A g := by
 obtain ⟨f,hf⟩ := h.own
 exact ⟨⟨f,owL_below hf hb⟩,h.fit,h.i64,h.sz⟩
theorem GrP.grs {w : World} {A : Ga} {g : Gr} (h : GrP w A g) : GrS w A g := by
 obtain ⟨f,hf⟩ := h.own
 exact grs_of (owL_vw hf) h.fit
theorem memN_mem {g : Gr} {k : Nat} (hk : k < g.mem.length) : memN g k ∈ g.mem := List.mem_of_getElem? (memN_at hk)
theorem mailN_mem {g : Gr} {k : Nat} (hk : k < g.mail.length) : mailN g k ∈ g.mail := List.mem_of_getElem? (mailN_at hk)
theorem szMb_mem {g : Gr} {m : Mb} (h : m ∈ g.mem) : szMb m ≤ szGr g := by
 obtain ⟨k,hk,rfl⟩ := List.mem_iff_getElem.1 h
 have h1 := zPm_next (R := g.mem) hk
 have h2 := zPm_mono (R := g.mem) (show k + 1 ≤ g.mem.length by omega)
 have e : mbN g.mem k = g.mem[k] := by simp [mbN,List.getD,hk]
 rw [e] at h1
 unfold szGr szMs
 omega
theorem szMl_mem {g : Gr} {x : Ml} (h : x ∈ g.mail) : szRw x.row ≤ szGr g := by
 obtain ⟨k,hk,rfl⟩ := List.mem_iff_getElem.1 h
 have h1 := zPl_next (R := g.mail) hk
 have h2 := zPl_mono (R := g.mail) (show k + 1 ≤ g.mail.length by omega)
 have e : mlN g.mail k = g.mail[k] := by simp [mlN,List.getD,hk]
 rw [e] at h1
 have h3 : szMl g.mail[k] = szRw g.mail[k].row := rfl
 unfold szGr szLs
 omega
theorem GrP.member {w : World} {A : Ga} {g : Gr} (h : GrP w A g) {k : Nat} (hk : k < g.mem.length) : ∃ b off Ak,A.ma = some ⟨b,off,none⟩ ∧ C5 w b (off + k * 5) (.int .i64 (memN g k).id) (.int .i64 (memN g k).n) (.slice Ak.ra (memN g k).rows.length Ak.rc) (.slice Ak.sa (memN g k).sung.length Ak.sc) (.bool (memN g k).done) ∧ MbP w Ak (memN g k) := by
 obtain ⟨f,hf⟩ := h.own
 obtain ⟨u1,us1,f1,f2,e,o1,_,_,_⟩ := hf
 cases e
 obtain ⟨b,off,f3,hra,_,_,⟨vs,hpc,hov,_⟩,_⟩ := ow_elF mb5_len (by omega) o1 (memN_at hk)
 obtain ⟨Ak,rfl,hl⟩ := mb5_ow hov
 have hl5 : (mbC Ak (memN g k)).toList.length = 5 := rfl
 have c := hpc.cell
 exact ⟨b,off,Ak,hra,⟨c 0 (by rw [hl5];omega),c 1 (by rw [hl5];omega),c 2 (by rw [hl5];omega),c 3 (by rw [hl5];omega),c 4 (by rw [hl5];omega)⟩,⟨f3,hl⟩,h.fit.1 _ (memN_mem hk),h.i64.1 _ (memN_mem hk),Nat.le_trans (szMb_mem (memN_mem hk)) h.sz⟩
theorem GrP.letter {w : World} {A : Ga} {g : Gr} (h : GrP w A g) {k : Nat} (hk : k < g.mail.length) : ∃ b off Ak,A.la = some ⟨b,off,none⟩ ∧ w.cell? ⟨b,off + k * 10,none⟩ = some (.int .i64 (mailN g k).fr) ∧ w.cell? ⟨b,off + k * 10 + 1,none⟩ = some (.int .i64 (mailN g k).to) ∧ C8 w b (off + k * 10 + 2) (.int .i64 (mailN g k).row.ver) (.slice Ak.ta (mailN g k).row.txt.length Ak.tc) (.slice Ak.ga (mailN g k).row.got.length Ak.gc) (.slice Ak.sa (mailN g k).row.sus.length Ak.sc) (.bool (mailN g k).row.wed) (.bool (mailN g k).row.rdy) (.int .i64 (mailN g k).row.by_) (.slice Ak.ma (mailN g k).row.trm.length Ak.mc) ∧ RwP w Ak (mailN g k).row := by
 obtain ⟨f,hf⟩ := h.own
 obtain ⟨u1,us1,f1,f2,e,_,hf2,_,_⟩ := hf
 cases e
 obtain ⟨u2,us2,f4,f5,e,_,hf3,_,_⟩ := hf2
 cases e
 obtain ⟨u3,us3,f6,f7,e,o3,_,_,_⟩ := hf3
 cases e
 obtain ⟨b,off,f3,hra,_,_,⟨vs,hpc,hov,_⟩,_⟩ := ow_elF ml10_len (by omega) o3 (mailN_at hk)
 obtain ⟨us0,rfl,hq0⟩ := owL_v' hov
 obtain ⟨us9,rfl,hq1⟩ := owL_v' hq0
 obtain ⟨Ak,rfl,hl⟩ := rw8_ow hq1
 have hl8 : (rwC Ak (mailN g k).row).toList.length = 8 := rfl
 have c := hpc.cell
 have c' : ∀ j,j < 8 → w.cell? ⟨b,off + k * 10 + 2 + j,none⟩ = (rwC Ak (mailN g k).row).toList[j]? := fun j hj => by
  have := c (j + 2) (by simp [hl8];omega)
  rw [show off + k * 10 + (j + 2) = off + k * 10 + 2 + j by omega] at this
  rw [this]
  simp [hl8,hj]
 have hx := mailN_mem hk
 refine ⟨b,off,Ak,hra,c 0 (by simp),c 1 (by simp),⟨⟨c' 0 (by omega),c' 1 (by omega),c' 2 (by omega),c' 3 (by omega)⟩,c' 4 (by omega),c' 5 (by omega),c' 6 (by omega),c' 7 (by omega)⟩,it_rwp (owL_it hl (lo := 0) (fun b _ => Nat.zero_le b)) (h.fit.2 _ hx) (h.i64.2 _ hx).2.2 (Nat.le_trans (szMl_mem hx) h.sz)⟩
end Go.Proofs.Ytlnmdfgcpfbleaa
namespace Go.Proofs.Ytlnmdfgcpfbleaa
set_option linter.unusedVariables false
set_option linter.unusedSimpArgs false
open Go.RowKit Go.Sort
theorem Bx.r10p {w : World} {B : Nat} {T : TypeId} {x0 x1 x2 x3 x4 x5 x6 x7 x8 x9 : Value} (h : Bx w B T #[x0,x1,x2,x3,x4,x5,x6,x7,x8,x9]) : (w.cell? ⟨B,0,none⟩ = some x0 ∧ w.cell? ⟨B,1,none⟩ = some x1 ∧ w.cell? ⟨B,2,none⟩ = some x2 ∧ w.cell? ⟨B,3,none⟩ = some x3 ∧ w.cell? ⟨B,4,none⟩ = some x4) ∧ w.cell? ⟨B,5,none⟩ = some x5 ∧ w.cell? ⟨B,6,none⟩ = some x6 ∧ w.cell? ⟨B,7,none⟩ = some x7 ∧ w.cell? ⟨B,8,none⟩ = some x8 ∧ w.cell? ⟨B,9,none⟩ = some x9 :=
 ⟨⟨h.at 0 rfl,h.at 1 rfl,h.at 2 rfl,h.at 3 rfl,h.at 4 rfl⟩,h.at 5 rfl,h.at 6 rfl,h.at 7 rfl,h.at 8 rfl,h.at 9 rfl⟩
theorem okMl_split (x : Ml) (n : Int) : okMl x n = (belN n [x.fr,x.to] && okRw x.row n) := by
 rw [belN_two,okMl]
 cases inB x.fr 0 (n - 1) <;> cases inB x.to 0 (n - 1) <;> simp
theorem vec_pair (w : World) (x y : Int) (hx : I64v x) (hy : I64v y) : Vec (w.alloc (.cells #[.int .i64 x,.int .i64 y] 2)) (some ⟨w.heap.size,0,none⟩) [x,y].length [x,y] := by
 refine ⟨rfl,fun z hz => ?_,.inr ⟨w.heap.size,0,rfl,fun k hk => ?_⟩⟩
 ·rcases List.mem_cons.1 hz with h | h
  ·rw [h];exact hx
  ·rw [List.mem_singleton.1 h];exact hy
 ·have hb := Bx.new w 2 #[.int .i64 x,.int .i64 y]
  match k,hk with
  | 0,_ => exact hb.at 0 rfl
  | 1,_ => exact hb.at 1 rfl
set_option maxRecDepth 100000 in
set_option maxHeartbeats 3200000 in
theorem gokI_any (A : Ga) (g : Gr) (w : World) (hv : GrP w A g) :
  Calls Try.prog 98 #[grV A g] w fun e w' => e = .returned (.bool (okGr g)) ∧ Below w.heap.size w w' := by
 have hb0 := oneA16 w (.cells #[.slice A.ma g.mem.length A.mc,.slice A.ua g.up.length A.uc,.slice A.la g.mail.length A.lc] 61)
 have hx0 := Bx.new w 61 #[.slice A.ma g.mem.length A.mc,.slice A.ua g.up.length A.uc,.slice A.la g.mail.length A.lc]
 have HV : Hid (GrP (w.alloc (.cells #[.slice A.ma g.mem.length A.mc,.slice A.ua g.up.length A.uc,.slice A.la g.mail.length A.lc] 61)) A g) := hv.below hb0
 have HX : Hid (Bx (w.alloc (.cells #[.slice A.ma g.mem.length A.mc,.slice A.ua g.up.length A.uc,.slice A.la g.mail.length A.lc] 61)) w.heap.size 61 #[.slice A.ma g.mem.length A.mc,.slice A.ua g.up.length A.uc,.slice A.la g.mail.length A.lc]) := hx0
 have HB0 : Hid (Below w.heap.size w (w.alloc (.cells #[.slice A.ma g.mem.length A.mc,.slice A.ua g.up.length A.uc,.slice A.la g.mail.length A.lc] 61))) := hb0
 have hI := isRl_any (g.mem.length : Int) (w.alloc (.cells #[.slice A.ma g.mem.length A.mc,.slice A.ua g.up.length A.uc,.slice A.la g.mail.length A.lc] 61))
 have hgs := hv.grs
 have hlm := hgs.lm
 have hlu := hgs.lu
 have hll := hgs.ll
 unfold maxLen at hlm hlu hll
 obtain ⟨c0,c1,c2⟩ := Bx.g3 hx0
 unfold grV grC
 clear hv hb0 hx0 hgs
 by_cases hn : inB (g.mem.length : Int) 1 5 = true
 rotate_left
 ·have hn' : inB (g.mem.length : Int) 1 5 = false := by simpa using hn
  have HZ : Hid (okGr g = false) := by
   by_cases h1 : 1 ≤ g.mem.length
   ·exact okGr_2 (fun h2 => hn (inB7.2 ⟨by omega,by omega⟩))
   ·exact okGr_1 h1
  rw [hn'] at hI
  clear hn hn'
  go_enter Try.func98,Try.ntmps98
  go_upto_region 1 with fail
  generalize w.alloc (.cells #[.slice A.ma g.mem.length A.mc,.slice A.ua g.up.length A.uc,.slice A.la g.mail.length A.lc] 61) = W0 at *
  go_wp2_with (go_at_call 84;refine hI.mono ?_;rintro e w' ⟨rfl,hw'⟩;rw [hw'];clear hw')
  go_ret
  exact ⟨ret_bool (by rw [HZ.out]),HB0.out⟩
 rw [hn] at hI
 have hn5 := inB7.1 hn
 clear hn
 by_cases hu : g.up.length = g.mem.length
 rotate_left
 ·have HZ : Hid (okGr g = false) := okGr_3 hu
  have e1 : ((g.up.length : Int) != (g.mem.length : Int)) = true := by simp;omega
  clear hu
  go_enter Try.func98,Try.ntmps98
  go_upto_region 1 with fail
  generalize w.alloc (.cells #[.slice A.ma g.mem.length A.mc,.slice A.ua g.up.length A.uc,.slice A.la g.mail.length A.lc] 61) = W0 at *
  go_wp2_with (go_at_call 84;refine hI.mono ?_;rintro e w' ⟨rfl,hw'⟩;rw [hw'];clear hw')
  go_ret
  exact ⟨ret_bool (by rw [HZ.out]),HB0.out⟩
 have e1 : ((g.up.length : Int) != (g.mem.length : Int)) = false := by simp;omega
 have HU : Hid (g.up.length = g.mem.length) := hu
 clear hu
 by_cases hm : g.mail.length ≤ 200
 rotate_left
 ·have HZ : Hid (okGr g = false) := okGr_4 hm
  have e2 : (g.mail.length : Int) > 200 := by omega
  clear hm
  go_enter Try.func98,Try.ntmps98
  go_upto_region 1 with fail
  generalize w.alloc (.cells #[.slice A.ma g.mem.length A.mc,.slice A.ua g.up.length A.uc,.slice A.la g.mail.length A.lc] 61) = W0 at *
  go_wp2_with (go_at_call 84;refine hI.mono ?_;rintro e w' ⟨rfl,hw'⟩;rw [hw'];clear hw')
  go_ret
  exact ⟨ret_bool (by rw [HZ.out]),HB0.out⟩
 have e2 : ¬ (g.mail.length : Int) > 200 := by omega
 go_enter Try.func98,Try.ntmps98
 go_upto_region 1 with fail
 generalize w.alloc (.cells #[.slice A.ma g.mem.length A.mc,.slice A.ua g.up.length A.uc,.slice A.la g.mail.length A.lc] 61) = W0 at *
 go_wp2_with (go_at_call 84;refine hI.mono ?_;rintro e w' ⟨rfl,hw'⟩;rw [hw'];clear hw')
 clear c0 c1 c2 hI e1 e2
 go_loopw [32] (fun v wr => ∃ k : Nat,k ≤ g.mem.length ∧ v = .int .i64 (k : Int) ∧ Hid (∀ j,j < k → oneMb g j = true) ∧ Below W0.heap.size W0 wr) (fun v _ => g.mem.length - (intOf v).toNat)
 case atStart => exact ⟨0,Nat.zero_le _,rfl,fun j hj => by omega,Below.refl _ _⟩
 case round =>
  obtain ⟨k,hk,rfl,HA,hb⟩ := hrel
  have HB : Hid (Below W0.heap.size W0 wr) := hb
  by_cases hlt : k < g.mem.length
  ·obtain ⟨bb,off,Ak,hma,⟨d0,d1,d2,d3,d4⟩,hmp⟩ := (HV.out.below hb).member hlt
   have HF : Hid (oneMb g k = false → okGr g = false) := fun h => okGr_5 hlt h
   have HT : Hid (oneMb g k = true → ∀ j,j < k + 1 → oneMb g j = true) := fun h j hj => by
    rcases Nat.lt_succ_iff_lt_or_eq.1 hj with h1 | h1
    ·exact HA.out j h1
    ·rw [h1];exact h
   have HO : Hid (oneMb g k = (okMb (memN g k) && (decide ((memN g k).id = (k : Int)) && decide ((memN g k).n = (g.mem.length : Int))))) := rfl
   have k1 : (k : Int) < (g.mem.length : Int) := by omega
   have k0 : (0 : Int) ≤ (k : Int) := by omega
   generalize oneMb g k = on at *
   generalize memN g k = m at *
   rw [hma]
   have HMa : Hid (A.ma = some ⟨bb,off,none⟩) := hma
   have hba := oneA16 wr (.cells #[.int .i64 m.id,.int .i64 m.n,.slice Ak.ra m.rows.length Ak.rc,.slice Ak.sa m.sung.length Ak.sc,.bool m.done] 103)
   have hxm := Bx.new wr 103 #[.int .i64 m.id,.int .i64 m.n,.slice Ak.ra m.rows.length Ak.rc,.slice Ak.sa m.sung.length Ak.sc,.bool m.done]
   have HBa : Hid (Below W0.heap.size W0 (wr.alloc (.cells #[.int .i64 m.id,.int .i64 m.n,.slice Ak.ra m.rows.length Ak.rc,.slice Ak.sa m.sung.length Ak.sc,.bool m.done] 103))) := HB.out.trans (hba.mono HB.out.size)
   have hMk := memI_any Ak m (wr.alloc (.cells #[.int .i64 m.id,.int .i64 m.n,.slice Ak.ra m.rows.length Ak.rc,.slice Ak.sa m.sung.length Ak.sc,.bool m.done] 103)) (hmp.below hba)
   unfold mbV mbC at hMk
   obtain ⟨y0,y1,y2,y3,y4⟩ := Bx.r5 hxm
   clear hmp hb hba hxm hma
   go_upto_region 7 with fail
   clear d0 d1 d2 d3 d4
   generalize wr.alloc (.cells #[.int .i64 m.id,.int .i64 m.n,.slice Ak.ra m.rows.length Ak.rc,.slice Ak.sa m.sung.length Ak.sc,.bool m.done] 103) = W5 at *
   by_cases q1 : m.id = (k : Int)
   rotate_left
   ·have z1 : (m.id != (k : Int)) = true := by simp [q1]
    have HZ : Hid (okGr g = false) := HF.out (by rw [HO.out,decide_eq_false q1];simp)
    clear HF HT HO q1
    go_wp2_with fail
    go_ret
    exact ⟨ret_bool (by rw [HZ.out]),HB0.out.trans (HBa.out.mono HB0.out.size)⟩
   have z1 : (m.id != (k : Int)) = false := by simp [q1]
   by_cases q2 : m.n = (g.mem.length : Int)
   rotate_left
   ·have z2 : (m.n != (g.mem.length : Int)) = true := by simp [q2]
    have HZ : Hid (okGr g = false) := HF.out (by rw [HO.out,decide_eq_false q2];simp)
    clear HF HT HO q1 q2
    go_wp2_with fail
    go_ret
    exact ⟨ret_bool (by rw [HZ.out]),HB0.out.trans (HBa.out.mono HB0.out.size)⟩
   have z2 : (m.n != (g.mem.length : Int)) = false := by simp [q2]
   have HO2 : Hid (on = okMb m) := by rw [Hid,HO.out,decide_eq_true q1,decide_eq_true q2];simp
   clear HO q1 q2
   generalize okMb m = ob at *
   go_wp2_with fail
   refine hMk.mono ?_
   rintro e w6 ⟨rfl,hb6⟩
   have HB6 : Hid (Below W0.heap.size W0 w6) := HBa.out.trans (hb6.mono HBa.out.size)
   clear hMk hb6 y0 y1 y2 y3 y4 z1 z2
   cases ob with
   | false =>
    have HZ : Hid (okGr g = false) := HF.out HO2.out
    clear HF HT HO2
    go_wp2_with fail
    go_ret
    exact ⟨ret_bool (by rw [HZ.out]),HB0.out.trans (HB6.out.mono HB0.out.size)⟩
   | true =>
    have HZ : Hid (∀ j,j < k + 1 → oneMb g j = true) := HT.out HO2.out
    clear HF HT HO2
    go_wp2_with fail
    go_roundw
    case rel => exact ⟨k + 1,by omega,by go_num,HZ.out,HB6.out⟩
    case measure => simp [intOf];omega
  ·have k1 : ¬ ((k : Int) < (g.mem.length : Int)) := by omega
   have HM : Hid (∀ j,j < g.mem.length → oneMb g j = true) := fun j hj => HA.out j (by omega)
   obtain ⟨c0,c1,c2⟩ := Bx.g3 (HX.out.below hb)
   clear hb HA
   go_wp2_with fail
   clear c0 c1 c2 k1
   generalize wr = V at *
   go_loopw [56] (fun v wr => ∃ k : Nat,k ≤ g.mail.length ∧ v = .int .i64 (k : Int) ∧ Hid (∀ j,j < k → okMl (mailN g j) (g.mem.length : Int) = true) ∧ Below W0.heap.size W0 wr) (fun v _ => g.mail.length - (intOf v).toNat)
   case atStart => exact ⟨0,Nat.zero_le _,rfl,fun j hj => by omega,HB.out⟩
   case round =>
    obtain ⟨k,hk,rfl,HA,hb⟩ := hrel
    have HB2 : Hid (Below W0.heap.size W0 wr) := hb
    by_cases hlt : k < g.mail.length
    ·obtain ⟨bb,off,Ak,hla,d0,d1,⟨⟨d2,d3,d4,d5⟩,d6,d7,d8,d9⟩,hrp⟩ := (HV.out.below hb).letter hlt
     have hx64 := HV.out.i64.2 _ (mailN_mem hlt)
     have HF : Hid (okMl (mailN g k) (g.mem.length : Int) = false → okGr g = false) := fun h => okGr_6 hlt h
     have HT : Hid (okMl (mailN g k) (g.mem.length : Int) = true → ∀ j,j < k + 1 → okMl (mailN g j) (g.mem.length : Int) = true) := fun h j hj => by
      rcases Nat.lt_succ_iff_lt_or_eq.1 hj with h1 | h1
      ·exact HA.out j h1
      ·rw [h1];exact h
     have HO : Hid (okMl (mailN g k) (g.mem.length : Int) = (belN (g.mem.length : Int) [(mailN g k).fr,(mailN g k).to] && okRw (mailN g k).row (g.mem.length : Int))) := okMl_split _ _
     have k1 : (k : Int) < (g.mail.length : Int) := by omega
     have k0 : (0 : Int) ≤ (k : Int) := by omega
     generalize okMl (mailN g k) (g.mem.length : Int) = on at *
     generalize (mailN g k).row = r at *
     generalize (mailN g k).fr = fr at *
     generalize (mailN g k).to = tt at *
     rw [hla]
     have HLa : Hid (A.la = some ⟨bb,off,none⟩) := hla
     have hba := oneA16 wr (.cells #[.int .i64 fr,.int .i64 tt,.int .i64 r.ver,.slice Ak.ta r.txt.length Ak.tc,.slice Ak.ga r.got.length Ak.gc,.slice Ak.sa r.sus.length Ak.sc,.bool r.wed,.bool r.rdy,.int .i64 r.by_,.slice Ak.ma r.trm.length Ak.mc] 139)
     have hxm := Bx.new wr 139 #[.int .i64 fr,.int .i64 tt,.int .i64 r.ver,.slice Ak.ta r.txt.length Ak.tc,.slice Ak.ga r.got.length Ak.gc,.slice Ak.sa r.sus.length Ak.sc,.bool r.wed,.bool r.rdy,.int .i64 r.by_,.slice Ak.ma r.trm.length Ak.mc]
     have HBa : Hid (Below W0.heap.size W0 (wr.alloc (.cells #[.int .i64 fr,.int .i64 tt,.int .i64 r.ver,.slice Ak.ta r.txt.length Ak.tc,.slice Ak.ga r.got.length Ak.gc,.slice Ak.sa r.sus.length Ak.sc,.bool r.wed,.bool r.rdy,.int .i64 r.by_,.slice Ak.ma r.trm.length Ak.mc] 139))) := HB2.out.trans (hba.mono HB2.out.size)
     have hrp5 := hrp.below hba
     have HRp : Hid (RwP (wr.alloc (.cells #[.int .i64 fr,.int .i64 tt,.int .i64 r.ver,.slice Ak.ta r.txt.length Ak.tc,.slice Ak.ga r.got.length Ak.gc,.slice Ak.sa r.sus.length Ak.sc,.bool r.wed,.bool r.rdy,.int .i64 r.by_,.slice Ak.ma r.trm.length Ak.mc] 139)) Ak r) := hrp5
     have HXm : Hid (Bx (wr.alloc (.cells #[.int .i64 fr,.int .i64 tt,.int .i64 r.ver,.slice Ak.ta r.txt.length Ak.tc,.slice Ak.ga r.got.length Ak.gc,.slice Ak.sa r.sus.length Ak.sc,.bool r.wed,.bool r.rdy,.int .i64 r.by_,.slice Ak.ma r.trm.length Ak.mc] 139)) wr.heap.size 139 #[.int .i64 fr,.int .i64 tt,.int .i64 r.ver,.slice Ak.ta r.txt.length Ak.tc,.slice Ak.ga r.got.length Ak.gc,.slice Ak.sa r.sus.length Ak.sc,.bool r.wed,.bool r.rdy,.int .i64 r.by_,.slice Ak.ma r.trm.length Ak.mc]) := hxm
     obtain ⟨⟨y0,y1,_,_,_⟩,_⟩ := Bx.r10p hxm
     clear hrp hrp5 hb hba hxm hla
     go_upto_region 13 with fail
     clear d0 d1 d2 d3 d4 d5 d6 d7 d8 d9
     generalize wr.alloc (.cells #[.int .i64 fr,.int .i64 tt,.int .i64 r.ver,.slice Ak.ta r.txt.length Ak.tc,.slice Ak.ga r.got.length Ak.gc,.slice Ak.sa r.sus.length Ak.sc,.bool r.wed,.bool r.rdy,.int .i64 r.by_,.slice Ak.ma r.trm.length Ak.mc] 139) = W5 at *
     have hb7 := oneA16 W5 (.cells #[.int .i64 fr,.int .i64 tt] 2)
     have hAb := anb_any (g.mem.length : Int) W5.heap.size 0 2 [fr,tt] (W5.alloc (.cells #[.int .i64 fr,.int .i64 tt] 2)) (vec_pair W5 fr tt hx64.1 hx64.2.1) (by simp) (by simp) (by unfold maxLen;omega) (by omega)
     have HB7 : Hid (Below W0.heap.size W0 (W5.alloc (.cells #[.int .i64 fr,.int .i64 tt] 2))) := HBa.out.trans (hb7.mono HBa.out.size)
     have hRo := implRowOk Ak r (g.mem.length : Int) (W5.alloc (.cells #[.int .i64 fr,.int .i64 tt] 2)) (HRp.out.below hb7) (by unfold I64v;omega)
     obtain ⟨_,y5,y6,y7,y8,y9⟩ := Bx.r10p (HXm.out.below hb7)
     obtain ⟨⟨_,_,y2,y3,y4⟩,_⟩ := Bx.r10p (HXm.out.below hb7)
     unfold rwV rwC at hRo
     simp only [List.length_cons,List.length_nil,Nat.zero_add,Nat.reduceAdd] at hAb
     generalize belN (g.mem.length : Int) [fr,tt] = p at *
     clear hb7 hx64
     cases p with
     | false =>
      have HZ : Hid (okGr g = false) := HF.out (by rw [HO.out];rfl)
      clear HF HT HO hRo y2 y3 y4 y5 y6 y7 y8 y9
      go_wp2_with (go_at_call 128;refine hAb.mono ?_;rintro e w' ⟨rfl,hw'⟩;rw [hw'];clear hw')
      go_ret
      exact ⟨ret_bool (by rw [HZ.out]),HB0.out.trans (HB7.out.mono HB0.out.size)⟩
     | true =>
      have HO2 : Hid (on = okRw r (g.mem.length : Int)) := by rw [Hid,HO.out,Bool.true_and]
      clear HO
      generalize okRw r (g.mem.length : Int) = ob at *
      go_wp2_with (go_at_call 128;refine hAb.mono ?_;rintro e w' ⟨rfl,hw'⟩;rw [hw'];clear hw')
      refine hRo.mono ?_
      rintro e w6 ⟨rfl,hb6⟩
      have HB6 : Hid (Below W0.heap.size W0 w6) := HB7.out.trans (hb6.mono HB7.out.size)
      clear hRo hb6 hAb y0 y1 y2 y3 y4 y5 y6 y7 y8 y9
      cases ob with
      | false =>
       have HZ : Hid (okGr g = false) := HF.out HO2.out
       clear HF HT HO2
       go_wp2_with fail
       go_ret
       exact ⟨ret_bool (by rw [HZ.out]),HB0.out.trans (HB6.out.mono HB0.out.size)⟩
      | true =>
       have HZ : Hid (∀ j,j < k + 1 → okMl (mailN g j) (g.mem.length : Int) = true) := HT.out HO2.out
       clear HF HT HO2
       go_wp2_with fail
       go_roundw
       case rel => exact ⟨k + 1,by omega,by go_num,HZ.out,HB6.out⟩
       case measure => simp [intOf];omega
    ·have k1 : ¬ ((k : Int) < (g.mail.length : Int)) := by omega
     have HZ : Hid (okGr g = true) := okGr_yes (by omega) (by omega) HU.out hm HM.out (fun j hj => HA.out j (by omega))
     clear hb HA
     go_wp2_with fail
     go_ret
     exact ⟨ret_bool (by rw [HZ.out]),HB0.out.trans (HB2.out.mono HB0.out.size)⟩
end Go.Proofs.Ytlnmdfgcpfbleaa
namespace Go.Proofs.Ytlnmdfgcpfbleaa
set_option linter.unusedVariables false
set_option linter.unusedSimpArgs false
open Go.RowKit Go.Sort
set_option maxRecDepth 100000 in
set_option maxHeartbeats 3200000 in
theorem endd_any (A : Ga) (g : Gr) (w : World) (hv : GrS w A g) (h5 : g.mem.length ≤ 5) :
  Calls Try.prog 99 #[grV A g] w fun e w' => AnsL w w' e (dnK g g.mem.length) := by
 have hB0 := oneA16 w (.cells (grC A g) 61)
 have hx := Bx.new w 61 (grC A g)
 have h0 := hv.below hB0
 unfold grV at *
 unfold grC at *
 generalize hW : w.alloc (.cells #[.slice A.ma g.mem.length A.mc,.slice A.ua g.up.length A.uc,.slice A.la g.mail.length A.lc] 61) = W at *
 have hb0 := oneA16 W (.cells #[] 2)
 have HO0 : Hid (Cel.ow (W.alloc (.cells #[] 2)) (icl []) (.slice (some ⟨W.heap.size,0,none⟩) 0 0) (fun _ => False)) := ow_icl.2 ⟨_,0,none,rfl,OSo.nil _ _ (plainS _ _),fun b => by simp⟩
 have HX : Hid (Bx W w.heap.size 61 #[.slice A.ma g.mem.length A.mc,.slice A.ua g.up.length A.uc,.slice A.la g.mail.length A.lc]) := hx
 have HV : Hid (GrS W A g) := h0
 have HB0 : Hid (∀ X,Below W.heap.size W X → Below w.heap.size w X) := fun X h => hB0.trans (h.mono hB0.size)
 have hws := hB0.size
 have HBz : Hid (Below W.heap.size W (W.alloc (.cells #[] 2))) := hb0
 obtain ⟨c0,c1,c2⟩ := Bx.g3 (hx.below hb0)
 clear hv hx h0 hB0 hb0
 go_enter Try.func99,Try.ntmps99
 go_upto_region 2 with fail
 go_wp2_with fail
 clear c0 c1 c2
 go_loopw [3,10] (fun v i wr => ∃ (k : Nat) (a : Option Addr) (cc : Nat) (Z : List Int) (fz : Fp),k ≤ g.mem.length ∧ i = .int .i64 (k : Int) ∧ v = .slice a Z.length cc ∧ Hid (Z = dnK g k) ∧ Cel.ow wr (icl Z) (.slice a Z.length cc) fz ∧ (∀ b,fz b → W.heap.size ≤ b) ∧ Below W.heap.size W wr) (fun _ i _ => g.mem.length - (intOf i).toNat)
 case atStart => exact ⟨0,some ⟨W.heap.size,0,none⟩,0,[],_,Nat.zero_le _,rfl,rfl,rfl,HO0.out,fun b h => h.elim,HBz.out⟩
 case round =>
  obtain ⟨k,a,cc,Z,fz,hk,rfl,rfl,hZ,hO,hfz,hgr⟩ := hrel
  have hzl : Z.length ≤ 1000000 := by rw [hZ.out];have := dnK_len g k;omega
  have hgs := hgr.size
  by_cases hlt : k < g.mem.length
  ·have k1 : (k : Int) < (g.mem.length : Int) := by omega
   have k0 : (0 : Int) ≤ (k : Int) := by omega
   obtain ⟨b,off,Ak,hma,⟨d0,d1,d2,d3,d4⟩,hms⟩ := (HV.out.below hgr).member (k := k) hlt
   rw [hma]
   have hbm := oneA16 wr (.cells #[.int .i64 (memN g k).id,.int .i64 (memN g k).n,.slice Ak.ra (memN g k).rows.length Ak.rc,.slice Ak.sa (memN g k).sung.length Ak.sc,.bool (memN g k).done] 103)
   have hbx := Bx.new wr 103 #[.int .i64 (memN g k).id,.int .i64 (memN g k).n,.slice Ak.ra (memN g k).rows.length Ak.rc,.slice Ak.sa (memN g k).sung.length Ak.sc,.bool (memN g k).done]
   have HN : Hid (dnK g (k + 1) = if (memN g k).done = true then Z ++ [(k : Int)] else Z) := by rw [Hid,dnK_more,hZ.out]
   have HO : Hid (Cel.ow (wr.alloc (.cells #[.int .i64 (memN g k).id,.int .i64 (memN g k).n,.slice Ak.ra (memN g k).rows.length Ak.rc,.slice Ak.sa (memN g k).sung.length Ak.sc,.bool (memN g k).done] 103)) (icl Z) (.slice a Z.length cc) fz) := Cel.ow_below hO hbm
   have HG : Hid (Below W.heap.size W (wr.alloc (.cells #[.int .i64 (memN g k).id,.int .i64 (memN g k).n,.slice Ak.ra (memN g k).rows.length Ak.rc,.slice Ak.sa (memN g k).sung.length Ak.sc,.bool (memN g k).done] 103))) := hgr.trans (hbm.mono hgs)
   clear hma hms hgr hO hZ hbm
   go_upto_region 5 with fail
   generalize wr.alloc (.cells #[.int .i64 (memN g k).id,.int .i64 (memN g k).n,.slice Ak.ra (memN g k).rows.length Ak.rc,.slice Ak.sa (memN g k).sung.length Ak.sc,.bool (memN g k).done] 103) = wm at *
   have hsz : W.heap.size ≤ wm.heap.size := HG.out.size
   clear d0 d1 d2 d3 d4
   obtain ⟨m0,m1,m2,m3,m4⟩ := Bx.r5 hbx
   clear hbx m0 m1 m2 m3
   cases hd : (memN g k).done with
   | false =>
    have HE : Hid (Z = dnK g (k + 1)) := by rw [Hid,HN.out,hd];rfl
    rw [hd] at m4
    clear hd HN
    go_wp2
    go_roundw
    case rel => exact ⟨k + 1,a,cc,Z,fz,by omega,by go_num,rfl,HE,HO.out,hfz,HG.out⟩
    case measure => simp [intOf];omega
   | true =>
    have HE : Hid (Z ++ [(k : Int)] = dnK g (k + 1)) := by rw [Hid,HN.out,hd];rfl
    rw [hd] at m4
    clear hd HN
    obtain ⟨a',c',ea,hA⟩ := ow_int_app (k : Int) HO.out hzl
    cases ea
    go_wp2_with (at_builtin;refine wpList_append_of (by rfl) _ _ _ _ (by rfl) _ _ (by rfl) (by rfl) hA ⟨rfl,rfl,rfl,rfl⟩ ?_;rintro v1 w2 ⟨a1,e1,f1,rfl,q1,q2,q3⟩;have HQ1 : Hid (Cel.ow w2 (icl (Z ++ [(k : Int)])) (.slice a1 (Z.length + 1) e1) f1) := q1;have HQ2 : Hid (∀ b,f1 b → fz b ∨ wm.heap.size ≤ b) := q2;have HQ3 : Hid (Wrt fz wm w2) := q3;clear q1 q2 q3 hA)
    have HL : Hid ((Z ++ [(k : Int)]).length = Z.length + 1) := by rw [Hid,List.length_append];rfl
    go_roundw
    case rel => exact ⟨k + 1,a1,e1,Z ++ [(k : Int)],f1,by omega,by go_num,by rw [HL.out],HE,by rw [HL.out];exact HQ1.out,fun b hb => (HQ2.out b hb).elim (hfz b) (fun h => by omega),HQ3.out.below HG.out (by omega) (fun b hb => hfz b hb)⟩
    case measure => simp [intOf];omega
  ·have k1 : ¬ ((k : Int) < (g.mem.length : Int)) := by omega
   have HE : Hid (dnK g g.mem.length = Z) := by rw [Hid,hZ.out,show k = g.mem.length by omega]
   have HF : Hid (NewO w wr (icl Z) (.slice a Z.length cc)) := ⟨fz,hO,fun b hb => by have := hfz b hb;omega,HB0.out _ hgr⟩
   clear hO hgr hZ
   go_wp2
   go_ret
   rw [HE.out]
   exact ⟨a,cc,rfl,HF.out⟩
set_option maxRecDepth 100000 in
set_option maxHeartbeats 3200000 in
theorem implEnded : ImplEnded := by
 intro A g w hv
 have hb0 := oneA16 w (.cells #[.slice A.ma g.mem.length A.mc,.slice A.ua g.up.length A.uc,.slice A.la g.mail.length A.lc] 61)
 have hx0 := Bx.new w 61 #[.slice A.ma g.mem.length A.mc,.slice A.ua g.up.length A.uc,.slice A.la g.mail.length A.lc]
 have hG := gokI_any A g (w.alloc (.cells #[.slice A.ma g.mem.length A.mc,.slice A.ua g.up.length A.uc,.slice A.la g.mail.length A.lc] 61)) (hv.below hb0)
 have HV : Hid (GrP (w.alloc (.cells #[.slice A.ma g.mem.length A.mc,.slice A.ua g.up.length A.uc,.slice A.la g.mail.length A.lc] 61)) A g) := hv.below hb0
 unfold grV grC at hG ⊢
 generalize hWW : w.alloc (.cells #[.slice A.ma g.mem.length A.mc,.slice A.ua g.up.length A.uc,.slice A.la g.mail.length A.lc] 61) = W at *
 have HX : Hid (Bx W w.heap.size 61 #[.slice A.ma g.mem.length A.mc,.slice A.ua g.up.length A.uc,.slice A.la g.mail.length A.lc]) := hx0
 have HB0 : Hid (Below w.heap.size w W) := hb0
 obtain ⟨c0,c1,c2⟩ := Bx.g3 hx0
 clear hv hb0 hx0
 go_enter Try.func51,Try.ntmps51
 go_wp2_with fail
 refine hG.mono ?_
 rintro e w1 ⟨rfl,hb1⟩
 have HB1 : Hid (Below w.heap.size w w1) := HB0.out.trans (hb1.mono HB0.out.size)
 have HV1 : Hid (GrP w1 A g) := HV.out.below hb1
 clear c0 c1 c2
 obtain ⟨c0,c1,c2⟩ := Bx.g3 (HX.out.below hb1)
 clear hG hb1 hWW
 cases hok : okGr g with
 | false =>
  have HZ : Hid (dnM g = []) := by rw [Hid,dnM,hok];rfl
  have HE : Hid (NewO w (w1.alloc (.cells #[] 2)) (icl []) (.slice (some ⟨w1.heap.size,0,none⟩) 0 0)) := ⟨_,ow_icl.2 ⟨_,0,none,rfl,OSo.nil _ _ (plainS _ _),fun b => Iff.rfl⟩,fun b h => (by cases h),HB1.out.trans ((oneA16 w1 _).mono HB1.out.size)⟩
  clear hok
  go_wp2
  go_ret
  rw [HZ.out]
  exact ⟨_,_,rfl,HE.out⟩
 | true =>
  have HZ : Hid (dnM g = dnK g g.mem.length) := by rw [Hid,dnM,if_pos hok]
  obtain ⟨n,ok⟩ := okGr_iff.1 hok
  have hE := endd_any A g w1 HV1.out.grs (by rw [ok.ml];exact ok.n5.2)
  unfold grV grC at hE
  clear hok ok
  go_wp2_with fail
  refine hE.mono ?_
  rintro e w2 ⟨a,c,rfl,hN⟩
  have HF : Hid (NewO w w2 (icl (dnK g g.mem.length)) (.slice a (dnK g g.mem.length).length c)) := hN.before HB1.out
  clear hN hE c0 c1 c2
  go_wp2
  go_ret
  rw [HZ.out]
  exact ⟨a,c,rfl,HF.out⟩
end Go.Proofs.Ytlnmdfgcpfbleaa