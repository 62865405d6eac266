/-
  The contract of the program's Order.
-/
import Derived.Test.YtehnnfpjdfffcaaSrt
import Derived.Test.YtehnnfpjdfffcaaOrd
namespace Go.Proofs.Ytehnnfpjdfffcaa
set_option linter.unusedSimpArgs false
set_option linter.unusedVariables false
open Go.RowKit Go.Sort Go.Shelf

theorem OI.sets {w : World} {g off n cap : Nat} {zs : List Int} (h : OI w g off n cap zs) {ys : List Int} (hy : ys.length = n) (os : Array Obj) (q : Nat) : OI (grow ((w.drewN q).setCells g off (ys.map (Value.int .i64))) os) g off n cap ys := by
  have hl : (ys.map (Value.int .i64)).length = n := by simp [hy]
  have hin := World.cell?_setCells_in g (ys.map (Value.int .i64)) off (w.drewN q) (fun j hj => by rw [hl] at hj; exact h.some j (by have := h.le; omega))
  have hs : g < ((w.drewN q).setCells g off (ys.map (Value.int .i64))).heap.size := by rw [size_setCells]; exact h.blk
  have h1 : OI ((w.drewN q).setCells g off (ys.map (Value.int .i64))) g off n cap ys := by
    refine ⟨by simp [hy], h.le, h.max, hs, fun i hi => ?_, fun i hi => ?_, fun i hi => by rw [World.frozen?_setCells]; exact h.free i hi⟩
    · simp only [Nat.mul_one] at hi
      rw [hin i (by rw [hl]; exact hi)]
      simp [show i < ys.length by omega]
    · by_cases hc : i < n
      · rw [hin i (by rw [hl]; exact hc)]; rfl
      · rw [World.cell?_setCells_out _ _ _ _ _ (fun _ _ => by rw [hl]; simp; omega)]; exact h.some i hi
  exact OSl.of_block h1 (heap_grow_old _ _ hs) (by rw [size_grow]; omega)

/-- The row of the numbers from 0 on, as it is being filled. -/
def idP (n k : Nat) : List Int := (List.range n).map (fun j => if j < k then (j : Int) else 0)
theorem idP_len (n k : Nat) : (idP n k).length = n := by simp [idP]
theorem idP_start (n : Nat) : idP n 0 = List.replicate n 0 := by
  refine List.ext_getElem (by simp [idP]) (fun i h1 h2 => ?_)
  simp [idP]
theorem idP_set (n k : Nat) : (idP n k).set k (k : Int) = idP n (k + 1) := by
  refine List.ext_getElem (by simp [idP]) (fun i h1 h2 => ?_)
  rw [List.getElem_set]
  simp only [idP, List.getElem_map, List.getElem_range]
  by_cases e : k = i
  · subst e; simp
  · rw [if_neg e]
    by_cases h : i < k
    · rw [if_pos h, if_pos (by omega)]
    · rw [if_neg h, if_neg (by omega)]
theorem idP_done (n : Nat) : idP n n = nI (List.range n) := by
  refine List.ext_getElem (by simp [idP, nI]) (fun i h1 h2 => ?_)
  simp [idP] at h1
  simp [idP, nI, h1]

set_option maxRecDepth 100000 in
set_option maxHeartbeats 1600000 in
/-- The call of slices.SortFunc, one number or more. -/
theorem sort_any (es : List Ev) (R n c s l g og cg b off len cap : Nat) (w : World) (h0 : 0 < n) (h40 : n ≤ 40) (hnl : n ≤ len) (ho : OI w R 0 n c (nI (List.range n))) (hs : w.cell? ⟨s, 0, none⟩ = some (.slice (some ⟨g, og, none⟩) n cg)) (hl : w.cell? ⟨l, 0, none⟩ = some (.slice (some ⟨b, off, none⟩) len cap))
    (hst : ∀ j, j < n → w.cell? ⟨g, og + j, none⟩ = some (.int .i64 (st es j))) (hc : EvsAt w b off len es) (n1 : s ≠ R) (n2 : l ≠ R) (n3 : g ≠ R) (n4 : b ≠ R) :
    Calls Try.prog 72 #[.slice (some ⟨R, 0, none⟩) n c, .func (.func 73) #[] #[.pointer (some ⟨s, 0, none⟩), .pointer (some ⟨l, 0, none⟩)]] w fun e w' => e = .returned (.tuple #[]) ∧ ∃ O, IsOrder es n O ∧ OI w' R 0 n c (nI O) ∧ w.grownBy w' (some R) := by
  haveI : Inhabited (Num n) := ⟨⟨0, h0⟩⟩
  have hsz : (nums n).toArray.size = n := by simp [nums_len]
  have hH : Holds (encN n) w R 0 (nums n).toArray := fun j hj => by
    rw [hsz] at hj
    have hj' : j < (nums n).length := by rw [nums_len]; exact hj
    refine ⟨?_, ho.free j (by have := ho.le; omega)⟩
    rw [ho.cellAt hj, nI_el (by simpa using hj)]
    have : (nums n).toArray[j]! = (nums n)[j] := by simp [hj']
    rw [this]
    simp [encN, nums_get hj']
  have eg : ∀ args w, (callFunc 73 args).run Try.prog w = .ok (.enter 73 args) w := enters_of Try.func73 (by kernel_rfl) rfl
  have hcmp : CmpLays1 Try.prog 73 #[.pointer (some ⟨s, 0, none⟩), .pointer (some ⟨l, 0, none⟩)] (encN n) (cfN es n) R 0 (nums n).toArray.size w := by
    intro m os dk hdk x y
    have far := fun (X : Addr) (v : Value) (h : w.cell? X = some v) (hne : X.block ≠ R) => sortWorld_far (encN n) w R 0 m dk os X v h hne
    have := ordC_any x.val y.val s l g og n cg b off len cap (st es x.val) (st es y.val) (evAt es x.val).n (evAt es y.val).n (sortWorld (encN n) w R 0 m dk os) (far _ _ hs n1) (far _ _ hl n2) x.2 y.2 (by omega) (by omega)
      (far _ _ (hst _ x.2) n3) (far _ _ (hst _ y.2) n3) (far _ _ (hc _ (by omega)).1 n4) (far _ _ (hc _ (by omega)).1 n4)
    exact this.mono fun e w' ⟨he, hg⟩ => ⟨he, hg.out⟩
  have hS := Any.slices_SortFunc_total Try.sortL (encN n) (fun _ => rfl) (cfN es n) (swoN es n) 73 #[.pointer (some ⟨s, 0, none⟩), .pointer (some ⟨l, 0, none⟩)] R 0 c (nums n).toArray w eg hcmp hH ho.blk (by rw [hsz]; omega) (totN es n)
  rw [hsz] at hS
  change Calls Try.prog 72 _ _ _ at hS
  refine hS.mono ?_
  rintro e w' ⟨he, q, os, hw⟩
  refine ⟨he, _, sorted_order es n, ?_⟩
  have hlen : ((nums n).mergeSort (fun x y => !(ltOf (cfN es n)) y x)).length = (nums n).toArray.size := by simp
  have hw2 : w' = grow ((w.drewN q).setCells R 0 (((nums n).mergeSort (fun x y => !(ltOf (cfN es n)) y x)).map (encN n))) os := by
    rw [hw]; exact Lib.sorted_world (encN n) w R 0 q (nums n).toArray _ os hH hlen
  have hmap : ((nums n).mergeSort (fun x y => !(ltOf (cfN es n)) y x)).map (encN n) = (nI (((nums n).mergeSort (fun x y => !(ltOf (cfN es n)) y x)).map (·.val))).map (Value.int .i64) := by
    unfold nI; rw [List.map_map, List.map_map]; rfl
  rw [hmap] at hw2
  rw [hw2]
  refine ⟨ho.sets (by rw [nI_len]; simp [nums_len]) os q, ?_⟩
  have g1 := grown_setCells R ((nI (((nums n).mergeSort (fun x y => !(ltOf (cfN es n)) y x)).map (·.val))).map (Value.int .i64)) 0 (w.drewN q)
  refine ⟨g1.os, g1.tape, g1.output, by simp [size_grow, size_setCells], fun k hk hr => ?_⟩
  rw [heap_grow_old _ _ (by rw [size_setCells]; exact hk)]
  exact g1.block k hk hr

theorem stT_ord {es : List Ev} {len : Nat} : (stT es len).length = if okT es len = true then len else 0 := by
  unfold stT; split <;> simp [stL_len]

set_option maxRecDepth 100000 in
set_option maxHeartbeats 1600000 in
theorem implOrder_any (b off len cap : Nat) (es : List Ev) (w : World) (hc : EvsAt w b off len es) (hm : len ≤ maxLen) (hcap : len ≤ cap) :
    Calls Try.prog 31 #[.slice (some ⟨b, off, none⟩) len cap] w fun e w' => ∃ Z, IsOrd es len Z ∧ Ans w w' e Z := by
  have g0 : Grew w (w.alloc (.cells #[.slice (some ⟨b, off, none⟩) len cap] 33)) := (Grew.refl _).alloc _
  have hL0 : (w.alloc (.cells #[.slice (some ⟨b, off, none⟩) len cap] 33)).cell? ⟨w.heap.size, 0, none⟩ = some (.slice (some ⟨b, off, none⟩) len cap) := by simp
  have hS := implStamps_any b off len cap es _ (hc.grew g0) hm hcap
  have hzl : (stT es len).length ≤ 40 := by
    rw [stT_ord]; split
    · rename_i h; exact (okT_all h).1
    · omega
  have HZO : Hid ((stT es len).length = if okT es len = true then len else 0) := stT_ord
  have hmk := run_make_row' (P := Try.prog) 24 2 (.int .i64 0) 8 Try.underlying24 Try.info2 rfl .i64 .i64 (stT es len).length (by omega) (by omega)
  go_enter Try.func31, Try.ntmps31
  go_wp2_with fail
  refine hS.mono ?_
  rintro e w1 ⟨g, og, cg, rfl, hg, hst, hb1⟩
  have B1 : Below w.heap.size w w1 := g0.1.trans (hb1.mono g0.1.size)
  have L1 : w1.cell? ⟨w.heap.size, 0, none⟩ = some (.slice (some ⟨b, off, none⟩) len cap) := (hb1.cell (World.block_lt_of_cell? _ _ hL0)).trans hL0
  have hlb := World.block_lt_of_cell? _ _ L1
  simp only at hlb
  have KS : Hid (∀ j, j < (stT es len).length → w1.cell? ⟨g, og + j, none⟩ = some (.int .i64 (el (stT es len) j))) := fun j hj => hst.cellAt hj
  have hgl := hst.blk
  have KB : Hid (Below w.heap.size w w1) := B1
  have KC : Hid (EvsAt w1 b off len es) := evs_below hc B1 (Nat.le_refl _)
  have hs1 := B1.size
  clear hS hst hb1 hL0 g0 hc B1
  generalize hn : (stT es len).length = n at *
  have HN : Hid ((stT es len).length = n) := hn
  have hb2 : Below w1.heap.size w1 (w1.alloc (.cells #[.slice (some ⟨g, og, none⟩) n cg] 24)) := (Below.refl _ _).alloc (Nat.le_refl _) _
  have S2 : (w1.alloc (.cells #[.slice (some ⟨g, og, none⟩) n cg] 24)).cell? ⟨w1.heap.size, 0, none⟩ = some (.slice (some ⟨g, og, none⟩) n cg) := by simp
  have O3 := oi_made (w1.alloc (.cells #[.slice (some ⟨g, og, none⟩) n cg] 24)) n (by unfold maxLen; omega)
  have e3 : (w1.alloc (.cells #[.slice (some ⟨g, og, none⟩) n cg] 24)).heap.size = w1.heap.size + 1 := by simp
  rw [e3] at O3
  have hb3 : Below w1.heap.size w1 ((w1.alloc (.cells #[.slice (some ⟨g, og, none⟩) n cg] 24)).alloc (.cells (madeCells #[.int .i64 0] n) 2)) := hb2.alloc (by simp) _
  have S3 : ((w1.alloc (.cells #[.slice (some ⟨g, og, none⟩) n cg] 24)).alloc (.cells (madeCells #[.int .i64 0] n) 2)).cell? ⟨w1.heap.size, 0, none⟩ = some (.slice (some ⟨g, og, none⟩) n cg) :=
    (((Below.refl _ _).alloc (Nat.le_refl _) _).cell (World.block_lt_of_cell? _ _ S2)).trans S2
  have K3 : Hid (OI ((w1.alloc (.cells #[.slice (some ⟨g, og, none⟩) n cg] 24)).alloc (.cells (madeCells #[.int .i64 0] n) 2)) (w1.heap.size + 1) 0 n n (List.replicate n 0)) := O3
  have KB3 : Hid (Below w1.heap.size w1 ((w1.alloc (.cells #[.slice (some ⟨g, og, none⟩) n cg] 24)).alloc (.cells (madeCells #[.int .i64 0] n) 2))) := hb3
  have KS3 : Hid (((w1.alloc (.cells #[.slice (some ⟨g, og, none⟩) n cg] 24)).alloc (.cells (madeCells #[.int .i64 0] n) 2)).cell? ⟨w1.heap.size, 0, none⟩ = some (.slice (some ⟨g, og, none⟩) n cg)) := S3
  have HL1 : Hid (w1.cell? ⟨w.heap.size, 0, none⟩ = some (.slice (some ⟨b, off, none⟩) len cap)) := L1
  clear hb2 S2 O3 hb3 S3 e3 hn L1
  go_wp2
  go_loopw [13] (fun i wr => ∃ k : Nat, k ≤ n ∧ i = .int .i64 k ∧ OI wr (w1.heap.size + 1) 0 n n (idP n k) ∧ wr.cell? ⟨w1.heap.size, 0, none⟩ = some (.slice (some ⟨g, og, none⟩) n cg) ∧ Below w1.heap.size w1 wr) (fun i _ => n - (intOf i).toNat)
  case atStart => exact ⟨0, Nat.zero_le _, rfl, by rw [idP_start]; exact K3.out, KS3.out, KB3.out⟩
  case round =>
    obtain ⟨k, hk, rfl, hown, hsc, hbel⟩ := hrel
    have HO : Hid (OI wr (w1.heap.size + 1) 0 n n (idP n k)) := hown
    have HSC : Hid (wr.cell? ⟨w1.heap.size, 0, none⟩ = some (.slice (some ⟨g, og, none⟩) n cg)) := hsc
    have HB : Hid (Below w1.heap.size w1 wr) := hbel
    clear hown hsc hbel K3 KS3 KB3
    by_cases hlt : k < n
    · have x1 := HO.out.cellAt (i := k) hlt
      have x2 := HO.out.free k (by omega)
      simp only [Nat.zero_add] at x1 x2
      have hk1 : (k : Int) < (n : Int) := by omega
      have R1 : Hid (OI (wr.setCell ⟨w1.heap.size + 1, k, none⟩ (.int .i64 (k : Int))) (w1.heap.size + 1) 0 n n (idP n (k + 1))) := by rw [Hid, ← idP_set]; exact HO.out.set0 hlt _
      have R2 : Hid ((wr.setCell ⟨w1.heap.size + 1, k, none⟩ (.int .i64 (k : Int))).cell? ⟨w1.heap.size, 0, none⟩ = some (.slice (some ⟨g, og, none⟩) n cg)) := (World.cell?_setCell_far _ _ _ _ (by simp)).trans HSC.out
      have R3 : Hid (Below w1.heap.size w1 (wr.setCell ⟨w1.heap.size + 1, k, none⟩ (.int .i64 (k : Int)))) := HB.out.setCell (Nat.le_succ _) _
      go_wp2
      go_roundw
      case rel => exact ⟨k + 1, by omega, by go_num, R1.out, R2.out, R3.out⟩
      case measure => simp [intOf]; omega
    · have hkn : k = n := by omega
      subst hkn
      have hB : Below w.heap.size w wr := KB.out.trans (HB.out.mono hs1)
      by_cases h0 : k = 0
      · have hS0 := fun W => AnyF.slices_SortFunc_none (P := Try.prog) (ρ := Try.sortL_ren) { Try.sortL with } (some ⟨w1.heap.size + 1, 0, none⟩) 0 (.func (.func 73) #[] #[.pointer (some ⟨w1.heap.size, 0, none⟩), .pointer (some ⟨w.heap.size, 0, none⟩)]) W
        change ∀ W, Calls Try.prog 72 _ _ _ at hS0
        have HORD : Hid (IsOrd es len []) := by
          have hz := HZO.out
          rw [h0] at hz
          cases ho : okT es len with
          | false => exact .inl ⟨ho, rfl⟩
          | true =>
            rw [ho] at hz
            simp at hz
            exact .inr ⟨ho, [], by rw [← hz]; exact ⟨List.Perm.refl _, List.Pairwise.nil⟩, rfl⟩
        have HO0 := HO.out
        subst h0
        go_wp2_with fail
        refine (hS0 wr).mono ?_
        rintro e w9 ⟨rfl, hw9⟩
        have B9 : Hid (Below w.heap.size w w9) := by rw [Hid, hw9]; exact hB
        have O9 : Hid (OI w9 (w1.heap.size + 1) 0 0 0 []) := by rw [Hid, hw9]; exact HO0
        clear hw9
        go_wp2
        go_ret
        exact ⟨[], HORD.out, w1.heap.size + 1, 0, 0, rfl, by omega, O9.out, B9.out⟩
      · have hkl : k ≤ len := by have hz := HZO.out; split at hz <;> omega
        have hoT : okT es len = true := by
          cases ho : okT es len with
          | true => rfl
          | false => have hz := HZO.out; rw [ho] at hz; simp at hz; omega
        have hke : k = len := by have hz := HZO.out; rw [if_pos hoT] at hz; omega
        have HST : ∀ j, j < k → wr.cell? ⟨g, og + j, none⟩ = some (.int .i64 (st es j)) := fun j hj => by
          have h1 := KS.out j hj
          rw [show stT es len = stL es len by unfold stT; rw [if_pos hoT], el_stL (by omega)] at h1
          exact (HB.out.cell (World.block_lt_of_cell? _ _ h1)).trans h1
        have hbl := World.block_lt_of_cell? _ _ (KC.out 0 (by omega)).1
        simp only at hbl
        have hO := HO.out
        rw [idP_done] at hO
        have hsort := sort_any es (w1.heap.size + 1) k k w1.heap.size w.heap.size g og cg b off len cap wr (by omega) (by omega) hkl hO HSC.out ((HB.out.cell (World.block_lt_of_cell? _ _ HL1.out)).trans HL1.out) HST (evs_below KC.out HB.out (Nat.le_refl _)) (by omega) (by omega) (by omega) (by omega)
        have HKE : Hid (k = len) := hke
        have HOT : Hid (okT es len = true) := hoT
        clear hO HST hke hoT
        go_wp2_with fail
        refine hsort.mono ?_
        rintro e w9 ⟨rfl, O, hord, ho9, hg9⟩
        have B9 : Hid (Below w.heap.size w w9) := below_grown hB hg9 (by omega) hB.size
        have O9 : Hid (OI w9 (w1.heap.size + 1) 0 k k (nI O)) := ho9
        have HORD : Hid (IsOrd es len (nI O)) := .inr ⟨HOT.out, O, by rw [← HKE.out]; exact hord, rfl⟩
        have HL : Hid (O.length = k) := hord.length
        clear ho9 hg9 hord hsort
        go_wp2
        go_ret
        exact ⟨nI O, HORD.out, ans_of (by rw [nI_len, HL.out]) (by omega) O9.out B9.out⟩
end Go.Proofs.Ytehnnfpjdfffcaa
