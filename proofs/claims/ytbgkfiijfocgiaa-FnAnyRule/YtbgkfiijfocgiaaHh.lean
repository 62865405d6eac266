/-
  Several texts in one: Fix Oim Qtl.
-/
import Derived.Test.YtbgkfiijfocgiaaGa
import Derived.Test.YtbgkfiijfocgiaaGb
import Derived.StillTail
import Derived.Deep.Quiet
import Derived.BigQuiet
/-
  Rules and fixpoints as plain lists: firing, steady vectors, the least steady one. No word of the model.
-/
namespace Go.Proofs.Ytbgkfiijfocgiaa
set_option linter.unusedSimpArgs false
set_option linter.unusedVariables false

/-- A rule. -/
structure Ru where
  to : Int
  fr : Int
  pl : Int
  mo : Int
deriving DecidableEq, Inhabited
def ruAt (rs : List Ru) (i : Nat) : Ru := rs.getD i ⟨0, 0, 0, 0⟩
theorem ruAt_eq {rs : List Ru} {i : Nat} (h : i < rs.length) : ruAt rs i = rs[i] := by simp [ruAt, h]
theorem ruAt_mem {rs : List Ru} {i : Nat} (h : i < rs.length) : ruAt rs i ∈ rs := by rw [ruAt_eq h]; exact List.getElem_mem h
def okRu (r : Ru) : Bool := inB r.to 0 7 && inB r.fr 0 7 && inB r.pl 0 100 && inB r.mo 0 1000000
def okRs (rs : List Ru) : Bool := decide (rs.length ≤ 20) && rs.all okRu
def told (v : List Int) (rs : List Ru) : Bool := okB v && decide (v.length = 8) && okRs rs
theorem inB_iff {x lo hi : Int} : inB x lo hi = true ↔ lo ≤ x ∧ x ≤ hi := by simp [inB]
theorem okRu_iff {r : Ru} : okRu r = true ↔ (0 ≤ r.to ∧ r.to ≤ 7) ∧ (0 ≤ r.fr ∧ r.fr ≤ 7) ∧ (0 ≤ r.pl ∧ r.pl ≤ 100) ∧ 0 ≤ r.mo ∧ r.mo ≤ 1000000 := by
  simp [okRu, inB_iff, and_assoc]
theorem okRs_mem {rs : List Ru} (h : okRs rs = true) {r : Ru} (hr : r ∈ rs) : okRu r = true := by
  simp only [okRs, Bool.and_eq_true, List.all_eq_true] at h
  exact h.2 r hr
theorem okRs_len {rs : List Ru} (h : okRs rs = true) : rs.length ≤ 20 := by
  simp only [okRs, Bool.and_eq_true, decide_eq_true_eq] at h
  exact h.1
theorem okRs_one (r : Ru) : okRs [r] = okRu r := by simp [okRs]
/-- Eight numbers from 0 to a million. -/
def Ok8 (v : List Int) : Prop := v.length = 8 ∧ ∀ i, i < 8 → 0 ≤ el v i ∧ el v i ≤ 1000000
theorem ok8_of {v : List Int} (h : okB v = true) (h8 : v.length = 8) : Ok8 v := by
  refine ⟨h8, fun i hi => ?_⟩
  simp only [okB, Bool.and_eq_true, List.all_eq_true] at h
  have := h.2 _ (el_mem (xs := v) (i := i) (by omega))
  rwa [inB_iff] at this
theorem Ok8.okB {v : List Int} (h : Ok8 v) : okB v = true := okB_true_of (by have := h.1; omega) (by have := h.1; omega) (fun j hj => by rw [inB_iff]; exact h.2 j (by have := h.1; omega))
theorem told_iff {v : List Int} {rs : List Ru} : told v rs = true ↔ Ok8 v ∧ okRs rs = true := by
  simp only [told, Bool.and_eq_true, decide_eq_true_eq]
  constructor
  · rintro ⟨⟨h1, h2⟩, h3⟩; exact ⟨ok8_of h1 h2, h3⟩
  · rintro ⟨h1, h2⟩; exact ⟨⟨h1.okB, h1.1⟩, h2⟩
theorem el_set {v : List Int} {i j : Nat} {x : Int} (hi : i < v.length) : el (v.set i x) j = if j = i then x else el v j := by
  simp only [el, List.getD_eq_getElem?_getD, List.getElem?_set]
  by_cases h : i = j
  · subst h; simp [hi]
  · rw [if_neg h, if_neg (fun e => h e.symm)]
/-- What a rule asks of a vector. -/
def asks (v : List Int) (r : Ru) : Int := min r.mo (el v r.fr.toNat + r.pl)
def fire (v : List Int) (r : Ru) : List Int := v.set r.to.toNat (max (el v r.to.toNat) (asks v r))
/-- No rule changes it. -/
def Std (v : List Int) (rs : List Ru) : Prop := ∀ r ∈ rs, asks v r ≤ el v r.to.toNat
def stdB (v : List Int) (rs : List Ru) : Bool := told v rs && rs.all (fun r => decide (asks v r ≤ el v r.to.toNat))
theorem std_of {v : List Int} {rs : List Ru} (h : told v rs = true) : stdB v rs = true ↔ Std v rs := by
  simp [stdB, h, Std]
/-- One vector of eight is nowhere above another. -/
def Le8 (v w : List Int) : Prop := ∀ i, i < 8 → el v i ≤ el w i
theorem Le8.refl (v : List Int) : Le8 v v := fun _ _ => Int.le_refl _
theorem Le8.trans {u v w : List Int} (h : Le8 u v) (k : Le8 v w) : Le8 u w := fun i hi => Int.le_trans (h i hi) (k i hi)
theorem Le8.antisymm {v w : List Int} (hv : v.length = 8) (hw : w.length = 8) (h : Le8 v w) (k : Le8 w v) : v = w := by
  refine List.ext_getElem (by omega) (fun i a b => ?_)
  have h1 := h i (by omega)
  have h2 := k i (by omega)
  rw [el_eq a, el_eq b] at h1 h2
  omega
theorem asks_le {r : Ru} (v : List Int) : asks v r ≤ r.mo := Int.min_le_left _ _
theorem asks_mono {v w : List Int} {r : Ru} (hr : okRu r = true) (h : Le8 v w) : asks v r ≤ asks w r := by
  have hk := okRu_iff.1 hr
  have := h r.fr.toNat (by omega)
  unfold asks
  omega
theorem fire_len (v : List Int) (r : Ru) : (fire v r).length = v.length := by simp [fire]
theorem el_fire {v : List Int} {r : Ru} (hv : v.length = 8) (hr : okRu r = true) (j : Nat) : el (fire v r) j = if j = r.to.toNat then max (el v j) (asks v r) else el v j := by
  have hk := okRu_iff.1 hr
  unfold fire
  rw [el_set (by omega)]
  by_cases h : j = r.to.toNat
  · subst h; simp
  · rw [if_neg h, if_neg h]
theorem fire_up {v : List Int} {r : Ru} (hv : v.length = 8) (hr : okRu r = true) : Le8 v (fire v r) := fun i hi => by
  rw [el_fire hv hr]
  split <;> omega
theorem fire_ok {v : List Int} {r : Ru} (hv : Ok8 v) (hr : okRu r = true) : Ok8 (fire v r) := by
  refine ⟨by rw [fire_len]; exact hv.1, fun i hi => ?_⟩
  have h1 := hv.2 i hi
  have h2 := asks_le (r := r) v
  have hk := okRu_iff.1 hr
  rw [el_fire hv.1 hr]
  split <;> omega
theorem fire_mono {v w : List Int} {r : Ru} (hv : v.length = 8) (hw : w.length = 8) (hr : okRu r = true) (h : Le8 v w) : Le8 (fire v r) (fire w r) := fun i hi => by
  have h1 := h i hi
  have h2 := asks_mono hr h
  rw [el_fire hv hr, el_fire hw hr]
  split <;> omega
theorem fire_std {w : List Int} {r : Ru} (hw : w.length = 8) (hr : okRu r = true) (h : asks w r ≤ el w r.to.toNat) : Le8 (fire w r) w := fun i hi => by
  rw [el_fire hw hr]
  by_cases e : i = r.to.toNat
  · subst e; rw [if_pos rfl]; omega
  · rw [if_neg e]; omega
/-- Below every steady vector that is above v. -/
def Low (v : List Int) (rs : List Ru) (x : List Int) : Prop := Ok8 x ∧ Le8 v x ∧ ∀ w, Ok8 w → Le8 v w → Std w rs → Le8 x w
theorem Low.start {v : List Int} (rs : List Ru) (h : Ok8 v) : Low v rs v := ⟨h, Le8.refl _, fun _ _ hw _ => hw⟩
theorem Low.fire {v x : List Int} {rs : List Ru} {r : Ru} (hrs : okRs rs = true) (h : Low v rs x) (hr : r ∈ rs) : Low v rs (fire x r) := by
  have ho := okRs_mem hrs hr
  refine ⟨fire_ok h.1 ho, h.2.1.trans (fire_up h.1.1 ho), fun w hw hvw hs => ?_⟩
  exact (fire_mono h.1.1 hw.1 ho (h.2.2 w hw hvw hs)).trans (fire_std hw.1 ho (hs r hr))
/-- s is the least steady vector above v. -/
def IsSet (v : List Int) (rs : List Ru) (s : List Int) : Prop := Low v rs s ∧ Std s rs
theorem IsSet.unique {v s t : List Int} {rs : List Ru} (h : IsSet v rs s) (k : IsSet v rs t) : s = t :=
  Le8.antisymm h.1.1.1 k.1.1.1 (h.1.2.2 t k.1.1 k.1.2.1 k.2) (k.1.2.2 s h.1.1 h.1.2.1 h.2)
theorem IsSet.self {s : List Int} {rs : List Ru} (hs : Ok8 s) (h : Std s rs) : IsSet s rs s := ⟨Low.start rs hs, h⟩
theorem IsSet.mono {v w s t : List Int} {rs : List Ru} (h : IsSet v rs s) (k : IsSet w rs t) (hl : Le8 v w) : Le8 s t := h.1.2.2 t k.1.1 (hl.trans k.1.2.1) k.2
/-- How far a vector is from the top. -/
def sum8 (v : List Int) : Int := el v 0 + el v 1 + el v 2 + el v 3 + el v 4 + el v 5 + el v 6 + el v 7
def rest8 (v : List Int) : Nat := (8000000 - sum8 v).toNat
theorem sum8_le {v : List Int} (h : Ok8 v) : 0 ≤ sum8 v ∧ sum8 v ≤ 8000000 := by
  have h0 := h.2 0 (by omega); have h1 := h.2 1 (by omega); have h2 := h.2 2 (by omega); have h3 := h.2 3 (by omega)
  have h4 := h.2 4 (by omega); have h5 := h.2 5 (by omega); have h6 := h.2 6 (by omega); have h7 := h.2 7 (by omega)
  unfold sum8
  omega
theorem sum8_lt {v w : List Int} (h : Le8 v w) {i : Nat} (hi : i < 8) (hl : el v i < el w i) : sum8 v < sum8 w := by
  have h0 := h 0 (by omega); have h1 := h 1 (by omega); have h2 := h 2 (by omega); have h3 := h 3 (by omega)
  have h4 := h 4 (by omega); have h5 := h 5 (by omega); have h6 := h 6 (by omega); have h7 := h 7 (by omega)
  unfold sum8
  have : i = 0 ∨ i = 1 ∨ i = 2 ∨ i = 3 ∨ i = 4 ∨ i = 5 ∨ i = 6 ∨ i = 7 := by omega
  rcases this with rfl | rfl | rfl | rfl | rfl | rfl | rfl | rfl <;> omega
theorem rest8_lt {v w : List Int} (hv : Ok8 v) (hw : Ok8 w) (h : Le8 v w) {i : Nat} (hi : i < 8) (hl : el v i < el w i) : rest8 w < rest8 v := by
  have := sum8_lt h hi hl
  have h1 := sum8_le hv
  have h2 := sum8_le hw
  unfold rest8
  omega
/-- All rules fired, one behind the other, from number k on. -/
def fires (v : List Int) (rs : List Ru) : List Int := rs.foldl fire v
theorem fires_snoc (v : List Int) (rs : List Ru) (r : Ru) : fires v (rs ++ [r]) = fire (fires v rs) r := by simp [fires]
theorem fires_take {v : List Int} {rs : List Ru} {k : Nat} (h : k < rs.length) : fires v (rs.take (k + 1)) = fire (fires v (rs.take k)) (ruAt rs k) := by
  rw [List.take_succ_eq_append_getElem h, fires_snoc, ruAt_eq h]
theorem Low.fires {v x : List Int} {rs : List Ru} (hrs : okRs rs = true) (h : Low v rs x) (k : Nat) (hk : k ≤ rs.length) : Low v rs (fires x (rs.take k)) := by
  induction k with
  | zero => simpa [Go.Proofs.Ytbgkfiijfocgiaa.fires] using h
  | succ k ih =>
    rw [fires_take (by omega)]
    exact (ih (by omega)).fire hrs (ruAt_mem (by omega))
theorem fires_up {x : List Int} {rs : List Ru} (hrs : okRs rs = true) (hx : Ok8 x) : ∀ (k : Nat), k ≤ rs.length → Ok8 (fires x (rs.take k)) ∧ Le8 x (fires x (rs.take k)) := by
  intro k
  induction k with
  | zero => intro _; exact ⟨by simpa [fires] using hx, by simpa [fires] using Le8.refl x⟩
  | succ k ih =>
    intro hk
    obtain ⟨h1, h2⟩ := ih (by omega)
    have ho := okRs_mem hrs (ruAt_mem (rs := rs) (i := k) (by omega))
    rw [fires_take (by omega)]
    exact ⟨fire_ok h1 ho, h2.trans (fire_up h1.1 ho)⟩
theorem fires_rest {x : List Int} {rs : List Ru} (hrs : okRs rs = true) (hx : Ok8 x) (hn : ¬ Std x rs) : rest8 (fires x rs) < rest8 x := by
  have : ∃ r ∈ rs, ¬ asks x r ≤ el x r.to.toNat := by
    refine Classical.byContradiction fun h => hn fun r hr => Classical.byContradiction fun h2 => h ⟨r, hr, h2⟩
  obtain ⟨r, hr, hlt⟩ := this
  obtain ⟨k, hk, rfl⟩ := List.getElem_of_mem hr
  have ho := okRs_mem hrs hr
  have hk' := okRu_iff.1 ho
  obtain ⟨h1, h2⟩ := fires_up hrs hx k (by omega)
  have h3 : Le8 (fires x (rs.take (k + 1))) (fires x rs) := by
    have e : fires x rs = fires (fires x (rs.take (k + 1))) (rs.drop (k + 1)) := by
      unfold fires
      rw [← List.foldl_append, List.take_append_drop]
    have hd : okRs (rs.drop (k + 1)) = true := by
      simp only [okRs, Bool.and_eq_true, decide_eq_true_eq, List.all_eq_true] at hrs ⊢
      exact ⟨by rw [List.length_drop]; omega, fun y hy => hrs.2 y (List.mem_of_mem_drop hy)⟩
    rw [e]
    have := (fires_up hd (fires_up hrs hx (k + 1) (by omega)).1 (rs.drop (k + 1)).length (Nat.le_refl _)).2
    rwa [List.take_length] at this
  have hall := fires_up hrs hx rs.length (Nat.le_refl _)
  rw [List.take_length] at hall
  have h4 := h3 (rs[k]).to.toNat (by omega)
  rw [fires_take hk, ruAt_eq hk, el_fire h1.1 ho, if_pos rfl] at h4
  have h5 := asks_mono ho h2
  exact rest8_lt hx hall.1 hall.2 (i := (rs[k]).to.toNat) (by omega) (by omega)
theorem Low.done {v x : List Int} {rs : List Ru} (h : Low v rs x) (hs : Std x rs) : IsSet v rs x := ⟨h, hs⟩
end Go.Proofs.Ytbgkfiijfocgiaa

/-
  Slices of numbers in memory of one's own: empty ones, a store into one, what an append leaves, an answer that is one.
-/
namespace Go.Proofs.Ytbgkfiijfocgiaa
set_option linter.unusedSimpArgs false
set_option linter.unusedVariables false
open Go.RowKit Go.Sort

theorem num_set {w : World} {g off n cap : Nat} {zs : List Int} (h : OI w g off n cap zs) {i : Nat} (hi : i < n) (y : Int) : OI (w.setCell ⟨g, off + i, none⟩ (.int .i64 y)) g off n cap (zs.set i y) := by
  have hl := h.length
  have hc := h.cellAt hi
  refine ⟨by simp [hl], h.le, h.max, by simp [World.setCell]; exact h.blk, fun j hj => ?_, fun j hj => ?_, fun j hj => by rw [World.frozen?_setCell]; exact h.free j hj⟩
  · by_cases e : i = j
    · subst e
      rw [World.cell?_setCell_same _ _ _ hc]
      simp [show i < zs.length by omega]
    · rw [World.cell?_setCell_other _ _ _ _ (by simp [e]), h.cell j hj]
      simp [e]
  · by_cases e : i = j
    · subst e; rw [World.cell?_setCell_same _ _ _ hc]; rfl
    · rw [World.cell?_setCell_other _ _ _ _ (by simp [e])]; exact h.some j hj
theorem num_empty (w : World) (T : TypeId) : OI (w.alloc (.cells #[] T)) w.heap.size 0 0 0 [] :=
  ⟨rfl, Nat.le_refl _, Nat.zero_le _, by simp, fun i hi => by omega, fun i hi => by omega, fun i hi => by omega⟩
theorem num_news {w : World} {b off : Nat} {xs : List Int} (h : ∀ i, i < xs.length → w.cell? ⟨b, off + i, none⟩ = some (.int .i64 (el xs i))) (j : Nat) (u : Value) (hu : (xs.map (Value.int .i64))[j]? = some u) : w.cell? ((⟨b, off, none⟩ : Addr).add j) = some u := by
  have hj : j < xs.length := by
    have := (List.getElem?_eq_some_iff.1 hu).1
    simpa using this
  rw [add_lit0, h j hj]
  simp only [List.getElem?_map, List.getElem?_eq_getElem hj, Option.map_some, Option.some.injEq] at hu
  rw [el_eq hj, ← hu]
theorem below_grown6 {B g : Nat} {w w1 w2 : World} (h : Below B w w1) (hg : w1.grownBy w2 (some g)) (hB : B ≤ g) (hs : B ≤ w1.heap.size) : Below B w w2 :=
  ⟨hg.os.trans h.os, hg.tape.trans h.tape, hg.output.trans h.output, Nat.le_trans h.size hg.size, fun k hk => (hg.block k (by omega) (by simp; omega)).trans (h.block k hk)⟩
/-- What an answer that is a slice of numbers comes to. -/
def AnsN (w w' : World) (e : Ending) (Z : List Int) : Prop := ∃ g off c, e = .returned (.slice (some ⟨g, off, none⟩) Z.length c) ∧ w.heap.size ≤ g ∧ OI w' g off Z.length c Z ∧ Below w.heap.size w w'
theorem Try.info2n : (Try.prog.info? 2).map (fun i => (i.zero, i.size, i.bytes)) = some (some (.int .i64 0), 1, 8) := by kernel_rfl
theorem info_parts2n {T s b : Nat} {z : Value} (h : (Try.prog.info? T).map (fun i => (i.zero, i.size, i.bytes)) = some (some z, s, b)) : ∃ i, Try.prog.info? T = some i ∧ i.zero = some z ∧ i.size = s ∧ i.bytes = b := by
  obtain ⟨i, hi, hh⟩ := Option.map_eq_some_iff.1 h
  simp only [Prod.mk.injEq] at hh
  exact ⟨i, hi, hh.1, hh.2.1, hh.2.2⟩
theorem num_touch {w w' : World} {g g' off n cap : Nat} {zs : List Int} (h : OI w g off n cap zs) (ht : Touch g' w w') (hne : g ≠ g') : OI w' g off n cap zs :=
  OSl.of_block h (ht.block g hne) (by rw [ht.size]; exact h.blk)

set_option maxHeartbeats 400000 in
theorem markN_any (g off cap k0 n : Nat) (q : Int) (zs : List Int) (w : World) (ho : OI w g off n cap zs) (hq : q = (k0 : Int)) (hk : k0 ≤ 10000000) (hn : n ≤ 10000000) :
    Calls Try.prog 46 #[.slice (some ⟨g, off, none⟩) n cap, .int .i64 q] w fun e w' => e = .returned (.int .i64 (q + (n : Int))) ∧ OI w' g off n cap (marks n k0) ∧ Touch g w w' := by
  subst hq
  have hzl := ho.length
  subst hzl
  go_enter Try.func46, Try.ntmps46
  go_wp2
  go_loopw [1, 5] (fun q i wr => ∃ j : Nat, j ≤ zs.length ∧ i = .int .i64 j ∧ q = .int .i64 ((k0 + j : Nat) : Int) ∧ OI wr g off zs.length cap (mk zs k0 j) ∧ Touch g w wr) (fun _ i _ => zs.length - (intOf i).toNat)
  case atStart => exact ⟨0, Nat.zero_le _, rfl, rfl, by rw [mk_zero]; exact ho, Touch.refl _ _⟩
  case round =>
    obtain ⟨j, hj, rfl, rfl, hown, ht⟩ := hrel
    have HO : Hid (OI wr g off zs.length cap (mk zs k0 j)) := hown
    have HT : Hid (Touch g w wr) := ht
    clear hown ht ho
    by_cases hlt : j < zs.length
    · have hc := HO.out.cellAt hlt
      have hf := HO.out.free j (by have := HO.out.le; omega)
      have hi1 : (j : Int) < (zs.length : Int) := by omega
      go_wp2
      go_roundw
      case rel => exact ⟨j + 1, by omega, by go_num, by go_num, by rw [← mk_step]; exact num_set HO.out hlt _, HT.out.set _ _⟩
      case measure => simp [intOf]; omega
    · have hjl : j = zs.length := by omega
      subst hjl
      go_wp2
      go_ret
      exact ⟨ret_int (by omega), by rw [← mk_done]; exact HO.out, HT.out⟩

set_option maxHeartbeats 400000 in
theorem heldN_any (g off cap k0 n : Nat) (q : Int) (w : World) (ho : OI w g off n cap (marks n k0)) (hq : q = (k0 : Int)) (hk : k0 ≤ 10000000) (hn : n ≤ 10000000) :
    Calls Try.prog 47 #[.slice (some ⟨g, off, none⟩) n cap, .int .i64 q] w fun e w' => e = .returned (.int .i64 (q + (n : Int))) ∧ w' = w := by
  subst hq
  go_enter Try.func47, Try.ntmps47
  go_wp2
  go_loop [1, 5] (fun q i => ∃ j : Nat, j ≤ n ∧ i = .int .i64 j ∧ q = .int .i64 ((k0 + j : Nat) : Int)) (fun _ i => n - (intOf i).toNat)
  case atStart => exact ⟨0, Nat.zero_le _, rfl, rfl⟩
  case round =>
    obtain ⟨j, hj, rfl, rfl⟩ := hrel
    by_cases hlt : j < n
    · have hc := ho.cellAt hlt
      rw [marks_el hlt] at hc
      have hi1 : (j : Int) < (n : Int) := by omega
      go_wp2
      go_round
      case rel => exact ⟨j + 1, by omega, by go_num, by go_num⟩
      case measure => simp [intOf]; omega
    · have hjl : j = n := by omega
      subst hjl
      go_wp2
      go_ret
      exact ⟨ret_int (by omega), rfl⟩
end Go.Proofs.Ytbgkfiijfocgiaa

/-
  A region that draws its order, whose last operations (a store, say) come up in one order alone and whose others only read or call what only reads or lays blocks of its own: one walk in the order of the text serves every order.
-/
namespace Go.Proofs.Ytbgkfiijfocgiaa
set_option linter.unusedSimpArgs false
set_option linter.unusedVariables false
open Go.RowKit Go.Sort

section
variable {P : Program} {ops : Array Oper} {md : Region.Mode} {C : World → Prop}
/-- The head of the region in whatever order, each operation quiet in the class; L: what holds where the head is done. -/
def HeadQ (P : Program) (md : Region.Mode) (ops : Array Oper) (C : World → Prop) (n : Nat) (L : Array Bool → Act → Prop) : Nat → Array Bool → Act → Prop
  | 0, listed, a => L listed a
  | f + 1, listed, a => Region.ready md ops listed ≠ [] ∧ ∀ i ∈ Region.ready md ops listed, i < n ∧ qOp P ops C i (HeadQ P md ops C n L f (listed.setIfInBounds i true)) a
theorem any_of_headQ {n g : Nat} {L : Array Bool → Act → Prop} {Q : Exit → Act → World → Prop} (hL : ∀ listed a w, C w → L listed a → wpAny P md ops Q g listed a w) (f : Nat) :
    ∀ (listed : Array Bool) (a : Act) (w : World), C w → HeadQ P md ops C n L f listed a → wpAny P md ops Q (f + g) listed a w := by
  induction f with
  | zero => intro listed a w hw h; rw [Nat.zero_add]; exact hL _ _ _ hw h
  | succ f ih =>
    intro listed a w hw h
    rw [show f + 1 + g = (f + g) + 1 by omega]
    exact ⟨fun h0 => absurd h0 h.1, fun i hi => wpOp_of_qOp hw (fun a' w' hw' h' => ih _ a' w' hw' h') (h.2 i hi).2⟩
theorem headQ_first {n i : Nat} {oi : Oper} {v : Value} {L : Array Bool → Act → Prop} (hi : ops[i]? = some oi) (hsel : ∀ (j : Nat) (o : Oper) cs b, ops[j]? = some o → o.op ≠ .select cs b)
    (hs : Region.sinkB md ops n = true) (hc : Region.chainB md ops n = true) (hn : n < ops.size) (hin : i < n) (hdone : ∀ listed a, L listed a → ∀ j ∈ Region.ready md ops listed, n ≤ j) (f : Nat) :
    ∀ (listed : Array Bool) (a : Act), HeadInv md ops n listed →
      (∀ j oj, ops[j]? = some oj → j ≠ i → listed.getD j true = false → (∀ e ∈ oj.after, Region.binds md e = true → e.on ≠ i) → oi.apart ops oj = true) →
      i ∈ Region.ready md ops listed → YieldsIn P ops C oi v a →
      HeadQ P md ops C n L f (listed.setIfInBounds i true) (a.put oi.dst v) → HeadQ P md ops C n L (f + 1) listed a := by
  induction f with
  | zero =>
    intro listed a inv _ hr hy H
    have hun := (mem_ready.1 hr).1
    refine ⟨fun h => (by rw [h] at hr; cases hr), fun j hj => ?_⟩
    have hjn : j < n := Nat.lt_of_not_le fun h => absurd hj (tail_waits hs hc hn inv _ i rfl hin hun j h)
    refine ⟨hjn, ?_⟩
    by_cases hji : j = i
    · subst hji; exact hy.qOp hi H
    · have := hdone _ _ H j (ready_mono hj hji)
      omega
  | succ f ih =>
    intro listed a inv hfree hr hy H
    have hun := (mem_ready.1 hr).1
    refine ⟨fun h => (by rw [h] at hr; cases hr), fun j hj => ?_⟩
    have hjn : j < n := Nat.lt_of_not_le fun h => absurd hj (tail_waits hs hc hn inv _ i rfl hin hun j h)
    refine ⟨hjn, ?_⟩
    by_cases hji : j = i
    · subst hji; exact hy.qOp hi H
    · have h1 := (H.2 j (ready_mono hj hji)).2
      obtain ⟨hjun, oj, hoj, hall⟩ := mem_ready.1 hj
      have hnot : ∀ e ∈ oj.after, Region.binds md e = true → e.on ≠ i := fun e he hb heq => by
        have h3 := hall e he hb
        rw [heq, getD_both hun] at h3
        cases h3
      have h2 := qOp_put hoj (hfree j oj hoj hji hjun hnot) (fun cs b => hsel i oi cs b hi) (fun cs b => hsel j oj cs b hoj) hy h1
      refine qOp_mono (fun a' h3 => ih (listed.setIfInBounds j true) a' (inv.set hj hjn) (fun k ok hk hki hu hno => hfree k ok hk hki ?_ hno) (ready_mono hr (Ne.symm hji)) h3.1 ?_) h2
      · by_cases hjk : j = k
        · subst hjk; exact hjun
        · rw [getD_set_ne true hjk] at hu; exact hu
      · rw [Array.setIfInBounds_comm _ _ hji]
        exact h3.2
theorem headQ_lex {n g : Nat} {Lq : Act → Prop} (hsel : Region.noSelect ops = true) (hs : Region.sinkB md ops n = true) (hc : Region.chainB md ops n = true) (hn : n < ops.size) :
    ∀ (l : List Oper) (k : Nat) (listed : Array Bool) (a : Act), (∀ j, j < l.length → l[j]? = ops[k + j]?) → k + l.length = n → HeadInv md ops n listed →
    Region.lexHead md ops g l.length k listed = true → wpQuiet P ops C Lq l a → HeadQ P md ops C n (fun listed' a' => Region.seqB md ops g n listed' = true ∧ Lq a') l.length listed a
  | [], k, listed, a, _, hk, _, hB, h => by
    have : k = n := by simpa using hk
    subst this
    exact ⟨by simpa [Region.lexHead] using hB, h⟩
  | o :: l, k, listed, a, hl, hk, inv, hB, h => by
    have h0 : ops[k]? = some o := by simpa using (hl 0 (by simp)).symm
    simp only [List.length_cons, Region.lexHead, Bool.and_eq_true] at hB
    obtain ⟨⟨hr, hf⟩, hB'⟩ := hB
    have hkn : k < n := by simp only [List.length_cons] at hk; omega
    have hr' : k ∈ Region.ready md ops listed := by simpa using hr
    have hst : qOp P ops C k (wpQuiet P ops C Lq l) a := by unfold qOp; simp only [h0]; exact h
    obtain ⟨v, hy, hK⟩ := yieldsIn_of_qOp h0 hst
    exact headQ_first h0 (Region.noSelect_spec hsel) hs hc hn hkn (fun listed' a' hL => seqB_ready hL.1) l.length listed a inv (Region.free_spec h0 hf) hr' hy
      (headQ_lex hsel hs hc hn l (k + 1) _ _ (fun j hj => by have := hl (j + 1) (by simp; omega); simpa [Nat.add_assoc, Nat.add_comm 1 j] using this) (by simp only [List.length_cons] at hk; omega) (inv.set hr' hkn) hB' hK)
end
/-- The law: the first n operations quiet in the class, the rest in their order. -/
theorem wp_region_quiet_tail {P : Program} {C : World → Prop} {id : Nat} {Q : Exit → Act → World → Prop} {a : Act} {w : World} {l : List Oper} (n : Nat) (hm : P.follows .mixedOrders = true) (hB : Region.lexTailB .any l.toArray n = true) (hC : C (w.drewN 1))
    (h : wpQuiet P l.toArray C (fun a' => ∀ w', C w' → wpList P l.toArray Q (l.drop n) a' w') (l.take n) a) : (Code.region id l.toArray true).wp P Q a w := by
  simp only [Region.lexTailB, Bool.and_eq_true, decide_eq_true_eq] at hB
  obtain ⟨⟨⟨⟨hsel, hn⟩, hs⟩, hc⟩, hlex⟩ := hB
  have htl : (l.take n).length = n := by have : n < l.length := by simpa using hn
                                         simp; omega
  have hdl : (l.drop n).length = l.toArray.size - n := by simp
  have inv0 : HeadInv .any l.toArray n (Array.replicate l.toArray.size false) :=
    ⟨by simp, fun j oj _ hl => (by rw [getD_replicate_false] at hl; cases hl), fun t _ ht => getD_in (by simpa using ht) (getD_replicate_false _ _)⟩
  have H := headQ_lex (md := .any) (g := l.toArray.size - n) hsel hs hc hn (l.take n) 0 _ a (fun j hj => by
    have hj' : j < n := by rw [htl] at hj; exact hj
    simp [hj']) (by simpa using htl) inv0 (by rw [htl]; exact hlex) h
  refine wp_region_any hm ?_
  have := any_of_headQ (C := C) (Q := Q) (g := l.toArray.size - n) (fun listed a' w' hw' hL => by
    have := wpAny_of_seq (md := .any) (Q' := Q) (l.drop n) n listed a' w' (fun j => by simp [List.getElem?_drop]) (by rw [hdl]; exact hL.1) (hL.2 w' hw')
    rwa [hdl] at this) _ _ _ (w.drewN 1) hC H
  rw [htl, show n + (l.toArray.size - n) = l.toArray.size by have : n < l.toArray.size := hn; omega] at this
  exact this
end Go.Proofs.Ytbgkfiijfocgiaa
