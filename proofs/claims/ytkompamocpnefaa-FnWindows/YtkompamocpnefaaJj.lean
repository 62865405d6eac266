/-
  Several texts in one: Wim Wio.
-/
import Derived.Test.YtkompamocpnefaaIk
import Derived.Shelf.SlSortCmp.QuietGrown
/-
  The program's windows: bounds, and what a window asks of them.
-/
namespace Go.Proofs.Ytkompamocpnefaa
set_option linter.unusedVariables false
set_option linter.unusedSimpArgs false
open Go.RowKit Go.Sort

/-- Bounds as a value. -/
def boV (sz st : Int) : Value := .agg #[.int .i64 sz, .int .i64 st]

set_option maxHeartbeats 400000 in
theorem isW8_any (n last : Int) (w : World) : Calls Try.prog 81 #[.int .i64 n, .int .i64 last] w fun e w' => e = .returned (.bool (inB n 0 last)) ∧ w' = w := by
  by_cases h0 : (0 : Int) ≤ n
  · have H : Hid (inB n 0 last = decide (n ≤ last)) := by rw [Hid, inB]; simp [h0]
    go_enter Try.func81, Try.ntmps81
    go_wp2
    go_ret
    exact ⟨ret_bool (by rw [H.out]), rfl⟩
  · have H : Hid (inB n 0 last = false) := by rw [Hid, inB]; simp [h0]
    go_enter Try.func81, Try.ntmps81
    go_wp2
    go_ret
    exact ⟨ret_bool (by rw [H.out]), rfl⟩

set_option maxHeartbeats 800000 in
theorem inRange_any (sz st : Int) (w : World) : Calls Try.prog 83 #[boV sz st] w fun e w' => e = .returned (.bool (inB sz 1 20 && inB st 0 1000000)) ∧ Grew w w' := by
  have HG : Hid (Grew w (w.alloc (.cells #[.int .i64 sz, .int .i64 st] 65))) := (Grew.refl _).alloc _
  have c0 : (w.alloc (.cells #[.int .i64 sz, .int .i64 st] 65)).cell? ⟨w.heap.size, 0, none⟩ = some (.int .i64 sz) := by simp
  have c1 : (w.alloc (.cells #[.int .i64 sz, .int .i64 st] 65)).cell? ⟨w.heap.size, 1, none⟩ = some (.int .i64 st) := by simp
  unfold boV
  by_cases h0 : (1 : Int) ≤ sz
  · by_cases h1 : sz ≤ 20
    · have H : Hid ((inB sz 1 20 && inB st 0 1000000) = inB st 0 1000000) := by rw [Hid, show inB sz 1 20 = true from by simp [inB, h0, h1]]; rfl
      generalize hW : w.alloc (.cells #[.int .i64 sz, .int .i64 st] 65) = W at *
      go_enter Try.func83, Try.ntmps83
      go_wp2_with (go_at_call 81; refine (isW8_any _ _ _).mono ?_; rintro e w' ⟨rfl, rfl⟩)
      go_ret
      exact ⟨ret_bool (by rw [H.out]), HG.out⟩
    · have H : Hid ((inB sz 1 20 && inB st 0 1000000) = false) := by rw [Hid, show inB sz 1 20 = false from by simp [inB, h1]]; rfl
      generalize hW : w.alloc (.cells #[.int .i64 sz, .int .i64 st] 65) = W at *
      go_enter Try.func83, Try.ntmps83
      go_wp2
      go_ret
      exact ⟨ret_bool (by rw [H.out]), HG.out⟩
  · have H : Hid ((inB sz 1 20 && inB st 0 1000000) = false) := by rw [Hid, show inB sz 1 20 = false from by simp [inB, h0]]; rfl
    generalize hW : w.alloc (.cells #[.int .i64 sz, .int .i64 st] 65) = W at *
    go_enter Try.func83, Try.ntmps83
    go_wp2
    go_ret
    exact ⟨ret_bool (by rw [H.out]), HG.out⟩

/-- Does it hold that number? -/
def hldB (sz st n : Int) : Bool := decide (st - sz ≤ n) && decide (n ≤ st)
set_option maxHeartbeats 800000 in
theorem holds_any (sz st n : Int) (hz : 1 ≤ sz ∧ sz ≤ 20) (ht : 0 ≤ st ∧ st ≤ 1000000) (w : World) : Calls Try.prog 82 #[boV sz st, .int .i64 n] w fun e w' => e = .returned (.bool (hldB sz st n)) ∧ Grew w w' := by
  have HG : Hid (Grew w (w.alloc (.cells #[.int .i64 sz, .int .i64 st] 65))) := (Grew.refl _).alloc _
  have c0 : (w.alloc (.cells #[.int .i64 sz, .int .i64 st] 65)).cell? ⟨w.heap.size, 0, none⟩ = some (.int .i64 sz) := by simp
  have c1 : (w.alloc (.cells #[.int .i64 sz, .int .i64 st] 65)).cell? ⟨w.heap.size, 1, none⟩ = some (.int .i64 st) := by simp
  unfold boV
  generalize hW : w.alloc (.cells #[.int .i64 sz, .int .i64 st] 65) = W at *
  by_cases h0 : st - sz ≤ n
  · have H : Hid (hldB sz st n = decide (n ≤ st)) := by rw [Hid, hldB, decide_eq_true h0]; rfl
    go_enter Try.func82, Try.ntmps82
    go_wp2
    go_ret
    exact ⟨ret_bool (by rw [H.out]), HG.out⟩
  · have H : Hid (hldB sz st n = false) := by rw [Hid, hldB, decide_eq_false h0]; rfl
    go_enter Try.func82, Try.ntmps82
    go_wp2
    go_ret
    exact ⟨ret_bool (by rw [H.out]), HG.out⟩

set_option maxHeartbeats 800000 in
theorem room_any (sz st L : Int) (ht : 0 ≤ st ∧ st ≤ 1000000) (hL : -1 ≤ L ∧ L ≤ 1000000) (w : World) : Calls Try.prog 80 #[boV sz st, .int .i64 L] w fun e w' => e = .returned (.bool (decide (st - L < sz) && decide (st < 1000000))) ∧ Grew w w' := by
  have HG : Hid (Grew w (w.alloc (.cells #[.int .i64 sz, .int .i64 st] 65))) := (Grew.refl _).alloc _
  have c0 : (w.alloc (.cells #[.int .i64 sz, .int .i64 st] 65)).cell? ⟨w.heap.size, 0, none⟩ = some (.int .i64 sz) := by simp
  have c1 : (w.alloc (.cells #[.int .i64 sz, .int .i64 st] 65)).cell? ⟨w.heap.size, 1, none⟩ = some (.int .i64 st) := by simp
  unfold boV
  generalize hW : w.alloc (.cells #[.int .i64 sz, .int .i64 st] 65) = W at *
  by_cases h0 : st - L < sz
  · have H : Hid ((decide (st - L < sz) && decide (st < 1000000)) = decide (st < 1000000)) := by rw [Hid, decide_eq_true h0]; rfl
    go_enter Try.func80, Try.ntmps80
    go_wp2
    go_ret
    exact ⟨ret_bool (by rw [H.out]), HG.out⟩
  · have H : Hid ((decide (st - L < sz) && decide (st < 1000000)) = false) := by rw [Hid, decide_eq_false h0]; rfl
    go_enter Try.func80, Try.ntmps80
    go_wp2
    go_ret
    exact ⟨ret_bool (by rw [H.out]), HG.out⟩

/-- An inner window as a value. -/
def iwV (sz st : Int) (a : Option Addr) (len cap : Nat) : Value := .agg #[.int .i64 sz, .int .i64 st, .slice a len cap]
set_option maxHeartbeats 800000 in
theorem told_any (sz st : Int) (a : Option Addr) (len cap : Nat) (w : World) : Calls Try.prog 65 #[iwV sz st a len cap] w fun e w' => e = .returned (wiV sz st a len cap) ∧ Grew w w' := by
  unfold iwV wiV
  go_enter Try.func65, Try.ntmps65
  go_wp2
  refine bodyPost_ret (v := .agg #[.int .i64 sz, .int .i64 st, .slice a len cap]) (by simp [results, Try.results65, go_sem]) rfl ⟨rfl, ((Grew.refl _).alloc _).alloc _⟩
end Go.Proofs.Ytkompamocpnefaa

/-
  The program's windows: is one right, is one open, what grows, and how one is told.
-/
namespace Go.Proofs.Ytkompamocpnefaa
set_option linter.unusedVariables false
set_option linter.unusedSimpArgs false
open Go.RowKit Go.Sort

theorem loL_le_hd : ∀ (l : List Int) (x : Int), loL x l ≤ x := by
  intro l; induction l with
  | nil => intro x; simp [loL]
  | cons y l ih => intro x; have := ih (min x y); unfold loL at this ⊢; simp only [List.foldl_cons]; omega
theorem hiL_ge_hd : ∀ (l : List Int) (x : Int), x ≤ hiL x l := by
  intro l; induction l with
  | nil => intro x; simp [hiL]
  | cons y l ih => intro x; have := ih (max x y); unfold hiL at this ⊢; simp only [List.foldl_cons]; omega
theorem hiL_le8 {m : Int} : ∀ (l : List Int) (x : Int), hiL x l ≤ m ↔ x ≤ m ∧ ∀ y ∈ l, y ≤ m := by
  intro l; induction l with
  | nil => intro x; simp [hiL]
  | cons y l ih =>
    intro x
    show hiL (max x y) l ≤ m ↔ _
    rw [ih]
    simp only [List.mem_cons]
    constructor
    · rintro ⟨h1, h2⟩
      exact ⟨by omega, fun z hz => by rcases hz with rfl | hz; omega; exact h2 z hz⟩
    · rintro ⟨h1, h2⟩
      exact ⟨by have := h2 y (Or.inl rfl); omega, fun z hz => h2 z (Or.inr hz)⟩
/-- The least and the greatest number. -/
def loX (xs : List Int) : Int := loL (el xs 0) xs.tail
def hiX (xs : List Int) : Int := hiL (el xs 0) xs.tail
theorem lo_le_hi (xs : List Int) : loX xs ≤ hiX xs := Int.le_trans (loL_le_hd _ _) (hiL_ge_hd _ _)
theorem leastB_lo {xs : List Int} (h : okB xs = true) : leastB xs = loX xs := by rw [leastB, if_pos h]; rfl
theorem hiX_le {xs : List Int} {m : Int} (h1 : 1 ≤ xs.length) : hiX xs ≤ m ↔ ∀ i, i < xs.length → el xs i ≤ m := by
  cases xs with
  | nil => simp at h1
  | cons x l =>
    rw [hiX, hiL_le8]
    have e0 : el (x :: l) 0 = x := by simp [el]
    rw [e0]
    simp only [List.tail_cons]
    constructor
    · rintro ⟨a, b⟩ i hi
      have := el_mem hi
      rcases List.mem_cons.1 this with h | h
      · omega
      · exact b _ h
    · intro h
      refine ⟨by have := h 0 (by simp); rwa [e0] at this, fun y hy => ?_⟩
      obtain ⟨i, hi, rfl⟩ := List.getElem_of_mem hy
      have := h (i + 1) (by simp; omega)
      rw [el_eq (by simp; omega)] at this
      simpa using this
theorem wokB_ends {sz st : Int} {xs : List Int} : wokB sz st xs = (inB sz 1 20 && inB st 0 1000000 && okB xs && hldB sz st (loX xs) && hldB sz st (hiX xs)) := by
  rw [Bool.eq_iff_iff, wokB_iff]
  have e1 : inB sz 1 20 = true ↔ 1 ≤ sz ∧ sz ≤ 20 := by simp [inB]
  have e2 : inB st 0 1000000 = true ↔ 0 ≤ st ∧ st ≤ 1000000 := by simp [inB]
  have e3 : ∀ n, hldB sz st n = true ↔ st - sz ≤ n ∧ n ≤ st := fun n => by simp [hldB]
  have hl := lo_le_hi xs
  rw [Bool.and_eq_true, Bool.and_eq_true, Bool.and_eq_true, Bool.and_eq_true, e1, e2, e3, e3]
  constructor
  · rintro ⟨a, b, c, d, f⟩
    have h1 := (hiX_le (okB_len c).1).2 d
    rw [leastB_lo c] at f
    exact ⟨⟨⟨⟨a, b⟩, c⟩, by omega⟩, by omega⟩
  · rintro ⟨⟨⟨⟨a, b⟩, c⟩, d⟩, f⟩
    refine ⟨a, b, c, (hiX_le (okB_len c).1).1 f.2, ?_⟩
    rw [leastB_lo c]
    exact d.1

/-- The contracts of a vector's own methods, of a world that has only grown. -/
theorem vokG {W : World} {a : Option Addr} {len cap : Nat} {xs : List Int} (hv : Vec W a len xs) (hc : len ≤ cap) (hm : cap ≤ maxLen) : ∀ X, Grew W X → Calls Try.prog 59 #[.slice a len cap] X fun e w' => e = .returned (.bool (okB xs)) ∧ Grew X w' := fun X hX =>
  (vok_any a len cap xs X (hv.below hX.1 (Nat.le_refl _)) hc hm).mono (fun e w' ⟨he, n, hw⟩ => ⟨he, hw ▸ (Grew.refl _).drewN n⟩)
theorem vloG {W : World} {a : Option Addr} {len cap : Nat} {xs : List Int} (hv : Vec W a len xs) (h1 : 1 ≤ len) (hc : len ≤ cap) (hm : cap ≤ maxLen) : ∀ X, Grew W X → Calls Try.prog 58 #[.slice a len cap] X fun e w' => e = .returned (.int .i64 (loX xs)) ∧ Grew X w' := fun X hX => by
  have hvX := hv.below hX.1 (Nat.le_refl _)
  obtain ⟨b, off, rfl, hcs⟩ := hvX.cells h1
  exact (vleast_any b off len cap xs X hv.1 hv.2.1 hcs h1 hc hm).mono (fun e w' ⟨he, n, hw⟩ => ⟨he, hw ▸ (Grew.refl _).drewN n⟩)
theorem vhiG {W : World} {a : Option Addr} {len cap : Nat} {xs : List Int} (hv : Vec W a len xs) (h1 : 1 ≤ len) (hc : len ≤ cap) (hm : cap ≤ maxLen) : ∀ X, Grew W X → Calls Try.prog 77 #[.slice a len cap] X fun e w' => e = .returned (.int .i64 (hiX xs)) ∧ Grew X w' := fun X hX => by
  have hvX := hv.below hX.1 (Nat.le_refl _)
  obtain ⟨b, off, rfl, hcs⟩ := hvX.cells h1
  exact (vgreatest_any b off len cap xs X hv.1 hv.2.1 hcs h1 hc hm).mono (fun e w' ⟨he, n, hw⟩ => ⟨he, hw ▸ (Grew.refl _).drewN n⟩)

set_option maxRecDepth 100000 in
set_option maxHeartbeats 1600000 in
theorem okW_any (sz st : Int) (a : Option Addr) (len cap : Nat) (xs : List Int) (w : World) (hv : Vec w a len xs) (hc : len ≤ cap) (hm : cap ≤ maxLen) :
    Calls Try.prog 78 #[iwV sz st a len cap] w fun e w' => e = .returned (.bool (wokB sz st xs)) ∧ Grew w w' := by
  have HG : Hid (Grew w (w.alloc (.cells #[.int .i64 sz, .int .i64 st, .slice a len cap] 67))) := (Grew.refl _).alloc _
  have hvW := hv.below HG.out.1 (Nat.le_refl _)
  have c0 : (w.alloc (.cells #[.int .i64 sz, .int .i64 st, .slice a len cap] 67)).cell? ⟨w.heap.size, 0, none⟩ = some (.int .i64 sz) := by simp
  have c1 : (w.alloc (.cells #[.int .i64 sz, .int .i64 st, .slice a len cap] 67)).cell? ⟨w.heap.size, 1, none⟩ = some (.int .i64 st) := by simp
  have c2 : (w.alloc (.cells #[.int .i64 sz, .int .i64 st, .slice a len cap] 67)).cell? ⟨w.heap.size, 2, none⟩ = some (.slice a len cap) := by simp
  generalize hW : w.alloc (.cells #[.int .i64 sz, .int .i64 st, .slice a len cap] 67) = W at *
  have p0 := cell_grown (World.block_lt_of_cell? _ _ c0) c0
  have p1 := cell_grown (World.block_lt_of_cell? _ _ c1) c1
  have p2 := cell_grown (World.block_lt_of_cell? _ _ c2) c2
  have hR := inRange_any sz st
  have hK := vokG hvW hc hm
  have hmix := mixedW
  have HE : Hid (wokB sz st xs = (inB sz 1 20 && inB st 0 1000000 && okB xs && hldB sz st (loX xs) && hldB sz st (hiX xs))) := wokB_ends
  unfold iwV
  unfold boV at hR
  clear hv
  cases e0 : (inB sz 1 20 && inB st 0 1000000) with
  | false =>
    have HZ : Hid (wokB sz st xs = false) := by rw [Hid, HE.out, e0]; rfl
    rw [e0] at hR
    clear e0 HE hvW hK c0 c1 c2
    go_enter Try.func78, Try.ntmps78
    go_wp2_with fail
    go_quiet_grown (first | (go_at_call 83; exact grown_at (hR _)))
    go_wp2
    go_ret
    exact ⟨ret_bool (by rw [HZ.out]), HG.out.trans (Grew.of_grow _ _ _)⟩
  | true =>
    have hzt : (1 ≤ sz ∧ sz ≤ 20) ∧ 0 ≤ st ∧ st ≤ 1000000 := by simpa [inB] using e0
    rw [e0] at hR
    cases e1 : okB xs with
    | false =>
      have HZ : Hid (wokB sz st xs = false) := by rw [Hid, HE.out, e0, e1]; rfl
      rw [e1] at hK
      clear e0 HE hvW e1 c0 c1 c2
      go_enter Try.func78, Try.ntmps78
      go_wp2_with fail
      go_quiet_grown (first | (go_at_call 83; exact grown_at (hR _)) | (go_at_call 59; exact grown_at (hK _ (Grew.of_grow _ _ _))))
      go_wp2
      go_ret
      exact ⟨ret_bool (by rw [HZ.out]), HG.out.trans (Grew.of_grow _ _ _)⟩
    | true =>
      have h1 : 1 ≤ len := by rw [← hvW.1]; exact (okB_len e1).1
      rw [e1] at hK
      have hLo := vloG hvW h1 hc hm
      have hHi := vhiG hvW h1 hc hm
      have hH1 := holds_any sz st (loX xs) hzt.1 hzt.2
      have hH2 := holds_any sz st (hiX xs) hzt.1 hzt.2
      unfold boV at hH1 hH2
      cases e2 : hldB sz st (loX xs) with
      | false =>
        have HZ : Hid (wokB sz st xs = false) := by rw [Hid, HE.out, e0, e1, e2]; rfl
        rw [e2] at hH1
        clear e0 HE hvW e1 e2 hH2 hHi c0 c1 c2
        generalize loX xs = LO at *
        go_enter Try.func78, Try.ntmps78
        go_wp2_with fail
        go_quiet_grown (first | (go_at_call 83; exact grown_at (hR _)) | (go_at_call 59; exact grown_at (hK _ (Grew.of_grow _ _ _))) | (go_at_call 58; exact grown_at (hLo _ (Grew.of_grow _ _ _))) | (go_at_call 82; exact grown_at (hH1 _)))
        go_wp2
        go_ret
        exact ⟨ret_bool (by rw [HZ.out]), HG.out.trans (Grew.of_grow _ _ _)⟩
      | true =>
        have HZ : Hid (wokB sz st xs = hldB sz st (hiX xs)) := by rw [Hid, HE.out, e0, e1, e2]; rfl
        rw [e2] at hH1
        clear e0 HE hvW e1 e2 c0 c1 c2
        generalize loX xs = LO at *
        generalize hiX xs = HI at *
        generalize hldB sz st HI = R at *
        go_enter Try.func78, Try.ntmps78
        go_wp2_with fail
        go_quiet_grown (first | (go_at_call 83; exact grown_at (hR _)) | (go_at_call 59; exact grown_at (hK _ (Grew.of_grow _ _ _))) | (go_at_call 58; exact grown_at (hLo _ (Grew.of_grow _ _ _))) | (go_at_call 77; exact grown_at (hHi _ (Grew.of_grow _ _ _))) | (go_at_call 82; first | (with_reducible exact grown_at (hH1 _)) | (with_reducible exact grown_at (hH2 _))))
        go_wp2
        go_ret
        exact ⟨ret_bool (by rw [HZ.out]), HG.out.trans (Grew.of_grow _ _ _)⟩

set_option maxRecDepth 100000 in
set_option maxHeartbeats 1600000 in
theorem openW_any (sz st : Int) (a : Option Addr) (len cap : Nat) (xs : List Int) (w : World) (hv : Vec w a len xs) (hc : len ≤ cap) (hm : cap ≤ maxLen) (hw : wokB sz st xs = true) :
    Calls Try.prog 64 #[iwV sz st a len cap] w fun e w' => e = .returned (.bool (op1B sz st xs)) ∧ Grew w w' := by
  have HG : Hid (Grew w (w.alloc (.cells #[.int .i64 sz, .int .i64 st, .slice a len cap] 67))) := (Grew.refl _).alloc _
  have hvW := hv.below HG.out.1 (Nat.le_refl _)
  have c0 : (w.alloc (.cells #[.int .i64 sz, .int .i64 st, .slice a len cap] 67)).cell? ⟨w.heap.size, 0, none⟩ = some (.int .i64 sz) := by simp
  have c1 : (w.alloc (.cells #[.int .i64 sz, .int .i64 st, .slice a len cap] 67)).cell? ⟨w.heap.size, 1, none⟩ = some (.int .i64 st) := by simp
  have c2 : (w.alloc (.cells #[.int .i64 sz, .int .i64 st, .slice a len cap] 67)).cell? ⟨w.heap.size, 2, none⟩ = some (.slice a len cap) := by simp
  generalize hW : w.alloc (.cells #[.int .i64 sz, .int .i64 st, .slice a len cap] 67) = W at *
  have p0 := cell_grown (World.block_lt_of_cell? _ _ c0) c0
  have p1 := cell_grown (World.block_lt_of_cell? _ _ c1) c1
  have p2 := cell_grown (World.block_lt_of_cell? _ _ c2) c2
  have hk := wokB_iff.1 hw
  have h1 : 1 ≤ len := by rw [← hvW.1]; exact (okB_len hk.2.2.1).1
  have hLo := vloG hvW h1 hc hm
  have hlb := leastB_bd xs
  have HO : Hid (op1B sz st xs = (decide (st - loX xs < sz) && decide (st < 1000000))) := by rw [Hid, op1B, leastB_lo hk.2.2.1]
  rw [leastB_lo hk.2.2.1] at hlb
  have hR := room_any sz st (loX xs) hk.2.1 hlb
  unfold boV at hR
  unfold iwV
  rw [HO.out]
  generalize (decide (st - loX xs < sz) && decide (st < 1000000)) = R at *
  generalize loX xs = LO at *
  clear hv hvW hw hk HO c0 c1 c2
  have hmix := mixedW
  go_enter Try.func64, Try.ntmps64
  go_wp2_with fail
  go_quiet_grown (first | (go_at_call 58; exact grown_at (hLo _ (Grew.of_grow _ _ _))) | (go_at_call 80; exact grown_at (hR _)))
  go_wp2
  go_ret
  exact ⟨rfl, HG.out.trans (Grew.of_grow _ _ _)⟩
end Go.Proofs.Ytkompamocpnefaa
