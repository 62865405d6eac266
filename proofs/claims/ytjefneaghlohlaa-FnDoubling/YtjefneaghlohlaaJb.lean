/-
  Several texts in one: Hph.
-/
import Derived.Test.YtjefneaghlohlaaJa
/-
  container/heap over a heap of numbers: Push and Pop.
-/
namespace Go.Proofs.Ytjefneaghlohlaa
set_option linter.unusedVariables false
set_option linter.unusedSimpArgs false
open Go.RowKit Go.Sort

theorem ga_left {xs : List Int} {x : Int} {i : Nat} (h : i < xs.length) : ga (xs ++ [x]) i = ga xs i := by simp [ga, List.getD_eq_getElem?_getD, List.getElem?_append_left h]
theorem hpx_push {xs : List Int} (x : Int) (h : Hp kI xs xs.length) : HpX kI (xs ++ [x]) (xs ++ [x]).length xs.length := fun i h0 hi hne => by
  rw [List.length_append, List.length_singleton] at hi
  rw [ga_left (by omega), ga_left (by omega)]
  exact h i h0 (by omega)
theorem gr_push {xs : List Int} (x : Int) : Gr kI (xs ++ [x]) (xs ++ [x]).length xs.length := fun h0 c hc c0 he => by
  rw [List.length_append, List.length_singleton] at hc
  omega
theorem hdx_pop {xs : List Int} {n : Nat} (hn : xs.length = n + 1) (h : Hp kI xs xs.length) : HdX kI (sw xs 0 n) n 0 := fun i h0 hi hne => by
  rw [ga_sw (by omega) (by omega) (by omega), ga_sw (by omega) (by omega) (by omega), if_neg (by omega), if_neg (by omega), if_neg (by omega), if_neg (by omega)]
  exact h i h0 (by omega)
theorem el_sw_last {xs : List Int} {n : Nat} (hn : xs.length = n + 1) : el (sw xs 0 n) n = el xs 0 := by
  rw [← el_ga, ga_sw (by omega) (by omega) (by omega), if_pos rfl, el_ga]
theorem split_last {ys : List Int} {n : Nat} (hn : ys.length = n + 1) : ∃ zs, ys = zs ++ [el ys n] ∧ zs.length = n := by
  refine ⟨ys.dropLast, ?_, by simp [hn]⟩
  have h0 : ys ≠ [] := by intro e; rw [e] at hn; simp at hn
  have := List.dropLast_concat_getLast h0
  rw [List.getLast_eq_getElem] at this
  have he : el ys n = ys[ys.length - 1]'(by omega) := by simp [el, hn]
  rw [he]; exact this.symm
/-- What Pop leaves: the least, and a heap of the rest. -/
theorem pop_rest {xs ys : List Int} {n : Nat} (hn : xs.length = n + 1) (h : Hp kI xs xs.length) (hp : ys.Perm (sw xs 0 n)) (hh : Hp kI ys n) (he : el ys n = el (sw xs 0 n) n) :
    ∃ zs, ys = zs ++ [el xs 0] ∧ zs.length = n ∧ (el xs 0 :: zs).Perm xs ∧ (∀ z ∈ zs, el xs 0 ≤ z) ∧ Hp kI zs zs.length := by
  have hl : ys.length = n + 1 := by rw [hp.length_eq, sw_len, hn]
  obtain ⟨zs, hz, hzl⟩ := split_last hl
  rw [he, el_sw_last hn] at hz
  have hpx : ys.Perm xs := hp.trans (sw_perm (by omega) (by omega))
  have hp2 : (el xs 0 :: zs).Perm xs := by
    refine List.Perm.trans ?_ (hz ▸ hpx)
    exact (List.perm_append_singleton (el xs 0) zs).symm
  refine ⟨zs, hz, hzl, hp2, fun z hm => ?_, ?_⟩
  · have hx : z ∈ xs := hp2.subset (List.mem_cons_of_mem _ hm)
    obtain ⟨i, hi, hie⟩ := List.mem_iff_getElem.1 hx
    have := hp_least kI h i hi
    rw [kI_ga, kI_ga] at this
    rw [← hie]
    simpa [el, hi] using this
  · refine hp_prefix kI hh (by omega) (fun i hi => ?_)
    rw [hz, ga_left hi]

set_option maxRecDepth 100000 in
set_option maxHeartbeats 1600000 in
theorem heapPush_any (w0 : World) (B g0 : Nat) (xs : List Int) (x : Int) (w : World) (h : Hs w0 B g0 w xs) (hn : xs.length < 1000000) (hh : Hp kI xs xs.length) :
    Calls Try.prog 86 #[.iface 73 (.pointer (some ⟨B, 0, none⟩)), .iface 2 (.int .i64 x)] w fun e w' => (∃ v, e = .returned v) ∧ ∃ ys, ys.Perm (xs ++ [x]) ∧ Hp kI ys ys.length ∧ Hs w0 B g0 w' ys := by
  have h1 : Hid (HpX kI (xs ++ [x]) (xs ++ [x]).length xs.length) := hpx_push x hh
  have h2 : Hid (Gr kI (xs ++ [x]) (xs ++ [x]).length xs.length) := gr_push x
  have mP := meth_push (.pointer (some ⟨B, 0, none⟩)) w
  have hPs := ndPush_any w0 B g0 xs x w h (by omega)
  clear hh h
  have hl : (xs ++ [x]).length = xs.length + 1 := by simp
  go_enter Try.func86, Try.ntmps86
  go_wp2_with fail
  refine hPs.mono ?_
  rintro e w1 ⟨⟨v, rfl⟩, hs⟩
  obtain ⟨g, og, cap, c0, ho, hsw⟩ := hs.open
  have mL := meth_len c0
  have hLn := ndLen_any (some ⟨g, og, none⟩) (xs ++ [x]).length cap w1
  have hU := heapUp_any w0 B g0 xs.length (xs ++ [x]) w1 hs (by omega) (by omega) h1.out h2.out
  rw [hl] at mL hLn
  clear hPs ho hsw hs mP c0
  go_wp2_with fail
  refine hLn.mono ?_
  rintro e w2 ⟨rfl, rfl⟩
  go_wp2_with fail
  refine hU.mono ?_
  rintro e w3 ⟨⟨v3, rfl⟩, r⟩
  go_wp2
  go_end0
  exact ⟨⟨_, rfl⟩, r⟩

set_option maxRecDepth 100000 in
set_option maxHeartbeats 1600000 in
theorem heapPop_any (w0 : World) (B g0 n : Nat) (xs : List Int) (w : World) (h : Hs w0 B g0 w xs) (hl : xs.length = n + 1) (hn : n < 1000000) (hh : Hp kI xs xs.length) :
    Calls Try.prog 85 #[.iface 73 (.pointer (some ⟨B, 0, none⟩))] w fun e w' => e = .returned (.iface 2 (.int .i64 (el xs 0))) ∧ ∃ zs, (el xs 0 :: zs).Perm xs ∧ (∀ z ∈ zs, el xs 0 ≤ z) ∧ Hp kI zs zs.length ∧ Hs w0 B g0 w' zs := by
  have HD : Hid (HdX kI (sw xs 0 n) n 0) := hdx_pop hl hh
  have HG : Hid (Gr kI (sw xs 0 n) n 0) := fun h0 => absurd h0 (by omega)
  have HP : Hid (Hp kI xs xs.length) := hh
  have HL : Hid (xs.length = n + 1) := hl
  obtain ⟨g, og, cap, c0, ho, hsw⟩ := h.open
  have mL := meth_len c0
  have hLn := ndLen_any (some ⟨g, og, none⟩) xs.length cap w
  have mS := meth_swap c0
  have hSw := ndSwap_any g og xs.length cap 0 n xs w ho (by omega) (by omega)
  have hHs := hsw 0 n
  have hSe : Hid (∀ m m', Hs w0 B g0 ((((w.drewN m').setCell ⟨g, og + 0, none⟩ (.int .i64 (el xs n))).setCell ⟨g, og + n, none⟩ (.int .i64 (el xs 0))).drewN m) (sw xs 0 n)) := fun m m' => hHs m m' (by omega) (by omega)
  rw [hl] at mL hLn mS hSw
  clear hh h ho hsw hHs c0 hl
  go_enter Try.func85, Try.ntmps85
  go_wp2_with fail
  refine hLn.mono ?_
  rintro e w1 ⟨rfl, rfl⟩
  go_wp2_with fail
  refine hSw.mono ?_
  rintro e w2 ⟨⟨v, rfl⟩, m2, rfl⟩
  have hsl : (sw xs 0 n).length = n + 1 := by rw [sw_len]; exact HL.out
  have hDn := heapDown_any w0 B g0 0 n (sw xs 0 n) _ (hSe.out m2 0) (by omega) (by omega) (by omega) HD.out HG.out
  clear mL mS hLn hSw hSe
  go_wp2_with fail
  refine hDn.mono ?_
  rintro e w3 ⟨⟨v3, rfl⟩, ys, hp, hy, hrest, hs⟩
  obtain ⟨zs, rfl, hzl, hpm, hle, hzh⟩ := pop_rest HL.out HP.out hp hy (hrest n (by omega) (by omega))
  have mP := meth_pop (.pointer (some ⟨B, 0, none⟩)) w3
  have hPo := ndPop_any w0 B g0 zs (el xs 0) w3 hs (by omega)
  clear hp hy hrest hs hDn
  have HR : Hid ((el xs 0 :: zs).Perm xs ∧ (∀ z ∈ zs, el xs 0 ≤ z) ∧ Hp kI zs zs.length) := ⟨hpm, hle, hzh⟩
  clear hpm hle hzh
  go_wp2_with fail
  refine hPo.mono ?_
  rintro e w4 ⟨rfl, hs4⟩
  go_wp2
  go_ret
  exact ⟨rfl, zs, HR.out.1, HR.out.2.1, HR.out.2.2, hs4⟩
end Go.Proofs.Ytjefneaghlohlaa
