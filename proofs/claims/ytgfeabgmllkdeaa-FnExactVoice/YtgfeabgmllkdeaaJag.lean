/-
  Texts in one: Nmr.
-/
import Derived.Test.YtgfeabgmllkdeaaJaf
/-
  The program's Voice.
-/
namespace Go.Proofs.Ytgfeabgmllkdeaa
set_option linter.unusedVariables false
set_option linter.unusedSimpArgs false
open Go.RowKit Go.Sort

attribute [local irreducible] sv
def VoQ (m : Mb) (w0 X0 : World) (b1 b2 : Nat) (b : Bool) (w' : World) : Prop := (b = true → (okMb m = true ∧ m.sung.all (hadB m.rows m.k) = true) ∧ ∃ a c f, w'.cell? ⟨b1, 0, none⟩ = some (.slice a (m.sung.map (txtOf m.rows m.k)).length c) ∧ Cel.ow w' (scl (m.sung.map (txtOf m.rows m.k))) (.slice a (m.sung.map (txtOf m.rows m.k)).length c) f ∧ ∀ b, f b → w0.heap.size ≤ b ∧ b ≠ b1 ∧ b ≠ b2) ∧ (b = false → ¬ (okMb m = true ∧ m.sung.all (hadB m.rows m.k) = true)) ∧ Wrt (fun x => x = b1) X0 w'
theorem voi_yes {m : Mb} (h : okMb m = true ∧ m.sung.all (hadB m.rows m.k) = true) : voiM m = (m.sung.map (txtOf m.rows m.k)) := by rw [voiM, if_pos h.1, voiL, if_pos h.2]
theorem voi_no {m : Mb} (h : ¬ (okMb m = true ∧ m.sung.all (hadB m.rows m.k) = true)) : voiM m = [] := by
  unfold voiM voiL
  split
  · rename_i h1
    rw [if_neg (fun h2 => h ⟨h1, h2⟩)]
  · rfl
set_option maxRecDepth 100000 in
set_option maxHeartbeats 1600000 in
theorem implVoice : ImplVoice := by
  intro A m w hv
  have hmf : ∀ (fn : Fn) (first cap : Array Value) (w : World), (Instr.makeFunc fn first cap).run Try.prog w = .ok (.func fn first cap) w := fun _ _ _ _ => rfl
  have a1 := oneA16 w (.cells #[.int .i64 m.id, .int .i64 m.n, .slice A.ra m.rows.length A.rc, .slice A.sa m.sung.length A.sc, .bool m.done] 40)
  have a2 := oneA16 (w.alloc (.cells #[.int .i64 m.id, .int .i64 m.n, .slice A.ra m.rows.length A.rc, .slice A.sa m.sung.length A.sc, .bool m.done] 40)) (.cells #[] 9)
  have a3 := oneA16 ((w.alloc (.cells #[.int .i64 m.id, .int .i64 m.n, .slice A.ra m.rows.length A.rc, .slice A.sa m.sung.length A.sc, .bool m.done] 40)).alloc (.cells #[] 9)) (.cells #[.slice (some ⟨w.heap.size + 1, 0, none⟩) 0 0] 50)
  have hb1 : Below w.heap.size w (w.alloc (.cells #[.int .i64 m.id, .int .i64 m.n, .slice A.ra m.rows.length A.rc, .slice A.sa m.sung.length A.sc, .bool m.done] 40)) := a1
  have hb2 : Below w.heap.size w ((w.alloc (.cells #[.int .i64 m.id, .int .i64 m.n, .slice A.ra m.rows.length A.rc, .slice A.sa m.sung.length A.sc, .bool m.done] 40)).alloc (.cells #[] 9)) := hb1.trans (a2.mono hb1.size)
  have hb3 : Below w.heap.size w (((w.alloc (.cells #[.int .i64 m.id, .int .i64 m.n, .slice A.ra m.rows.length A.rc, .slice A.sa m.sung.length A.sc, .bool m.done] 40)).alloc (.cells #[] 9)).alloc (.cells #[.slice (some ⟨w.heap.size + 1, 0, none⟩) 0 0] 50)) := hb2.trans (a3.mono hb2.size)
  have hx0 : Bx (((w.alloc (.cells #[.int .i64 m.id, .int .i64 m.n, .slice A.ra m.rows.length A.rc, .slice A.sa m.sung.length A.sc, .bool m.done] 40)).alloc (.cells #[] 9)).alloc (.cells #[.slice (some ⟨w.heap.size + 1, 0, none⟩) 0 0] 50)) w.heap.size 40 #[.int .i64 m.id, .int .i64 m.n, .slice A.ra m.rows.length A.rc, .slice A.sa m.sung.length A.sc, .bool m.done] := ((Bx.new w 40 #[.int .i64 m.id, .int .i64 m.n, .slice A.ra m.rows.length A.rc, .slice A.sa m.sung.length A.sc, .bool m.done]).alloc (.cells #[] 9)).alloc (.cells #[.slice (some ⟨w.heap.size + 1, 0, none⟩) 0 0] 50)
  have hx1 : Bx (((w.alloc (.cells #[.int .i64 m.id, .int .i64 m.n, .slice A.ra m.rows.length A.rc, .slice A.sa m.sung.length A.sc, .bool m.done] 40)).alloc (.cells #[] 9)).alloc (.cells #[.slice (some ⟨w.heap.size + 1, 0, none⟩) 0 0] 50)) (w.heap.size + 1 + 1) 50 #[.slice (some ⟨w.heap.size + 1, 0, none⟩) 0 0] := by
    have := Bx.new ((w.alloc (.cells #[.int .i64 m.id, .int .i64 m.n, .slice A.ra m.rows.length A.rc, .slice A.sa m.sung.length A.sc, .bool m.done] 40)).alloc (.cells #[] 9)) 50 #[.slice (some ⟨w.heap.size + 1, 0, none⟩) 0 0]
    simp only [World.size_alloc] at this
    exact this
  have hsz : (((w.alloc (.cells #[.int .i64 m.id, .int .i64 m.n, .slice A.ra m.rows.length A.rc, .slice A.sa m.sung.length A.sc, .bool m.done] 40)).alloc (.cells #[] 9)).alloc (.cells #[.slice (some ⟨w.heap.size + 1, 0, none⟩) 0 0] 50)).heap.size = w.heap.size + 1 + 1 + 1 := by simp only [World.size_alloc]
  have a4 := oneA16 (((w.alloc (.cells #[.int .i64 m.id, .int .i64 m.n, .slice A.ra m.rows.length A.rc, .slice A.sa m.sung.length A.sc, .bool m.done] 40)).alloc (.cells #[] 9)).alloc (.cells #[.slice (some ⟨w.heap.size + 1, 0, none⟩) 0 0] 50)) (.cells #[.bool false] 4)
  have hb4 : Below w.heap.size w ((((w.alloc (.cells #[.int .i64 m.id, .int .i64 m.n, .slice A.ra m.rows.length A.rc, .slice A.sa m.sung.length A.sc, .bool m.done] 40)).alloc (.cells #[] 9)).alloc (.cells #[.slice (some ⟨w.heap.size + 1, 0, none⟩) 0 0] 50)).alloc (.cells #[.bool false] 4)) := hb3.trans (a4.mono hb3.size)
  have hO0 : Cel.ow ((((w.alloc (.cells #[.int .i64 m.id, .int .i64 m.n, .slice A.ra m.rows.length A.rc, .slice A.sa m.sung.length A.sc, .bool m.done] 40)).alloc (.cells #[] 9)).alloc (.cells #[.slice (some ⟨w.heap.size + 1, 0, none⟩) 0 0] 50)).alloc (.cells #[.bool false] 4)) (scl []) (.slice (some ⟨w.heap.size + 1, 0, none⟩) 0 0) (fun _ => False) := ow_scl.2 ⟨_, 0, none, rfl, OSo.nil _ _ (plainS _ _), fun b => by simp⟩
  have hT := told_any 96 #[] #[.pointer (some ⟨w.heap.size, 0, none⟩), .pointer (some ⟨w.heap.size + 1 + 1, 0, none⟩)] (((w.alloc (.cells #[.int .i64 m.id, .int .i64 m.n, .slice A.ra m.rows.length A.rc, .slice A.sa m.sung.length A.sc, .bool m.done] 40)).alloc (.cells #[] 9)).alloc (.cells #[.slice (some ⟨w.heap.size + 1, 0, none⟩) 0 0] 50)) (fun b X => VoQ m w ((((w.alloc (.cells #[.int .i64 m.id, .int .i64 m.n, .slice A.ra m.rows.length A.rc, .slice A.sa m.sung.length A.sc, .bool m.done] 40)).alloc (.cells #[] 9)).alloc (.cells #[.slice (some ⟨w.heap.size + 1, 0, none⟩) 0 0] 50)).alloc (.cells #[.bool false] 4)) (w.heap.size + 1 + 1) (((w.alloc (.cells #[.int .i64 m.id, .int .i64 m.n, .slice A.ra m.rows.length A.rc, .slice A.sa m.sung.length A.sc, .bool m.done] 40)).alloc (.cells #[] 9)).alloc (.cells #[.slice (some ⟨w.heap.size + 1, 0, none⟩) 0 0] 50)).heap.size b X) (fun _ _ => enters_of Try.func96 (by kernel_rfl) rfl _ _)
    ((voi1_any A m w.heap.size (w.heap.size + 1 + 1) (((w.alloc (.cells #[.int .i64 m.id, .int .i64 m.n, .slice A.ra m.rows.length A.rc, .slice A.sa m.sung.length A.sc, .bool m.done] 40)).alloc (.cells #[] 9)).alloc (.cells #[.slice (some ⟨w.heap.size + 1, 0, none⟩) 0 0] 50)).heap.size (some ⟨w.heap.size + 1, 0, none⟩) 0 (fun _ => False) w _ hv hb4 (hx0.below a4) (hx1.below a4) hO0 (fun b h => h.elim) (by omega) (by omega) (fun h => h) (Bx.new (((w.alloc (.cells #[.int .i64 m.id, .int .i64 m.n, .slice A.ra m.rows.length A.rc, .slice A.sa m.sung.length A.sc, .bool m.done] 40)).alloc (.cells #[] 9)).alloc (.cells #[.slice (some ⟨w.heap.size + 1, 0, none⟩) 0 0] 50)) 4 #[.bool false]).lt).mono (fun e w' ⟨h1, h2⟩ => by
      have h2' : Wrt (fun x => x = w.heap.size + 1 + 1) ((((w.alloc (.cells #[.int .i64 m.id, .int .i64 m.n, .slice A.ra m.rows.length A.rc, .slice A.sa m.sung.length A.sc, .bool m.done] 40)).alloc (.cells #[] 9)).alloc (.cells #[.slice (some ⟨w.heap.size + 1, 0, none⟩) 0 0] 50)).alloc (.cells #[.bool false] 4)) w' := h2.mono (fun b _ h => h.elim id False.elim)
      rcases h1 with ⟨q1, q2, q3, q4⟩ | ⟨q1, q2⟩
      · exact .inl ⟨q3, fun _ => ⟨⟨q1, q2⟩, q4⟩, (fun h => by cases h), h2'⟩
      · exact .inr ⟨q2, (fun h => by cases h), fun _ => q1, h2'⟩)) (fun b X h => (Bx.new (((w.alloc (.cells #[.int .i64 m.id, .int .i64 m.n, .slice A.ra m.rows.length A.rc, .slice A.sa m.sung.length A.sc, .bool m.done] 40)).alloc (.cells #[] 9)).alloc (.cells #[.slice (some ⟨w.heap.size + 1, 0, none⟩) 0 0] 50)) 4 #[.bool false]).wrt h.2.2 (fun k => by omega))
  have HB4 : Hid (Below w.heap.size w ((((w.alloc (.cells #[.int .i64 m.id, .int .i64 m.n, .slice A.ra m.rows.length A.rc, .slice A.sa m.sung.length A.sc, .bool m.done] 40)).alloc (.cells #[] 9)).alloc (.cells #[.slice (some ⟨w.heap.size + 1, 0, none⟩) 0 0] 50)).alloc (.cells #[.bool false] 4))) := hb4
  have HSz : Hid ((((w.alloc (.cells #[.int .i64 m.id, .int .i64 m.n, .slice A.ra m.rows.length A.rc, .slice A.sa m.sung.length A.sc, .bool m.done] 40)).alloc (.cells #[] 9)).alloc (.cells #[.slice (some ⟨w.heap.size + 1, 0, none⟩) 0 0] 50)).heap.size = w.heap.size + 1 + 1 + 1) := hsz
  clear a1 a2 a3 a4 hb1 hb2 hb3 hx0 hx1 hb4 hO0 hv hsz
  unfold mbV mbC
  go_enter Try.func45, Try.ntmps45
  go_wp2_with fail
  generalize (((w.alloc (.cells #[.int .i64 m.id, .int .i64 m.n, .slice A.ra m.rows.length A.rc, .slice A.sa m.sung.length A.sc, .bool m.done] 40)).alloc (.cells #[] 9)).alloc (.cells #[.slice (some ⟨w.heap.size + 1, 0, none⟩) 0 0] 50)) = W0 at *
  refine hT.mono ?_
  rintro e Y ⟨b, X, rfl, ⟨hQ1, hQ2, hWX⟩, hWt⟩
  have hs := HSz.out
  have hBX : Below w.heap.size w X := hWX.below HB4.out HB4.out.size (fun x e => by omega)
  have hBY : Below w.heap.size w Y := hWt.below hBX hBX.size (fun x e => by omega)
  have HBY : Hid (Below w.heap.size w Y) := hBY
  clear hT hWX hBX hBY
  cases b with
  | true =>
    obtain ⟨hy, a, c, f, hc, hO, hf⟩ := hQ1 rfl
    have HZ : Hid (voiM m = (m.sung.map (txtOf m.rows m.k))) := voi_yes hy
    have hbl := World.block_lt_of_cell? _ _ hc
    have hc2 : Y.cell? ⟨w.heap.size + 1 + 1, 0, none⟩ = some (.slice a (m.sung.map (txtOf m.rows m.k)).length c) := (World.cell?_of_block (hWt.block _ hbl (by show ¬ (w.heap.size + 1 + 1 = W0.heap.size); omega))).trans hc
    have HO : Hid (Cel.ow Y (scl (m.sung.map (txtOf m.rows m.k))) (.slice a (m.sung.map (txtOf m.rows m.k)).length c) f) := Cel.ow_wrt hO hWt (fun b hb e => (hf b hb).2.2 e)
    have HF : Hid (∀ b, f b → w.heap.size ≤ b) := fun b hb => (hf b hb).1
    clear hQ1 hQ2 hc hO hf hy hWt
    generalize (m.sung.map (txtOf m.rows m.k)) = TT at *
    go_wp2
    go_ret
    rw [HZ.out]
    exact ⟨a, c, rfl, f, HO.out, HF.out, HBY.out⟩
  | false =>
    have HZ : Hid (voiM m = []) := voi_no (hQ2 rfl)
    clear hQ1 hQ2 hWt
    go_wp2
    go_ret
    rw [HZ.out]
    exact ⟨some ⟨Y.heap.size, 0, none⟩, 0, rfl, fun _ => False, ow_scl.2 ⟨_, 0, none, rfl, OSo.nil _ _ (plainS _ _), fun b => by simp⟩, fun b h => h.elim, HBY.out.trans ((oneA16 Y _).mono HBY.out.size)⟩
end Go.Proofs.Ytgfeabgmllkdeaa
