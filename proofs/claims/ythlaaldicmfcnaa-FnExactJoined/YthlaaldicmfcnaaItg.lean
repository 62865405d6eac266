/-
  The program's together: texts, one behind the other, by a builder.
-/
import Derived.Test.YthlaaldicmfcnaaBui
import Derived.Test.YthlaaldicmfcnaaKm
namespace Go.Proofs.Ythlaaldicmfcnaa
set_option linter.unusedVariables false
set_option linter.unusedSimpArgs false
open Go.RowKit Go.Sort

theorem flat_lenT {zs : List (List UInt8)} {M : Nat} (h : ∀ z ∈ zs, z.length ≤ M) : zs.flatten.length ≤ zs.length * M := by
  induction zs with
  | nil => simp
  | cons z zs ih =>
    have h1 := ih (fun x hx => h x (by simp [hx]))
    have h2 := h z (by simp)
    simp only [List.flatten_cons, List.length_append, List.length_cons, Nat.add_mul]
    omega
theorem take_getD {zs : List (List UInt8)} {k : Nat} (h : k < zs.length) : zs.take (k + 1) = zs.take k ++ [zs.getD k []] := by
  rw [List.take_succ_eq_append_getElem h]
  simp [List.getD, h]
attribute [local irreducible] sv
set_option maxRecDepth 100000 in
set_option maxHeartbeats 800000 in
theorem together_any (g off n cap : Nat) (zs : List (List UInt8)) (w : World) (h : OS w g off n cap zs) (hn : n ≤ 1048576) (hz : ∀ z ∈ zs, z.length ≤ 1048576) :
    Calls Try.prog 67 #[.slice (some ⟨g, off, none⟩) n cap] w fun e w' => e = .returned (.string (sv zs.flatten)) ∧ Below w.heap.size w w' := by
  have HF : Hid (Lib.IsBuilder 90 5 w.heap.size w.heap.size (Lib.byteCells []) (w.alloc (.cells #[.pointer none, .slice none 0 0] 90))) := Lib.fresh_isBuilder 90 5 w
  have HB : Hid (Below w.heap.size w (w.alloc (.cells #[.pointer none, .slice none 0 0] 90))) := (Below.refl _ _).alloc (Nat.le_refl _) _
  have HL : Hid (zs.length = n) := h.length
  have HO : Hid (OS w g off n cap zs) := h
  have HZ : Hid (∀ k, k ≤ n → (zs.take k).flatten.length ≤ k * 1048576) := fun k hk => by
    have := flat_lenT (zs := zs.take k) (M := 1048576) (fun z h => hz z (List.mem_of_mem_take h))
    exact Nat.le_trans this (Nat.mul_le_mul_right _ (by simp; omega))
  have HZ1 : Hid (∀ k, k < n → (zs.getD k []).length ≤ 1048576) := fun k hk => hz _ (by have := HL.out; simp [List.getD, show k < zs.length by omega])
  clear h hz
  go_enter Try.func67, Try.ntmps67
  go_wp2
  go_loopw [8] (fun i wr => ∃ k : Nat, k ≤ n ∧ i = .int .i64 (k : Int) ∧ Lib.IsBuilder 90 5 w.heap.size w.heap.size (Lib.byteCells (zs.take k).flatten) wr ∧ Below w.heap.size w wr) (fun i _ => n - (intOf i).toNat)
  case atStart => exact ⟨0, Nat.zero_le _, rfl, HF.out, HB.out⟩
  case round =>
    clear HF HB
    obtain ⟨k, hk, rfl, hI, hB⟩ := hrel
    have KI : Hid (Lib.IsBuilder 90 5 w.heap.size w.heap.size (Lib.byteCells (zs.take k).flatten) wr) := hI
    have KB : Hid (Below w.heap.size w wr) := hB
    clear hI
    by_cases hlt : k < n
    · have k1 : (k : Int) < (n : Int) := by omega
      have k0 : (0 : Int) ≤ (k : Int) := by omega
      have c0 := (HO.out.below hB HO.out.blk).cellAt hlt
      have hl1 := HZ.out k hk
      have hl2 := HZ1.out k hlt
      have HS : Hid ((zs.take (k + 1)).flatten = (zs.take k).flatten ++ zs.getD k []) := by
        rw [Hid, take_getD (by rw [HL.out]; exact hlt)]; simp
      have hkm : k * 1048576 ≤ 1048576 * 1048576 := Nat.mul_le_mul_right _ (by omega)
      generalize hE : (zs.take (k + 1)).flatten = E1 at *
      generalize (zs.take k).flatten = E0 at *
      generalize zs.getD k [] = z at *
      have C := write_any w.heap.size w.heap.size E0 z wr KI.out (by omega) KB.out.size
      rw [← HS.out] at C
      clear hB hl1 hl2 hkm HS
      go_wp2_with (go_at_call 79; refine C.mono ?_; rintro e w1 ⟨rfl, h1, hb1⟩)
      have KI1 : Hid (Lib.IsBuilder 90 5 w.heap.size w.heap.size (Lib.byteCells E1) w1) := h1
      have KB1 : Hid (Below w.heap.size w w1) := KB.out.trans hb1
      clear h1 hb1
      go_roundw
      case rel => exact ⟨k + 1, by omega, by go_num, by rw [hE]; exact KI1.out, KB1.out⟩
      case measure => simp [intOf]; omega
    · have k1 : ¬ ((k : Int) < (n : Int)) := by omega
      have hjL : zs.take k = zs := by rw [List.take_of_length_le]; rw [HL.out]; omega
      rw [hjL] at KI
      have C := string_any w.heap.size w.heap.size zs.flatten wr KI.out KB.out.size
      clear hB hjL
      go_wp2_with (go_at_call 80; refine C.mono ?_; rintro e w1 ⟨rfl, hb1⟩)
      have KB1 : Hid (Below w.heap.size w w1) := KB.out.trans hb1
      clear hb1
      go_ret
      exact ⟨rfl, KB1.out⟩
end Go.Proofs.Ythlaaldicmfcnaa
