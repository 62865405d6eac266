/-
  The contract of the program's Newest.
-/
import Derived.Test.YtacogcfdolmfpaaVrs
namespace Go.Proofs.Ytacogcfdolmfpaa
set_option linter.unusedSimpArgs false
set_option linter.unusedVariables false
open Go.RowKit Go.Sort

/-- A node's newest clock. -/
def nwT (es : List Ev) (len : Nat) (node : Int) : List Int := if okT es len = true then (match lastB es node len with | none => [] | some i => cl es i) else []
theorem look_none {w : World} {B n : Nat} {es : List Ev} {k : Nat} {node : Int} (h : KM w B n (Fk es k)) (hn : -9223372036854775808 ≤ node ∧ node ≤ 9223372036854775807) (hl : lastB es node k = none) :
    (Instr.lookup 91 (.map (some B)) (.agg #[.int .i64 1, .int .i64 node]) true).run Try.prog w = .ok (.tuple #[.agg #[.int .i64 0, .int .i64 0, .int .i64 0, .int .i64 0, .int .i64 0, .int .i64 0, .int .i64 0, .int .i64 0], .bool false]) w := by
  have := h.look_ok (a := 1) (b := node) (by omega) hn
  have e : Fk es k 1 node = none := by unfold Fk; rw [if_pos rfl, hl]; rfl
  rw [e] at this
  exact this
theorem look_some {w : World} {B n : Nat} {es : List Ev} {k i : Nat} {node : Int} (h : KM w B n (Fk es k)) (hn : -9223372036854775808 ≤ node ∧ node ≤ 9223372036854775807) (hl : lastB es node k = some i) :
    (Instr.lookup 91 (.map (some B)) (.agg #[.int .i64 1, .int .i64 node]) true).run Try.prog w = .ok (.tuple #[.agg #[.int .i64 (el (cl es i) 0), .int .i64 (el (cl es i) 1), .int .i64 (el (cl es i) 2), .int .i64 (el (cl es i) 3), .int .i64 (el (cl es i) 4), .int .i64 (el (cl es i) 5), .int .i64 (el (cl es i) 6), .int .i64 (el (cl es i) 7)], .bool true]) w := by
  have := h.look_ok (a := 1) (b := node) (by omega) hn
  have e : Fk es k 1 node = some (el (cl es i)) := by unfold Fk; rw [if_pos rfl, hl]; rfl
  rw [e] at this
  exact this

set_option maxRecDepth 100000 in
set_option maxHeartbeats 1600000 in
theorem implNewest_any (b off len cap : Nat) (es : List Ev) (node : Int) (w : World) (hc : EvsAt w b off len es) (hm : len ≤ maxLen) (hcap : len ≤ cap) (hnode : -9223372036854775808 ≤ node ∧ node ≤ 9223372036854775807) :
    Calls Try.prog 52 #[.slice (some ⟨b, off, none⟩) len cap, .int .i64 node] w fun e w' => Ans w w' e (nwT es len node) := by
  have hT := implTok_any b off len cap es w hc hm hcap
  cases ho : okT es len
  · rw [ho] at hT
    have HZ : Hid (nwT es len node = []) := by rw [Hid, nwT, ho]; rfl
    go_enter Try.func52, Try.ntmps52
    go_wp2_with fail
    refine hT.mono ?_
    rintro e w1 ⟨rfl, hg1⟩
    have HG : Hid (Grew w w1) := hg1
    clear hg1
    go_wp2
    go_ret
    rw [HZ.out]
    exact ⟨w1.heap.size, 0, 0, rfl, HG.out.1.size, oi_empty w1 2, (HG.out.alloc _).1⟩
  · rw [ho] at hT
    have HOK : Hid (okT es len = true) := ho
    obtain ⟨h40, hall⟩ := okT_all ho
    have hmm := @run_makeMap Try.prog
    have HN : Hid (-9223372036854775808 ≤ node ∧ node ≤ 9223372036854775807) := hnode
    clear hall ho
    go_enter Try.func52, Try.ntmps52
    go_wp2_with fail
    refine hT.mono ?_
    rintro e w1 ⟨rfl, hg1⟩
    have HG : Hid (Grew w w1) := hg1
    have HC1 : Hid (EvsAt w1 b off len es) := hc.grew hg1
    have HK0 : Hid (KM (w1.alloc (.map #[] 0)) w1.heap.size (2 * 0) (Fk es 0)) := (km_made w1).like (Nat.le_refl _) (fun a b => by rw [fk_zero]; trivial)
    clear hg1 hc hT
    go_wp2
    go_loopw [17] (fun i wr => ∃ k : Nat, k ≤ len ∧ i = .int .i64 k ∧ KM wr w1.heap.size (2 * k) (Fk es k) ∧ Below w1.heap.size w1 wr) (fun i _ => len - (intOf i).toNat)
    case atStart => exact ⟨0, Nat.zero_le _, rfl, HK0.out, (Below.refl _ _).alloc (Nat.le_refl _) _⟩
    case round =>
      obtain ⟨k, hk, rfl, hkm, hbel⟩ := hrel
      have HK : Hid (KM wr w1.heap.size (2 * k) (Fk es k)) := hkm
      have HB : Hid (Below w1.heap.size w1 wr) := hbel
      clear hkm hbel
      by_cases hlt : k < len
      · have HE : Hid (EvsAt wr b off len es) := evs_below HC1.out HB.out (Nat.le_refl _)
        obtain ⟨c0, c1, c2⟩ := HE.out k hlt
        have hkl : (k : Int) < (len : Int) := by omega
        have hk0 : (0 : Int) ≤ (k : Int) := by omega
        go_wp2_with fail
        refine (ticked_at es k len w1.heap.size (2 * k) _ HOK.out hlt (HK.out.below ((Below.refl _ _).alloc (Nat.le_refl _) _)) (by omega)).mono ?_
        rintro e w2 ⟨rfl, hK2, hg2⟩
        have HK2 : Hid (KM w2 w1.heap.size (2 * k + 2) (Fk es (k + 1))) := hK2
        have HB2 : Hid (Below w1.heap.size w1 w2) := (HB.out.alloc HB.out.size (.cells #[.int .i64 (evAt es k).n, .int .i64 (evAt es k).k, .int .i64 (evAt es k).m] 48)).grown hg2 (by have := HB.out.size; simp; omega) (by intro i hi; cases hi; omega)
        clear c0 c1 c2 hg2 hK2
        go_wp2
        go_roundw
        case rel => exact ⟨k + 1, by omega, by go_num, HK2.out, HB2.out⟩
        case measure => simp [intOf]; omega
      · have hkl : k = len := by omega
        subst hkl
        cases hl : lastB es node k with
        | none =>
          have HZ : Hid (nwT es k node = []) := by rw [Hid, nwT, if_pos HOK.out, hl]
          have HL : Hid (lastB es node k = none) := hl
          clear hl
          go_wp2_with fail
          refine (ofNode_any _ _).mono ?_
          rintro e w2 ⟨rfl, hg2⟩
          have hlk := look_none (HK.out.below hg2.1) HN.out HL.out
          have HB2 : Hid (Below w1.heap.size w1 w2) := HB.out.trans (hg2.1.mono HB.out.size)
          unfold keyV
          clear hg2
          go_wp2
          go_ret
          rw [HZ.out]
          have s2 := HB2.out.size
          have s1 := HG.out.1.size
          have h := oi_empty (w2.alloc (.cells #[.int .i64 0, .int .i64 0, .int .i64 0, .int .i64 0, .int .i64 0, .int .i64 0, .int .i64 0, .int .i64 0] 94)) 2
          have e : (w2.alloc (.cells #[.int .i64 0, .int .i64 0, .int .i64 0, .int .i64 0, .int .i64 0, .int .i64 0, .int .i64 0, .int .i64 0] 94)).heap.size = w2.heap.size + 1 := by simp
          rw [e] at h
          exact ⟨w2.heap.size + 1, 0, 0, rfl, by omega, h, HG.out.1.trans (((HB2.out.alloc s2 _).alloc (by simp; omega) _).mono s1)⟩
        | some i =>
          have HZ : Hid (nwT es k node = cl es i) := by rw [Hid, nwT, if_pos HOK.out, hl]
          have HL : Hid (lastB es node k = some i) := hl
          clear hl
          go_wp2_with fail
          refine (ofNode_any _ _).mono ?_
          rintro e w2 ⟨rfl, hg2⟩
          have hlk := look_some (HK.out.below hg2.1) HN.out HL.out
          have HB2 : Hid (Below w1.heap.size w1 w2) := HB.out.trans (hg2.1.mono HB.out.size)
          have hTold := fun (X : World) => told_any (el (cl es i)) X
          rw [ckI_of (cl_len es i)] at hTold
          unfold ckV at hTold
          have HTD : Hid _ := hTold
          unfold keyV
          clear hg2 hTold
          go_wp2_with fail
          refine (HTD.out _).mono ?_
          rintro e w3 ⟨G, o, c, rfl, hG, hO, hB3⟩
          have HO : Hid (OI w3 G o (cl es i).length c (cl es i)) := hO
          have HG3 : Hid (w2.heap.size ≤ G) := by simp at hG; rw [Hid]; omega
          have HB3 : Hid (Below w1.heap.size w1 w3) := (HB2.out.alloc HB2.out.size _).trans (hB3.mono (by have := HB2.out.size; simp; omega))
          clear hO hG hB3
          go_wp2
          go_ret
          rw [HZ.out]
          have s2 := HB2.out.size
          have s1 := HG.out.1.size
          have s3 := HG3.out
          exact ⟨G, o, c, rfl, by omega, HO.out, HG.out.1.trans (HB3.out.mono s1)⟩
end Go.Proofs.Ytacogcfdolmfpaa
