/-
  Several texts in one: Jls.
-/
import Derived.Test.YtbnpliobigjapaaDoorLd
import Derived.Test.YtbnpliobigjapaaDoorLj
import Derived.Test.YtbnpliobigjapaaDoorBui
import Derived.Test.YtbnpliobigjapaaDoorGy
/-
  The program's ShowLog: frames, one behind the other, by a builder.
-/
namespace Go.Proofs.YtbnpliobigjapaaDoor
set_option linter.unusedVariables false
set_option linter.unusedSimpArgs false
open Go.RowKit Go.Sort

/-- A builder stands where only new blocks are laid. -/
theorem bld_below {T e : TypeId} {B b : Nat} {bs : List Value} {w w' : World} (h : Lib.IsBuilder T e B b bs w) (hb : Below w.heap.size w w') : Lib.IsBuilder T e B b bs w' := by
  have hg : w.grownBy w' none := ⟨hb.os, hb.tape, hb.output, hb.size, fun x hx _ => hb.block x hx⟩
  rcases h with h | h
  · have hl := h.lt
    obtain ⟨hB, v, hk, ho, hn⟩ := h
    exact .inl ⟨hB, v, (hb.block b hl).trans hk, ho.kept (row := none) hg (Classical.em _), hn⟩
  · have hl := h.lt
    obtain ⟨hB, v, hk, ho, hn⟩ := h
    exact .inr ⟨hB, v, (hb.block b hl).trans hk, ho.kept (row := none) hg (Classical.em _), hn⟩
attribute [local irreducible] sv
set_option maxRecDepth 100000 in
set_option maxHeartbeats 3200000 in
theorem shwI_any (F : Int) (a : Option Addr) (cap : Nat) (T : List (List UInt8)) (w : World) (hv : TxS w a T) (hm : T.length ≤ 1048576) (hT : Tab w) :
    Calls Tryd.prog 10 #[lgV F a T.length cap] w fun e w' => e = .returned (.string (sv (showLg (F, T)))) ∧ Below w.heap.size w w' := by
  have hG0 : Grew w (w.alloc (.cells #[.int .i64 F, .slice a T.length cap] 26)) := (Grew.refl _).alloc _
  have hK := lgkI_any F a cap T _ (hv.grew hG0) (by unfold maxLen; omega)
  have hnil : (⟨#[]⟩ : ByteArray) = sv [] := by unfold sv; rfl
  have HN : Hid ((⟨#[]⟩ : ByteArray) = sv []) := hnil
  have hB : Bx (w.alloc (.cells #[.int .i64 F, .slice a T.length cap] 26)) w.heap.size 26 #[.int .i64 F, .slice a T.length cap] := Bx.new _ _ _
  have HV : Hid (TxS w a T) := hv
  have HT : Hid (Tab w) := hT
  unfold lgV at hK ⊢
  clear hnil hv hT
  by_cases hok : okLg (F, T)
  · rw [decide_eq_true hok] at hK
    obtain ⟨Fn, rfl⟩ : ∃ n : Nat, F = (n : Int) := ⟨F.toNat, by have := hok.1; simp only at this; omega⟩
    have h1 := hok.1
    have h40 := hok.2.1
    simp only at h1 h40
    have HZ : Hid (showLg ((Fn : Int), T) = bytesOf (linesL Fn T)) := by rw [Hid, showLg, if_pos hok]; rfl
    have HOK : Hid (okLg ((Fn : Int), T)) := hok
    clear hok
    go_enter Tryd.func10, Tryd.ntmps10
    go_wp2_with (go_at_call 17; refine hK.mono ?_; rintro e w2 ⟨rfl, hg2⟩; obtain ⟨x0, x1⟩ := (hB.below hg2.1).r2; have xa := (((hB.below hg2.1).alloc (.cells #[.pointer none, .slice none 0 0] 60)).r2).1; have xb := (((hB.below hg2.1).alloc (.cells #[.pointer none, .slice none 0 0] 60)).r2).2)
    have HB2 : Hid (Bx w2 w.heap.size 26 #[.int .i64 (Fn : Int), .slice a T.length cap]) := hB.below hg2.1
    have HW2 : Hid (Below w.heap.size w w2) := (hG0.trans hg2).1
    have HF0 : Hid (Lib.IsBuilder 60 5 w2.heap.size w2.heap.size (Lib.byteCells []) (w2.alloc (.cells #[.pointer none, .slice none 0 0] 60))) := Lib.fresh_isBuilder 60 5 w2
    have HB0 : Hid (Below w2.heap.size w2 (w2.alloc (.cells #[.pointer none, .slice none 0 0] 60))) := (Below.refl _ _).alloc (Nat.le_refl _) _
    clear hK hB hg2 x0 x1 xa xb
    go_loopw [12] (fun i wr => ∃ k : Nat, k ≤ T.length ∧ i = .int .i64 k ∧ Lib.IsBuilder 60 5 w2.heap.size w2.heap.size (Lib.byteCells (bytesOf ((linesL Fn T).take k))) wr ∧ Below w2.heap.size w2 wr) (fun i _ => T.length - (intOf i).toNat)
    case atStart => exact ⟨0, Nat.zero_le _, rfl, by rw [List.take_zero]; exact HF0.out, HB0.out⟩
    case round =>
      clear HF0 HB0
      obtain ⟨k, hk, rfl, hI0, hb⟩ := hrel
      have KI : Hid (Lib.IsBuilder 60 5 w2.heap.size w2.heap.size (Lib.byteCells (bytesOf ((linesL Fn T).take k))) wr) := hI0
      have HB : Hid (Below w2.heap.size w2 wr) := hb
      obtain ⟨x0, x1⟩ := (HB2.out.below hb).r2
      have hwb : Below w.heap.size w wr := HW2.out.trans (hb.mono HW2.out.size)
      clear hI0
      by_cases hlt : k < T.length
      · rcases HV.out.below hwb with h0 | ⟨b, off, rfl, hc⟩
        · omega
        have hck := hc k hlt
        have ht100 := HOK.out.2.2 k hlt
        simp only at ht100
        have HS : Hid (bytesOf ((linesL Fn T).take (k + 1)) = bytesOf ((linesL Fn T).take k) ++ frL (lineL (Fn + k) (T.getD k []))) := lines_step hlt
        have hA := show_take HOK.out k hk
        have hI := fun X => format_any (Fn + k) X (by omega)
        have hd7 := dec_len7 (n := Fn + k) (by omega)
        have hcast : ((Fn + k : Nat) : Int) = (Fn : Int) + (k : Int) := by omega
        rw [hcast] at hI
        have hwr : wrap64 ((Fn : Int) + (k : Int)) = (Fn : Int) + (k : Int) := by unfold wrap64; omega
        have k1 : (k : Int) < (T.length : Int) := by omega
        have k0 : (0 : Int) ≤ (k : Int) := by omega
        have HTr : Hid (Tab wr) := HT.out.below hwb (Nat.le_refl _)
        clear hc hcast hwb hb
        generalize T.getD k [] = t at *
        have hll : (lineL (Fn + k) t).length ≤ 108 := by simp only [lineL, List.length_append, List.length_cons]; omega
        have hF := fun X => frame_any (lineL (Fn + k) t) X (by omega)
        rw [frameL_small (by omega)] at hF
        have hfl : (frL (lineL (Fn + k) t)).length ≤ 121 := by
          have := headL_len (l := lineL (Fn + k) t) (by omega)
          rw [frL_len]; omega
        have HL : Hid (lineL (Fn + k) t = (dec (Fn + k) ++ [32]) ++ t) := by rw [Hid, lineL]; simp
        rw [HL.out] at hF
        rw [HL.out] at hfl HS
        generalize hA1 : bytesOf ((linesL Fn T).take (k + 1)) = A1 at *
        generalize bytesOf ((linesL Fn T).take k) = A0 at *
        generalize dec (Fn + k) = D at *
        have hW := fun X h => write_any w2.heap.size w2.heap.size A0 (frL ((D ++ [32]) ++ t)) X h (by omega)
        rw [← HS.out] at hW
        have s1 := sv_size D
        have s2 := sv_size t
        have a1 := sv_lit1 D 32
        have a2 := sv_app (D ++ [32]) t
        have t1 : (sv (D ++ [32])).size = D.length + 1 := by rw [sv_size]; simp
        generalize frL ((D ++ [32]) ++ t) = FR at *
        generalize (D ++ [32]) ++ t = LL at *
        generalize sv (D ++ [32]) = S1 at *
        clear HS HL hll
        go_wp2_with fail
        refine (hI _ HTr.out).mono ?_
        rintro e w3 ⟨rfl, hg3⟩
        have y3 : Below wr.heap.size wr w3 := hg3.1
        have HTr3 : Hid (Tab w3) := HTr.out.below y3 (Nat.le_refl _)
        clear hI
        go_wp2_with fail
        refine (hF _ HTr3.out).mono ?_
        rintro e w4 ⟨rfl, hg4⟩
        have y4 : Below wr.heap.size wr w4 := y3.trans (hg4.1.mono y3.size)
        have HI4 : Hid (Lib.IsBuilder 60 5 w2.heap.size w2.heap.size (Lib.byteCells A0) w4) := bld_below KI.out y4
        have HB4 : Hid (Below w2.heap.size w2 w4) := HB.out.trans (y4.mono HB.out.size)
        clear hF hg3 hg4 y3 y4 x0 x1 hck KI
        go_wp2_with fail
        refine (hW _ HI4.out HB4.out.size).mono ?_
        rintro e w5 ⟨rfl, h5, hb5⟩
        have KI5 : Hid (Lib.IsBuilder 60 5 w2.heap.size w2.heap.size (Lib.byteCells A1) w5) := h5
        have KB5 : Hid (Below w2.heap.size w2 w5) := HB4.out.trans hb5
        clear h5 hb5 hW
        go_wp2
        go_roundw
        case rel => exact ⟨k + 1, by omega, by go_num, by rw [hA1]; exact KI5.out, KB5.out⟩
        case measure => simp [intOf]; omega
      · have k1 : ¬ ((k : Int) < (T.length : Int)) := by omega
        have hjL : (linesL Fn T).take k = linesL Fn T := by rw [List.take_of_length_le]; rw [lines_len]; omega
        rw [hjL] at KI
        have C := string_any w2.heap.size w2.heap.size (bytesOf (linesL Fn T)) wr KI.out HB.out.size
        clear hb hjL
        go_wp2_with (go_at_call 40; refine C.mono ?_; rintro e w1 ⟨rfl, hb1⟩)
        have KB1 : Hid (Below w2.heap.size w2 w1) := HB.out.trans hb1
        clear hb1
        go_ret
        rw [HZ.out]
        exact ⟨rfl, HW2.out.trans (KB1.out.mono HW2.out.size)⟩
  · rw [decide_eq_false hok] at hK
    have HZ : Hid (showLg (F, T) = []) := by rw [Hid, showLg, if_neg hok]
    clear hok
    go_enter Tryd.func10, Tryd.ntmps10
    go_wp2_with (go_at_call 17; refine hK.mono ?_; rintro e w2 ⟨rfl, hg2⟩)
    go_ret
    rw [HZ.out, ← HN.out]
    exact ⟨rfl, (hG0.trans hg2).1⟩
theorem implShowLog (W : World) (hT : Tab W) : ImplShowLog W := fun F a cap T w hb hF hv hm hs => shwI_any F a cap T w hv.txs hm (hT.below hb (Nat.le_refl _))
end Go.Proofs.YtbnpliobigjapaaDoor
