/-
  Several texts in one: Ifs.
-/
import Derived.Test.YtdlgcdoedfbeeaaGreatDoorHd
/-
  The contracts of the program's framesIn and Frames.
-/
namespace Go.Proofs.YtdlgcdoedfbeeaaGreatDoor
set_option linter.unusedSimpArgs false
set_option linter.unusedVariables false
open Go.RowKit Go.Sort Go.Shelf

/-- What framesIn answers. -/
def AnsIn (w w' : World) (a : Addr) (d : List UInt8) (e : Ending) : Prop := ∃ ts g off c, IsFrames d ts ∧ w.heap.size ≤ g ∧ OS w' g off ts.length c ts ∧ Below w.heap.size w w' ∧
  ((e = .returned (.tuple #[.slice (some ⟨g, off, none⟩) ts.length c, .nilIface]) ∧ (bytesOf ts).length = d.length) ∨ e = .returned (.tuple #[.slice (some ⟨g, off, none⟩) ts.length c, .iface 46 (errV ((bytesOf ts).length : Nat) a)]))
theorem no_begins_nil (t : List UInt8) : ¬ Begins [] t := fun h => by
  have := (begins_text h).2
  simp at this

attribute [local irreducible] sv
set_option maxRecDepth 100000 in
set_option maxHeartbeats 3200000 in
theorem framesIn_any (a : Addr) (d : List UInt8) (w : World) (hl : d.length ≤ 1048576) (hG : Glob a w) :
    Calls Tryz.prog 23 #[.string (sv d)] w fun e w' => AnsIn w w' a d e := by
  obtain ⟨i0, hi0, hz0, hz1, hz2⟩ := info_parts9 Tryz.info9
  have KGL : Hid (Glob a w) := hG
  clear hG
  have hsz := sv_size d
  have HO0 : Hid (OS (w.alloc (.cells #[] 9)) w.heap.size 0 0 0 []) := os_empty w 9
  have HB0 : Hid (Below w.heap.size w (w.alloc (.cells #[] 9))) := (Below.refl _ _).alloc (Nat.le_refl _) _
  go_enter Tryz.func23, Tryz.ntmps23
  go_wp2
  go_loopw [4, 5] (fun o x wr => ∃ (O : List (List UInt8)) (g og cg : Nat), o = .slice (some ⟨g, og, none⟩) O.length cg ∧ x = .int .i64 ((bytesOf O).length : Nat) ∧ w.heap.size ≤ g ∧ OS wr g og O.length cg O ∧ Rd d O ∧ Below w.heap.size w wr) (fun _ x _ => d.length - (intOf x).toNat)
  case atStart => exact ⟨[], w.heap.size, 0, 0, rfl, rfl, Nat.le_refl _, HO0.out, Rd.start d, HB0.out⟩
  case round =>
    obtain ⟨O, g, og, cg, rfl, rfl, hg, hO, hR, hb⟩ := hrel
    have KO : Hid (OS wr g og O.length cg O) := hO
    have KR : Hid (Rd d O) := hR
    have KB : Hid (Below w.heap.size w wr) := hb
    have KG : Hid (w.heap.size ≤ g) := hg
    have hle := hR.le
    have hcnt := hR.count
    have hF := frameAt_any a d (bytesOf O).length wr hl hle (KGL.out.below hb)
    have KN : Hid ((∀ t, ¬ Begins (d.drop (bytesOf O).length) t) → IsFrames d O) := fun h => isFrames_of hR.drop hR.small h
    have KX : Hid (∀ t, Begins (d.drop (bytesOf O).length) t → Rd d (O ++ [t])) := fun t ht => hR.next ht
    clear hO hR hb hg HO0 HB0
    have KL : Hid (∀ t, (bytesOf (O ++ [t])).length = (bytesOf O).length + (frL t).length) := fun t => by rw [bytesOf_snoc, List.length_append]
    obtain ⟨N, hN⟩ : ∃ N, (bytesOf O).length = N := ⟨_, rfl⟩
    have HNE : Hid ((bytesOf O).length = N) := hN
    rw [hN] at hle hF KN KX KL
    rw [hN]
    clear hN
    have n0 : (0 : Int) ≤ (N : Int) := by omega
    by_cases hend : N < d.length
    · have n1 : (N : Int) < (d.length : Int) := by omega
      go_wp2_with fail
      refine hF.mono ?_
      rintro e w1 ⟨hcase, hb1⟩
      have KB1 : Hid (Below w.heap.size w w1) := KB.out.trans (hb1.mono KB.out.size)
      have KO1 : Hid (OS w1 g og O.length cg O) := KO.out.below hb1 KO.out.blk
      have c1 := (KGL.out.below KB1.out).err
      clear hb1 hF
      rcases hcase with ⟨t, hBt, rfl⟩ | ⟨hno, rfl⟩
      · have KR' : Hid (Rd d (O ++ [t])) := KX.out t hBt
        have hle' := KR'.out.le
        have hpos := frL_pos t
        have ht2 := hBt.1
        rw [KL.out t] at hle'
        have KLt : Hid ((bytesOf (O ++ [t])).length = N + (frL t).length) := KL.out t
        have HFL : Hid (frameL t = frL t) := by rw [Hid, frameL, if_pos ht2]
        clear KN KX hBt KL
        go_wp2_with fail
        refine (is_nil a w1).mono ?_
        rintro e w2 ⟨rfl, hw2⟩
        subst hw2
        have hO1 : OSl (w2.alloc (.cells #[.string (sv t)] 9)) 1 g og O.length cg (svs O) := OSl.below KO1.out ((Below.refl _ _).alloc (Nat.le_refl _) _) KO1.out.blk
        go_wp2_with (at_builtin; refine wpList_append_os _ rfl _ _ 25 rfl 9 i0 _ 1 16 Tryz.underlying25 hi0 hz0 hz1 hz2 rfl (by omega) g og O.length cg _ rfl hO1 ⟨w2.heap.size, 0, none⟩ 1 1 [.string (sv t)] rfl rfl (World.news_of_block (cs := #[.string (sv t)]) (t := 9) (fr := (0, 0)) (heap_alloc_new _ _)) (by simp [Value.oneCell']) (by unfold maxLen; omega) (by omega) ?_; intro g6 o6 c6 w6 hO6 hg6 hat6)
        obtain ⟨p1, p2, p3⟩ := os_push KG.out KB1.out hO6 hg6 hat6
        have hFr := frame_any t w6 (by omega) (KGL.out.tab.below p3 (Nat.le_refl _))
        rw [HFL.out] at hFr
        have hszF := sv_size (frL t)
        have KP1 : Hid (w.heap.size ≤ g6) := p1
        have KP2 : Hid _ := p2
        have KP3 : Hid (Below w.heap.size w w6) := p3
        clear p1 p2 p3 hO6 hg6 hat6 hO1 c1
        refine hFr.mono ?_
        rintro e w7 ⟨rfl, hg7⟩
        have KP4 : Hid (Below w.heap.size w w7) := KP3.out.trans (hg7.1.mono KP3.out.size)
        have KP5 := KP2.out.below hg7.1 KP2.out.blk
        have KP6 : Hid _ := KP5
        clear hg7 KP5 hFr
        go_wp2
        go_roundw
        case rel => exact ⟨O ++ [t], g6, o6, c6, by rw [List.length_append]; rfl, by rw [KLt.out]; go_num, KP1.out, KP6.out, KR'.out, KP4.out⟩
        case measure => simp [intOf]; omega
      · have HF : Hid (IsFrames d O) := KN.out hno
        clear hno KN KX KL
        go_wp2_with fail
        refine (is_wrapped (N : Int) a w1).mono ?_
        rintro e w2 ⟨rfl, hb2⟩
        have KB2 : Hid (Below w.heap.size w w2) := KB1.out.trans (hb2.mono KB1.out.size)
        have KO2 : Hid (OS w2 g og O.length cg O) := KO1.out.below hb2 KO1.out.blk
        clear hb2
        go_wp2
        go_ret2
        exact ⟨O, g, og, cg, HF.out, KG.out, KO2.out, KB2.out, .inr (by rw [HNE.out]; rfl)⟩
    · have hNd : N = d.length := by omega
      have HF : Hid (IsFrames d O) := KN.out (by rw [hNd, List.drop_length]; exact no_begins_nil)
      have HND : Hid (N = d.length) := hNd
      clear KN KX KL hF
      have n1 : ¬ (N : Int) < (d.length : Int) := by omega
      clear hNd
      go_wp2
      go_ret2
      exact ⟨O, g, og, cg, HF.out, KG.out, KO.out, KB.out, .inl ⟨rfl, by rw [HNE.out]; exact HND.out⟩⟩

set_option maxRecDepth 100000 in
set_option maxHeartbeats 1600000 in
theorem frames_any (a : Addr) (d : List UInt8) (w : World) (hl : d.length ≤ 1048576) (hG : Glob a w) :
    Calls Tryz.prog 6 #[.string (sv d)] w fun e w' => ∃ ts, IsFrames d ts ∧ AnsF w w' e ts := by
  have KGL : Hid (Glob a w) := hG
  clear hG
  have hsz := sv_size d
  go_enter Tryz.func6, Tryz.ntmps6
  go_wp2_with fail
  refine (framesIn_any a d w hl KGL.out).mono ?_
  rintro e w1 ⟨ts, g, og, cg, hts, hg, hO, hb, hcase⟩
  have HTS : Hid (IsFrames d ts) := hts
  have KG : Hid (w.heap.size ≤ g) := hg
  have KO : Hid (OS w1 g og ts.length cg ts) := hO
  have KB : Hid (Below w.heap.size w w1) := hb
  clear hts hg hO hb
  have KB2 : Hid (Below w.heap.size w (w1.alloc (.cells #[.int .i64 0, .nilIface] 46))) := KB.out.alloc KB.out.size _
  have KO2 : Hid (OS (w1.alloc (.cells #[.int .i64 0, .nilIface] 46)) g og ts.length cg ts) := KO.out.below ((Below.refl _ _).alloc (Nat.le_refl _) _) KO.out.blk
  rcases hcase with ⟨rfl, hlen⟩ | rfl
  · have HL : Hid ((bytesOf ts).length = d.length) := hlen
    clear hlen
    go_wp2_with fail
    refine (as_nil _ _).mono ?_
    rintro e w2 ⟨rfl, hw2⟩
    subst hw2
    go_wp2
    go_ret2
    exact ⟨ts, HTS.out, g, og, cg, by rw [HL.out]; rfl, KG.out, KO2.out, KB2.out⟩
  · have hA := as_hit w1.heap.size ((bytesOf ts).length : Nat) a (.int .i64 0) .nilIface (w1.alloc (.cells #[.int .i64 0, .nilIface] 46)) (KGL.out.below KB2.out).typ
      (by simp) (by simp) (by simp) (by simp)
    obtain ⟨L, hL⟩ : ∃ L, (bytesOf ts).length = L := ⟨_, rfl⟩
    have HL : Hid ((bytesOf ts).length = L) := hL
    rw [hL] at hA
    rw [hL]
    clear hL
    go_wp2_with fail
    refine hA.mono ?_
    rintro e w2 ⟨rfl, hc, hb2⟩
    have KB3 : Hid (Below w.heap.size w w2) := KB2.out.trans (hb2.mono KB.out.size)
    have KO3 : Hid (OS w2 g og ts.length cg ts) := KO2.out.below hb2 KO.out.blk
    clear hA hb2
    go_wp2
    go_quiet (fail)
    go_wp2
    go_ret2
    exact ⟨ts, HTS.out, g, og, cg, by rw [HL.out]; rfl, KG.out, KO3.out.drewN _, belowN KB3.out⟩
theorem implFrames_any (a : Addr) (W : World) (hG : Glob a W) : ImplFrames W := fun d w hb hl => frames_any a d w hl (hG.below hb)
end Go.Proofs.YtdlgcdoedfbeeaaGreatDoor
