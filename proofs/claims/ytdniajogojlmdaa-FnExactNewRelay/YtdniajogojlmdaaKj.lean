/-
  Several texts in one: Itd.
-/
import Derived.Test.YtdniajogojlmdaaKi
import Derived.Deep.CutRange
/-
  The program's told: a relay out of the set of who has what.
-/
namespace Go.Proofs.Ytdniajogojlmdaa
set_option linter.unusedVariables false
set_option linter.unusedSimpArgs false
open Go.RowKit Go.Sort

/-- The set holds just what the lists hold. -/
def MemA (Z : List (List Int)) (L : List (Int × Int)) : Prop := ∀ x y : Int, (x, y) ∈ L ↔ 0 ≤ x ∧ x < (Z.length : Int) ∧ y ∈ row Z x.toNat
theorem MemH.all {Z : List (List Int)} {L : List (Int × Int)} (h : MemH Z Z.length 0 L) : MemA Z L := fun x y => by
  rw [h x y]
  constructor
  · rintro (h | ⟨_, t, ht, _⟩)
    · exact h
    · omega
  · exact .inl
theorem MemA.at {Z : List (List Int)} {L : List (Int × Int)} (h : MemA Z L) {k : Nat} (hk : k < Z.length) (y : Int) : ((k : Int), y) ∈ L ↔ y ∈ row Z k := by
  rw [h]
  constructor
  · rintro ⟨_, _, h⟩; rwa [Int.toNat_natCast] at h
  · intro h; exact ⟨by omega, by omega, by rwa [Int.toNat_natCast]⟩
/-- Rising lists with the same numbers are the same. -/
theorem rising_eq : ∀ {a b : List Int}, a.Pairwise (· < ·) → b.Pairwise (· < ·) → (∀ q, q ∈ a ↔ q ∈ b) → a = b
  | [], [], _, _, _ => rfl
  | [], y :: b, _, _, h => absurd ((h y).2 (List.mem_cons_self ..)) (by simp)
  | x :: a, [], _, _, h => absurd ((h x).1 (List.mem_cons_self ..)) (by simp)
  | x :: a, y :: b, ha, hb, h => by
    rw [List.pairwise_cons] at ha hb
    have e : x = y := by
      have h1 := (h x).1 (List.mem_cons_self ..)
      have h2 := (h y).2 (List.mem_cons_self ..)
      rcases List.mem_cons.1 h1 with e | e
      · exact e
      · rcases List.mem_cons.1 h2 with e2 | e2
        · exact e2.symm
        · have := hb.1 x e; have := ha.1 y e2; omega
    subst e
    rw [rising_eq ha.2 hb.2 (fun q => ?_)]
    constructor
    · intro hq
      rcases List.mem_cons.1 ((h q).1 (List.mem_cons_of_mem _ hq)) with e | e
      · have := ha.1 q hq; omega
      · exact e
    · intro hq
      rcases List.mem_cons.1 ((h q).2 (List.mem_cons_of_mem _ hq)) with e | e
      · have := hb.1 q hq; omega
      · exact e
/-- Of the first j numbers those that are in h. -/
def pickL (h : List Int) (j : Nat) : List Int := (ints j).filter (fun q => decide (q ∈ h))
theorem pickL_succ (h : List Int) (j : Nat) : pickL h (j + 1) = if (j : Int) ∈ h then pickL h j ++ [(j : Int)] else pickL h j := by
  unfold pickL
  rw [ints_succ, List.filter_append]
  by_cases e : (j : Int) ∈ h <;> simp [e]
theorem pickL_len (h : List Int) (j : Nat) : (pickL h j).length ≤ j := by
  have := List.length_filter_le (fun q => decide (q ∈ h)) (ints j)
  rw [ints_len] at this
  exact this
theorem ints_rise (k : Nat) : (ints k).Pairwise (· < ·) := by
  rw [ints, List.pairwise_map]
  exact List.pairwise_lt_range.imp (fun h => by omega)
theorem mem_ints {k : Nat} {q : Int} : q ∈ ints k ↔ 0 ≤ q ∧ q < (k : Int) := by
  simp only [ints, List.mem_map, List.mem_range]
  constructor
  · rintro ⟨a, ha, rfl⟩; omega
  · rintro ⟨h1, h2⟩; exact ⟨q.toNat, by omega, by omega⟩
theorem pickL_all {B : Nat} {h : List Int} (hk : okRow (B : Int) h) : pickL h B = h := by
  obtain ⟨h1, h2⟩ := okRow_iff.1 hk
  refine rising_eq ((ints_rise B).filter _) h2 (fun q => ?_)
  simp only [pickL, List.mem_filter, decide_eq_true_eq, mem_ints]
  exact ⟨fun h => h.2, fun h => ⟨by have := h1 q h; omega, h⟩⟩

/-- What told holds: the relay, the answer's room, the new relay in block O with its lists in block R, the lists Z so far. -/
structure TD (w wr : World) (N B m O R : Nat) (Z : List (List Int)) (fp : Fp) : Prop where
  box : Bx wr w.heap.size 83 #[.int .i64 (N : Int), .int .i64 (B : Int), .map (some m)]
  res : Bx wr (w.heap.size + 1) 35 #[.int .i64 0, .int .i64 0, .slice none 0 0]
  out : Bx wr O 35 #[.int .i64 (N : Int), .int .i64 (B : Int), .slice (some ⟨R, 0, none⟩) N N]
  rows : ∃ us, OSl wr 1 R 0 N N us ∧ owL wr (Z.map icl) us fp
  fpl : ∀ b, fp b → w.heap.size + 3 < b
  hO : w.heap.size + 1 < O ∧ O ≤ w.heap.size + 3
  hR : w.heap.size + 1 < R ∧ R ≤ w.heap.size + 3
  ne : O ≠ R
  below : Below w.heap.size w wr
theorem TD.wrt {w wr w' : World} {N B m O R : Nat} {Z : List (List Int)} {fp f : Fp} (h : TD w wr N B m O R Z fp) (hw : Wrt f wr w') (hf : ∀ b, f b → w.heap.size + 3 < b ∧ ¬ fp b) : TD w w' N B m O R Z fp := by
  have h1 := h.hO
  have h2 := h.hR
  obtain ⟨us, hu, hL⟩ := h.rows
  exact ⟨h.box.wrt hw (fun k => by have := (hf _ k).1; omega), h.res.wrt hw (fun k => by have := (hf _ k).1; omega), h.out.wrt hw (fun k => by have := (hf _ k).1; omega), ⟨us, osl_wrt hu hw (fun k => by have := (hf _ k).1; omega), owL_wrt hL hw (fun b hb k => (hf b k).2 hb)⟩, h.fpl, h1, h2, h.ne,
    hw.below h.below h.below.size (fun b k => by have := (hf b k).1; omega)⟩
theorem TD.lt {w wr : World} {N B m O R : Nat} {Z : List (List Int)} {fp : Fp} (h : TD w wr N B m O R Z fp) : ∀ b, fp b → b < wr.heap.size := by
  obtain ⟨us, hu, hL⟩ := h.rows
  exact owL_lt hL
theorem td_rows {W : World} {N : Nat} (hN : N ≤ maxLen) : OSl (W.alloc (.cells (madeCells #[.slice none 0 0] N) 24)) 1 W.heap.size 0 N N (List.replicate N (.slice none 0 0)) := by
  have h := osl_made W #[.slice none 0 0] 1 N 24 rfl (by omega) hN
  have e : (List.replicate N (#[Value.slice none 0 0] : Array Value).toList).flatten = List.replicate N (.slice none 0 0) := by simp
  rw [e, Nat.mul_one] at h
  exact h
theorem td_start1 (w : World) (N B m : Nat) (hN : N ≤ maxLen) : TD w (((((w.alloc (.cells #[.int .i64 (N : Int), .int .i64 (B : Int), .map (some m)] 83)).alloc (.cells #[.int .i64 0, .int .i64 0, .slice none 0 0] 35)).alloc (.cells (madeCells #[.slice none 0 0] N) 24)).alloc (.cells #[.int .i64 (N : Int), .int .i64 (B : Int), .slice (some ⟨w.heap.size + 1 + 1, 0, none⟩) N N] 35)).drew) N B m (w.heap.size + 1 + 1 + 1) (w.heap.size + 1 + 1) (List.replicate N []) (fun _ => False) := by
  have hr := td_rows (W := (w.alloc (.cells #[.int .i64 (N : Int), .int .i64 (B : Int), .map (some m)] 83)).alloc (.cells #[.int .i64 0, .int .i64 0, .slice none 0 0] 35)) hN
  have h1 := Bx.new w 83 #[.int .i64 (N : Int), .int .i64 (B : Int), .map (some m)]
  have h2 := Bx.new (w.alloc (.cells #[.int .i64 (N : Int), .int .i64 (B : Int), .map (some m)] 83)) 35 #[.int .i64 0, .int .i64 0, .slice none 0 0]
  have h3 := Bx.new (((w.alloc (.cells #[.int .i64 (N : Int), .int .i64 (B : Int), .map (some m)] 83)).alloc (.cells #[.int .i64 0, .int .i64 0, .slice none 0 0] 35)).alloc (.cells (madeCells #[.slice none 0 0] N) 24)) 35 #[.int .i64 (N : Int), .int .i64 (B : Int), .slice (some ⟨w.heap.size + 1 + 1, 0, none⟩) N N]
  simp only [World.size_alloc] at hr h2 h3
  have hb : Below w.heap.size w (w.alloc (.cells #[.int .i64 (N : Int), .int .i64 (B : Int), .map (some m)] 83)) := one_alloc10 _ _
  refine ⟨(((h1.alloc _).alloc _).alloc _).drewN 1, ((h2.alloc _).alloc _).drewN 1, h3.drewN 1, ⟨_, OSl.drewN (osl_wrt hr (Wrt.of_below (f := fun _ => False) (one_alloc10 _ _)) id) 1, ?_⟩, fun b h => absurd h id, by omega, by omega, by omega, (((hb.alloc hb.size _).alloc (by simp; omega) _).alloc (by simp; omega) _).drew⟩
  rw [List.map_replicate]
  exact owL_nils N
theorem td_start2 (w : World) (N B m : Nat) (hN : N ≤ maxLen) : TD w (((((w.alloc (.cells #[.int .i64 (N : Int), .int .i64 (B : Int), .map (some m)] 83)).alloc (.cells #[.int .i64 0, .int .i64 0, .slice none 0 0] 35)).alloc (.cells #[.int .i64 (N : Int), .int .i64 (B : Int), .slice (some ⟨w.heap.size + 1 + 1 + 1, 0, none⟩) N N] 35)).alloc (.cells (madeCells #[.slice none 0 0] N) 24)).drew) N B m (w.heap.size + 1 + 1) (w.heap.size + 1 + 1 + 1) (List.replicate N []) (fun _ => False) := by
  have hr := td_rows (W := ((w.alloc (.cells #[.int .i64 (N : Int), .int .i64 (B : Int), .map (some m)] 83)).alloc (.cells #[.int .i64 0, .int .i64 0, .slice none 0 0] 35)).alloc (.cells #[.int .i64 (N : Int), .int .i64 (B : Int), .slice (some ⟨w.heap.size + 1 + 1 + 1, 0, none⟩) N N] 35)) hN
  have h1 := Bx.new w 83 #[.int .i64 (N : Int), .int .i64 (B : Int), .map (some m)]
  have h2 := Bx.new (w.alloc (.cells #[.int .i64 (N : Int), .int .i64 (B : Int), .map (some m)] 83)) 35 #[.int .i64 0, .int .i64 0, .slice none 0 0]
  have h3 := Bx.new ((w.alloc (.cells #[.int .i64 (N : Int), .int .i64 (B : Int), .map (some m)] 83)).alloc (.cells #[.int .i64 0, .int .i64 0, .slice none 0 0] 35)) 35 #[.int .i64 (N : Int), .int .i64 (B : Int), .slice (some ⟨w.heap.size + 1 + 1 + 1, 0, none⟩) N N]
  simp only [World.size_alloc] at hr h2 h3
  have hb : Below w.heap.size w (w.alloc (.cells #[.int .i64 (N : Int), .int .i64 (B : Int), .map (some m)] 83)) := one_alloc10 _ _
  refine ⟨(((h1.alloc _).alloc _).alloc _).drewN 1, ((h2.alloc _).alloc _).drewN 1, (h3.alloc _).drewN 1, ⟨_, OSl.drewN hr 1, ?_⟩, fun b h => absurd h id, by omega, by omega, by omega, (((hb.alloc hb.size _).alloc (by simp; omega) _).alloc (by simp; omega) _).drew⟩
  rw [List.map_replicate]
  exact owL_nils N
/-- One row is put. -/
theorem TD.put {w wr : World} {N B m O R k : Nat} {Z : List (List Int)} {fp f' : Fp} {r : List Int} {v' : Value} (h : TD w wr N B m O R Z fp) (hZ : Z.length = N) (hk : k < N) (hc : Cel.ow wr (icl r) v' f') (hf' : ∀ b, f' b → ¬ fp b ∧ w.heap.size + 3 < b) :
    (∃ u, wr.cell? ⟨R, k, none⟩ = some u) ∧ wr.frozen? ⟨R, k, none⟩ = false ∧ ∃ fp', TD w (wr.setCell ⟨R, k, none⟩ v') N B m O R (Z.set k r) fp' := by
  have h1 := h.hO
  have h2 := h.hR
  have hne := h.ne
  obtain ⟨us, hu, hL⟩ := h.rows
  obtain ⟨u, ft, hu2, hcu, hsub, hput⟩ := owL_at hL (map_row (by omega : k < Z.length))
  have hcell := (hu.cell k (by omega)).trans hu2
  have hfr := hu.free k (by omega)
  rw [Nat.zero_add] at hcell hfr
  have hw : Wrt (fun b => b = R) wr (wr.setCell ⟨R, k, none⟩ v') := Wrt.set wr R k v'
  have hlt : ∀ b, fp b → b < wr.heap.size := owL_lt hL
  refine ⟨⟨u, hcell⟩, hfr, fun b => f' b ∨ fp b ∧ ¬ ft b, h.box.wrt hw (by omega), h.res.wrt hw (by omega), h.out.wrt hw hne, ⟨us.set k v', ?_, ?_⟩, ?_, h1, h2, hne, h.below.setCell (p := ⟨R, k, none⟩) (show w.heap.size ≤ R by omega) _⟩
  · have := osl_put hu (j := k) (by omega) v'
    rw [Nat.zero_add] at this
    exact this
  · rw [List.map_set]
    exact hput _ (icl r) v' f' (by simp [World.setCell]) (Cel.ow_wrt hc hw (fun b hb e => by have := (hf' b hb).2; omega)) (fun b hb _ => hw.block b (hlt b hb) (fun e => by have := h.fpl b hb; omega)) (fun b hb hb2 => absurd hb2 (hf' b hb).1)
  · intro b hb
    rcases hb with hb | ⟨hb, _⟩
    · exact (hf' b hb).2
    · exact h.fpl b hb
/-- The lists so far. -/
def sofar (Z : List (List Int)) (k N : Nat) : List (List Int) := Z.take k ++ List.replicate (N - k) []
theorem sofar_len {Z : List (List Int)} {k N : Nat} (hZ : Z.length = N) (hk : k ≤ N) : (sofar Z k N).length = N := by simp [sofar]; omega
theorem sofar_set {Z : List (List Int)} {k N : Nat} (hZ : Z.length = N) (hk : k < N) : (sofar Z k N).set k (row Z k) = sofar Z (k + 1) N := by
  unfold sofar
  have e1 : (Z.take k).length = k := by simp; omega
  obtain ⟨d, hd⟩ : ∃ d, N - k = d + 1 := ⟨N - k - 1, by omega⟩
  have e2 : N - (k + 1) = d := by omega
  have e3 : row Z k = Z[k]'(by omega) := by simp [row, List.getD, show k < Z.length by omega]
  rw [hd, e2, List.replicate_succ, List.set_append_right _ _ (by omega), e1, Nat.sub_self, List.set_cons_zero, List.take_succ_eq_append_getElem (by omega), e3, List.append_assoc]
  rfl
theorem sofar_all {Z : List (List Int)} {N : Nat} (hZ : Z.length = N) : sofar Z N N = Z := by simp [sofar, ← hZ]

set_option maxRecDepth 100000 in
set_option maxHeartbeats 3200000 in
theorem tld_any (N B m : Nat) (Z : List (List Int)) (L : List (Int × Int)) (w : World) (hs : HS w m L) (hM : MemA Z L) (hok : okRel (N : Int) (B : Int) Z) :
    Calls Try.prog 79 #[.agg #[.int .i64 (N : Int), .int .i64 (B : Int), .map (some m)]] w fun e w' => ∃ a c, e = .returned (rlV (N : Int) (B : Int) a Z.length c) ∧ NewO w w' (iicl Z) (.slice a Z.length c) := by
  have hl : Z.length = N := by have := hok.2.2.1; omega
  have hN : 1 ≤ N ∧ N ≤ 12 := by have := hok.1; omega
  have hB : 1 ≤ B ∧ B ≤ 12 := by have := hok.2.1; omega
  have hmk := run_make_row' (P := Try.prog) 33 24 (.slice none 0 0) 24 Try.underlying33 infoSl10 rfl .i64 .i64 N (by omega) (by omega)
  obtain ⟨i0, hi0, hz0, hz1, hz2⟩ := info_parts2n Try.info2n
  have HS0 : Hid (HS w m L) := hs
  have HM : Hid (MemA Z L) := hM
  have HOK : Hid (okRel (N : Int) (B : Int) Z) := hok
  have HLN : Hid (Z.length = N) := hl
  clear hs hM hok hl
  go_enter Try.func79, Try.ntmps79
  go_wp2_with fail
  go_cut [3] from 7 to 14 (fun s3 wx => ∃ (O R : Nat) (fp : Fp), s3 = .pointer (some ⟨O, 0, none⟩) ∧ TD w wx N B m O R (sofar Z 0 N) fp)
  case first =>
    go_region
    all_goals (try go_wp2_with fail)
    all_goals go_meet
    all_goals first
      | exact ⟨_, _, _, rfl, td_start1 w N B m (by unfold maxLen; omega)⟩
      | exact ⟨_, _, _, rfl, td_start2 w N B m (by unfold maxLen; omega)⟩
  case rest =>
    obtain ⟨O, R, fp0, rfl, hT⟩ := hcut
    obtain ⟨b0, b1, b2⟩ := hT.box.r3
    have HT0 : Hid (TD w wc N B m O R (sofar Z 0 N) fp0) := hT
    clear hT hmk
    go_wp2_with fail
    clear b0 b1 b2
    go_loopw [17] (fun i wr => ∃ (k : Nat) (fp : Fp), k ≤ N ∧ i = .int .i64 k ∧ TD w wr N B m O R (sofar Z k N) fp) (fun i _ => N - (intOf i).toNat)
    case atStart => exact ⟨0, fp0, Nat.zero_le _, rfl, HT0.out⟩
    case round =>
      obtain ⟨k, fp, hk, rfl, hT⟩ := hrel
      by_cases hlt : k < N
      · have HT : Hid (TD w wr N B m O R (sofar Z k N) fp) := hT
        obtain ⟨b0, b1, b2⟩ := (hT.box.alloc (.cells #[] 2)).r3
        have HG : Hid (∀ b, fp b → b < wr.heap.size) := hT.lt
        have HB : Hid (w.heap.size + 3 < wr.heap.size) := by
          have := hT.out.lt
          obtain ⟨us, hu, _⟩ := hT.rows
          have h3 := hu.blk
          have := hT.ne
          have := hT.hO
          have := hT.hR
          rw [Hid]; omega
        have HL0 : Hid (TD w (wr.alloc (.cells #[] 2)) N B m O R (sofar Z k N) fp) := HT.out.wrt (f := fun _ => False) (Wrt.of_below (one_alloc10 _ _)) (fun b h => absurd h id)
        have HE : Hid (OSo (wr.alloc (.cells #[] 2)) 1 (some ⟨wr.heap.size, 0, none⟩) 0 0 [] (some wr.heap.size)) := OSo.of ⟨rfl, Nat.le_refl _, Nat.zero_le _, by simp, fun i hi => by omega, fun i hi => by omega, fun i hi => by omega⟩
        have HK : Hid (okRow (B : Int) (row Z k)) := HOK.out.2.2.2.2 k (by rw [HLN.out]; exact hlt)
        have HA : Hid (∀ y, ((k : Int), y) ∈ L ↔ y ∈ row Z k) := fun y => HM.out.at (by rw [HLN.out]; exact hlt) y
        clear hT HT
        generalize hPB : wr.heap.size = PB at *
        go_wp2_with fail
        clear b0 b1 b2
        go_loopw [5, 23] (fun v i wr => ∃ (j : Nat) (a5 : Option Addr) (c5 g5 : Nat), j ≤ B ∧ i = .int .i64 j ∧ v = .slice a5 (pickL (row Z k) j).length c5 ∧ OSo wr 1 a5 (pickL (row Z k) j).length c5 ((pickL (row Z k) j).map (Value.int .i64)) (some g5) ∧ PB ≤ g5 ∧ TD w wr N B m O R (sofar Z k N) fp) (fun _ i _ => B - (intOf i).toNat)
        case atStart => exact ⟨0, _, 0, PB, Nat.zero_le _, rfl, rfl, HE.out, Nat.le_refl _, HL0.out⟩
        case round =>
          obtain ⟨j, a5, c5, g5, hj, rfl, rfl, ho, hg5, hT⟩ := hrel
          by_cases hjl : j < B
          · have hH := hasH_any m L (k : Int) (j : Int) wr (HS0.out.below hT.below) (by omega) (by omega)
            obtain ⟨b0, b1, b2⟩ := hT.box.r3
            have hpl := pickL_len (row Z k) j
            have HT : Hid (TD w wr N B m O R (sofar Z k N) fp) := hT
            have HO5 : Hid (OSo wr 1 a5 (pickL (row Z k) j).length c5 ((pickL (row Z k) j).map (Value.int .i64)) (some g5)) := ho
            by_cases hm : (j : Int) ∈ row Z k
            · rw [decide_eq_true ((HA.out _).2 hm)] at hH
              have HP : Hid (pickL (row Z k) (j + 1) = pickL (row Z k) j ++ [(j : Int)]) := by rw [Hid, pickL_succ, if_pos hm]
              clear ho hT hm
              generalize hp0 : pickL (row Z k) j = P0 at *
              generalize hp1 : pickL (row Z k) (j + 1) = P1 at *
              go_wp2_with (first
                | (go_at_call 97; refine hH.mono ?_; rintro e w4 ⟨rfl, hg4⟩; have HT4 := HT.out.wrt (f := fun _ => False) (Wrt.of_below hg4.1) (fun b h => absurd h id); have ho4 := HO5.out.wrt (f := fun _ => False) (Wrt.of_below (hg4.1.trans (one_alloc10 w4 (.cells #[.int .i64 (j : Int)] 2) |>.mono hg4.1.size))) (fun b _ h => h))
                | (at_builtin; refine wpList_append_oo _ rfl _ _ _ rfl 2 i0 _ 1 8 Try.underlying24 hi0 hz0 hz1 hz2 rfl (by omega) a5 P0.length c5 _ (some g5) rfl ho4 (some ⟨w4.heap.size, 0, none⟩) 1 1 [.int .i64 (j : Int)] rfl rfl (.inr ⟨_, rfl, World.news_of_block (cs := #[.int .i64 (j : Int)]) (t := 2) (fr := (0, 0)) (heap_alloc_new w4 _)⟩) (by simp [Value.oneCell']) (by unfold maxLen; omega) (by omega) ?_; intro a6 c6 G6 w6 ho6 hg6 hat6))
              have HT6 : Hid (TD w w6 N B m O R (sofar Z k N) fp) := by
                have h5 := HT4.wrt (f := fun _ => False) (Wrt.of_below (one_alloc10 w4 (.cells #[.int .i64 (j : Int)] 2))) (fun b h => absurd h id)
                exact h5.wrt (Wrt.of_grown hg6) (fun b hb => by cases hb; exact ⟨by have := HB.out; omega, fun hf => by have := HG.out _ hf; omega⟩)
              obtain ⟨g6, rfl, hg6'⟩ : ∃ g6, G6 = some g6 ∧ PB ≤ g6 := by
                rcases hat6 with h | h
                · exact ⟨g5, h, hg5⟩
                · refine ⟨_, h, ?_⟩
                  have := hg4.1.size
                  have := HT.out.below.size
                  have h7 := HO5.out.lt rfl
                  simp; omega
              have HN : Hid (P1.length = P0.length + 1) := by rw [Hid, HP.out]; simp
              have HO6 : Hid (OSo w6 1 a6 P1.length c6 (P1.map (Value.int .i64)) (some g6)) := by
                rw [Hid, HN.out, HP.out, List.map_append]; exact ho6
              clear ho6 hg6 hat6 HT4 ho4
              go_wp2
              go_roundw
              case rel => exact ⟨j + 1, a6, c6, g6, by omega, by go_num, by rw [hp1, HN.out], by rw [hp1]; exact HO6.out, hg6', HT6.out⟩
              case measure => simp [intOf]; omega
            · rw [decide_eq_false (fun h => hm ((HA.out _).1 h))] at hH
              have HP : Hid (pickL (row Z k) (j + 1) = pickL (row Z k) j) := by rw [Hid, pickL_succ, if_neg hm]
              clear ho hT hm
              go_wp2_with (go_at_call 97; refine hH.mono ?_; rintro e w4 ⟨rfl, hg4⟩)
              go_roundw
              case rel => exact ⟨j + 1, a5, c5, g5, by omega, by go_num, by rw [HP.out], by rw [HP.out]; exact HO5.out.wrt (f := fun _ => False) (Wrt.of_below hg4.1) (fun b _ h => h), hg5, HT.out.wrt (f := fun _ => False) (Wrt.of_below hg4.1) (fun b h => absurd h id)⟩
              case measure => simp [intOf]; omega
          · have hje : j = B := by omega
            subst hje
            have HPA : Hid (pickL (row Z k) j = row Z k) := pickL_all HK.out
            rw [HPA.out] at ho
            obtain ⟨⟨u, q1⟩, q2, fp', hT'⟩ := hT.put (k := k) (r := row Z k) (v' := .slice a5 (row Z k).length c5) (f' := fun b => some g5 = some b) (sofar_len HLN.out (by omega)) hlt (ow_icl.2 ⟨a5, c5, some g5, rfl, ho, fun b => Iff.rfl⟩) (fun b hb => by cases hb; exact ⟨fun h => by have := HG.out _ h; omega, by have := HB.out; omega⟩)
            rw [sofar_set HLN.out hlt] at hT'
            have HT' : Hid (TD w (wr.setCell ⟨R, k, none⟩ (.slice a5 (row Z k).length c5)) N j m O R (sofar Z (k + 1) N) fp') := hT'
            obtain ⟨o0, o1, o2⟩ := hT.out.r3
            have k0 : (0 : Int) ≤ (k : Int) := by omega
            have k1 : (k : Int) < (N : Int) := by omega
            rw [HPA.out]
            clear ho hT hT'
            go_wp2
            go_roundw
            case rel => exact ⟨k + 1, fp', by omega, by go_num, HT'.out⟩
            case measure => simp [intOf]; omega
      · have hkl : k = N := by omega
        subst hkl
        rw [sofar_all HLN.out] at hT
        obtain ⟨o0, o1, o2⟩ := hT.out.r3
        obtain ⟨r0, r1, r2⟩ := hT.res.r3
        have f0 := hT.res.f 0
        have f1 := hT.res.f 1
        have f2 := hT.res.f 2
        have HF : Hid (NewO w (((wr.setCell ⟨w.heap.size + 1, 0, none⟩ (.int .i64 (k : Int))).setCell ⟨w.heap.size + 1, 1, none⟩ (.int .i64 (B : Int))).setCell ⟨w.heap.size + 1, 2, none⟩ (.slice (some ⟨R, 0, none⟩) k k)) (iicl Z) (.slice (some ⟨R, 0, none⟩) Z.length k)) := by
          have hw3 := wrt3 wr (w.heap.size + 1) (x := .int .i64 (k : Int)) (y := .int .i64 (B : Int)) (z := .slice (some ⟨R, 0, none⟩) k k)
          have h1 := hT.hR
          obtain ⟨us, hu, hL⟩ := hT.rows
          refine ⟨fun b => b = R ∨ fp b, ?_, fun b hb => ?_, below3 hT.below (by omega)⟩
          · rw [iicl, HLN.out]
            refine ⟨_, _, us, some R, fp, rfl, OSo.of (osl_wrt hu hw3 (by omega)), owL_wrt hL hw3 (fun b hb e => by have := hT.fpl b hb; omega), fun b hb h => by cases hb; have := hT.fpl _ h; omega, fun b => by simp [eq_comm]⟩
          · rcases hb with h | h
            · omega
            · have := hT.fpl b h; omega
        clear hT
        go_wp2
        refine bodyPost_ret (v := .agg #[.int .i64 (k : Int), .int .i64 (B : Int), .slice (some ⟨R, 0, none⟩) k k]) (by simp [results, Try.results79, go_sem, *]) rfl ?_
        exact ⟨some ⟨R, 0, none⟩, k, by rw [HLN.out]; rfl, HF.out⟩
end Go.Proofs.Ytdniajogojlmdaa
