/-
  Several texts in one: Bkm.
-/
import Derived.Test.YthlaaldicmfcnaaKm
import Derived.Test.YthlaaldicmfcnaaGs
import Derived.Test.YthlaaldicmfcnaaJn
/-
  Blocks in memory; the laws' own toBlockS, eqBlockS, likeBlocks, markBlockS, heldBlockS.
-/
namespace Go.Proofs.Ythlaaldicmfcnaa
set_option linter.unusedVariables false
set_option linter.unusedSimpArgs false
open Go.RowKit Go.Sort

theorem mixed11 : Try.prog.follows .mixedOrders = true := by kernel_rfl
theorem one_alloc10 (w : World) (o : Obj) : Below w.heap.size w (w.alloc o) := (Below.refl _ _).alloc (Nat.le_refl _) _
/-- Passes as cells. -/
def bvs (L : List Blk) : List Value := L.flatMap (fun c => [.int .i64 c.1, .int .i64 c.2.1, .string (sv c.2.2)])
theorem bvs_len (L : List Blk) : (bvs L).length = L.length * 3 := by
  induction L with
  | nil => rfl
  | cons c L ih => simp only [bvs, List.flatMap_cons, List.length_append, List.length_cons, List.length_nil] at ih ⊢; omega
theorem bvs_snoc (L : List Blk) (c : Blk) : bvs (L ++ [c]) = bvs L ++ [.int .i64 c.1, .int .i64 c.2.1, .string (sv c.2.2)] := by simp [bvs]
theorem bvs_at (L : List Blk) : ∀ i, i < L.length → (bvs L)[i * 3]? = some (.int .i64 (bat L i).1) ∧ (bvs L)[i * 3 + 1]? = some (.int .i64 (bat L i).2.1) ∧ (bvs L)[i * 3 + 2]? = some (.string (sv (bat L i).2.2)) := by
  induction L with
  | nil => intro i hi; simp at hi
  | cons c L ih =>
    intro i hi
    have e : bvs (c :: L) = .int .i64 c.1 :: .int .i64 c.2.1 :: .string (sv c.2.2) :: bvs L := by simp [bvs]
    rw [e]
    cases i with
    | zero => simp [bat]
    | succ i =>
      have := ih i (by simpa using hi)
      rw [show (i + 1) * 3 = i * 3 + 1 + 1 + 1 by omega]
      simpa [bat] using this
/-- A list of passes in a slice of one's own. -/
def OB (w : World) (g off n cap : Nat) (L : List Blk) : Prop := OSl w 3 g off n cap (bvs L)
theorem block_empty (w : World) (T : TypeId) : OB (w.alloc (.cells #[] T)) w.heap.size 0 0 0 [] :=
  ⟨rfl, Nat.le_refl _, Nat.zero_le _, by simp, fun i hi => by omega, fun i hi => by omega, fun i hi => by omega⟩
/-- An answer that is a list of passes. -/
def AnsB (w w' : World) (e : Ending) (L : List Blk) : Prop := ∃ g off c, e = .returned (.slice (some ⟨g, off, none⟩) L.length c) ∧ w.heap.size ≤ g ∧ OB w' g off L.length c L ∧ Below w.heap.size w w'
theorem infoBlock : (Try.prog.info? 46).map (fun i => (i.zero, i.size, i.bytes)) = some (some (.agg #[.int .i64 0, .int .i64 0, .string ⟨#[]⟩]), 3, 32) := by kernel_rfl
/-- A list of passes, to be read. -/
def BkS (w : World) (a : Option Addr) (n : Nat) (cs : List Blk) : Prop := cs.length = n ∧ (n = 0 ∨ ∃ b off, a = some ⟨b, off, none⟩ ∧ ∀ i, i < n → w.cell? ⟨b, off + i * 3, none⟩ = some (.int .i64 (bat cs i).1) ∧ w.cell? ⟨b, off + i * 3 + 1, none⟩ = some (.int .i64 (bat cs i).2.1) ∧ w.cell? ⟨b, off + i * 3 + 2, none⟩ = some (.string (sv (bat cs i).2.2)))
theorem BkS.below {w w' : World} {a : Option Addr} {n : Nat} {cs : List Blk} (h : BkS w a n cs) (hb : Below w.heap.size w w') : BkS w' a n cs := by
  refine ⟨h.1, ?_⟩
  rcases h.2 with h | ⟨b, off, ha, hc⟩
  · exact .inl h
  · exact .inr ⟨b, off, ha, fun i hi => by
      obtain ⟨h0, h1, h2⟩ := hc i hi
      exact ⟨(hb.cell (World.block_lt_of_cell? _ _ h0)).trans h0, (hb.cell (World.block_lt_of_cell? _ _ h1)).trans h1, (hb.cell (World.block_lt_of_cell? _ _ h2)).trans h2⟩⟩

theorem OB.length {w : World} {g off n cap : Nat} {L : List Blk} (h : OB w g off n cap L) : L.length = n := by
  have := h.len
  rw [bvs_len] at this
  omega
theorem OB.c0 {w : World} {g off n cap : Nat} {L : List Blk} (h : OB w g off n cap L) {i : Nat} (hi : i < n) : w.cell? ⟨g, off + i * 3, none⟩ = some (.int .i64 (bat L i).1) := by
  rw [h.cell (i * 3) (by omega)]
  exact (bvs_at L i (by rw [h.length]; exact hi)).1
theorem OB.c1 {w : World} {g off n cap : Nat} {L : List Blk} (h : OB w g off n cap L) {i : Nat} (hi : i < n) : w.cell? ⟨g, off + i * 3 + 1, none⟩ = some (.int .i64 (bat L i).2.1) := by
  rw [Nat.add_assoc, h.cell (i * 3 + 1) (by omega)]
  exact (bvs_at L i (by rw [h.length]; exact hi)).2.1
theorem OB.c2 {w : World} {g off n cap : Nat} {L : List Blk} (h : OB w g off n cap L) {i : Nat} (hi : i < n) : w.cell? ⟨g, off + i * 3 + 2, none⟩ = some (.string (sv (bat L i).2.2)) := by
  rw [Nat.add_assoc, h.cell (i * 3 + 2) (by omega)]
  exact (bvs_at L i (by rw [h.length]; exact hi)).2.2
theorem OB.below {w w' : World} {g off n cap B : Nat} {L : List Blk} (h : OB w g off n cap L) (hb : Below B w w') (hg : g < B) : OB w' g off n cap L := OSl.below h hb hg
def bcl (L : List Blk) : Cel := .sl 3 L.length (pl (bvs L))
theorem it_ob {w : World} {g off n c lo hi : Nat} {L : List Blk} (h : OB w g off n c L) (hn : L.length = n) (hg : lo ≤ g ∧ g < hi) : It w [bcl L] [.slice (some ⟨g, off, none⟩) n c] lo hi := by
  subst hn
  exact It.of1 (f := fun b => b = g) ⟨_, c, bvs L, some g, fun _ => False, rfl, OSo.of h, owL_pl.2 ⟨rfl, fun _ h => h⟩, fun _ _ h => h, fun b => by simp [eq_comm]⟩ (fun b hb => by rw [hb]; exact hg)
theorem it_bs {w : World} {a : Option Addr} {c lo hi : Nat} {L : List Blk} (h : It w [bcl L] [.slice a L.length c] lo hi) : BkS w a L.length L := by
  obtain ⟨a0, c0, us, e0, h1, h2, h3, h4, hL⟩ := h.vw1
  cases e0
  have e := vwL_pl.1 hL
  subst e
  refine ⟨rfl, ?_⟩
  rcases h4 with h4 | ⟨b, off, rfl, hc⟩
  · exact .inl h4
  · refine .inr ⟨b, off, rfl, fun i hi => ?_⟩
    obtain ⟨x0, x1, x2⟩ := bvs_at L i hi
    exact ⟨(hc _ (by omega)).trans x0, by rw [Nat.add_assoc]; exact (hc _ (by omega)).trans x1, by rw [Nat.add_assoc]; exact (hc _ (by omega)).trans x2⟩
theorem make_bs (n : Nat) (hn : n ≤ 1048576) (w : World) :
    (Instr.makeSlice 35 (.int .i64 (n : Int)) (.int .i64 (n : Int))).run Try.prog w = .ok (.slice (some ⟨w.heap.size, 0, none⟩) n n) (w.alloc (.cells (madeCells #[.int .i64 0, .int .i64 0, .string ⟨#[]⟩] (n * 3)) 46)) := by
  obtain ⟨i, hi, hz, hs, hb⟩ := info_parts2n infoBlock
  have hr := run_make (P := Try.prog) w 35 46 i _ Try.underlying35 hi hz .i64 .i64 n n (by omega) (Int.le_refl _) (by rw [hb]; omega) (by omega)
  simp only [Int.toNat_natCast, hs] at hr
  exact hr
theorem bvs_set : ∀ {L : List Blk} {k : Nat} (p : Blk), k < L.length → bvs (L.set k p) = (bvs L).take (k * 3) ++ [.int .i64 p.1, .int .i64 p.2.1, .string (sv p.2.2)] ++ (bvs L).drop (k * 3 + 3)
  | [], k, p, h => by simp at h
  | c :: L, 0, p, h => by simp [bvs]
  | c :: L, k + 1, p, h => by
    have ih := bvs_set (L := L) (k := k) p (by simpa using h)
    have e1 : ∀ (c : Blk) (L : List Blk), bvs (c :: L) = .int .i64 c.1 :: .int .i64 c.2.1 :: .string (sv c.2.2) :: bvs L := fun c L => by simp [bvs]
    rw [List.set_cons_succ, e1, e1, ih, show (k + 1) * 3 = k * 3 + 1 + 1 + 1 by omega, show k * 3 + 1 + 1 + 1 + 3 = k * 3 + 3 + 1 + 1 + 1 by omega]
    simp only [List.take_succ_cons, List.drop_succ_cons, List.cons_append]
theorem OB.put {w : World} {g off n cap k : Nat} {L : List Blk} (h : OB w g off n cap L) (hk : k < n) (p : Blk) :
    OB (((w.setCell ⟨g, off + k * 3, none⟩ (.int .i64 p.1)).setCell ⟨g, off + k * 3 + 1, none⟩ (.int .i64 p.2.1)).setCell ⟨g, off + k * 3 + 2, none⟩ (.string (sv p.2.2))) g off n cap (L.set k p) := by
  have hl := h.length
  have := osl_seg (vs := [.int .i64 p.1, .int .i64 p.2.1, .string (sv p.2.2)]) (k := k * 3) h (by simp; omega)
  unfold OB
  rw [bvs_set p (by omega)]
  exact this
def zbk : Blk := (0, 0, [])
def prtB (cs : List Blk) (k : Nat) : List Blk := cs.take k ++ List.replicate (cs.length - k) zbk
theorem prtB_set {H : List Blk} {k : Nat} (hk : k < H.length) : (prtB H k).set k (bat H k) = prtB H (k + 1) := by
  apply List.ext_getElem
  · simp [prtB]; omega
  · intro i h1 h2
    rw [List.getElem_set]
    have hi : i < H.length := by simp [prtB] at h1; omega
    by_cases e : k = i
    · subst e
      rw [if_pos rfl]
      simp [prtB, bat, List.getD, hk]
      rw [List.getElem_append_left (by simp; omega)]
      simp
    · rw [if_neg e]
      simp only [prtB]
      by_cases hlt : i < k
      · rw [List.getElem_append_left (by simp; omega), List.getElem_append_left (by simp; omega)]
        simp
      · rw [List.getElem_append_right (by simp; omega), List.getElem_append_right (by simp; omega)]
        simp
theorem ob_made (w : World) (n : Nat) (hn : n ≤ 1048576) : OB (w.alloc (.cells (madeCells #[.int .i64 0, .int .i64 0, .string ⟨#[]⟩] (n * 3)) 46)) w.heap.size 0 n n (List.replicate n zbk) := by
  have h := osl_made w #[.int .i64 0, .int .i64 0, .string ⟨#[]⟩] 3 n 46 rfl (by omega) (by unfold maxLen; omega)
  have e : bvs (List.replicate n zbk) = (List.replicate n (#[Value.int .i64 0, Value.int .i64 0, Value.string ⟨#[]⟩] : Array Value).toList).flatten := by
    induction n with
    | zero => rfl
    | succ n ih => rw [List.replicate_succ, List.replicate_succ, List.flatten_cons, ← ih (by omega) (osl_made w #[.int .i64 0, .int .i64 0, .string ⟨#[]⟩] 3 n 46 rfl (by omega) (by unfold maxLen; omega))]; simp [bvs, zbk, sv]
  unfold OB
  rw [e]
  exact h

set_option maxHeartbeats 400000 in
theorem toB1_any (x y : Int) (z : List UInt8) (w : World) : Calls Try.prog 74 #[.agg #[.int .i64 x, .int .i64 y, .string (sv z)]] w fun e w' => e = .returned (.agg #[.int .i64 x, .int .i64 y, .string (sv z)]) ∧ Grew w w' := by
  go_enter Try.func74, Try.ntmps74
  go_wp2
  refine bodyPost_ret (v := .agg #[.int .i64 x, .int .i64 y, .string (sv z)]) (by simp [results, Try.results74, go_sem]) rfl ?_
  exact ⟨rfl, (((Grew.refl _).alloc _).alloc _).alloc _⟩
set_option maxHeartbeats 400000 in
theorem eqB1_any (x y : Int) (z : List UInt8) (w : World) : Calls Try.prog 71 #[.agg #[.int .i64 x, .int .i64 y, .string (sv z)], .agg #[.int .i64 x, .int .i64 y, .string (sv z)]] w fun e w' => e = .returned (.bool true) ∧ Grew w w' := by
  have b0 : (x != x) = false := by simp
  have b1 : (y != y) = false := by simp
  have b2 : ((sv z).toList == (sv z).toList) = true := by simp
  go_enter Try.func71, Try.ntmps71
  go_wp2
  go_ret
  exact ⟨rfl, ((Grew.refl _).alloc _).alloc _⟩

set_option maxRecDepth 100000 in
set_option maxHeartbeats 1600000 in
theorem toBs_any (a : Option Addr) (len cap : Nat) (cs : List Blk) (w : World) (hv : BkS w a len cs) (hl : len ≤ 1048576) :
    Calls Try.prog 41 #[.slice a len cap] w fun e w' => e = .returned (.slice (some ⟨w.heap.size, 0, none⟩) len len) ∧ OB w' w.heap.size 0 len len cs ∧ Below w.heap.size w w' := by
  have HV : Hid (BkS w a len cs) := hv
  have HL : Hid (cs.length = len) := hv.1
  have hmk := make_bs len hl
  have HS : Hid (OB (w.alloc (.cells (madeCells #[.int .i64 0, .int .i64 0, .string ⟨#[]⟩] (len * 3)) 46)) w.heap.size 0 len len (prtB cs 0) ∧ Below w.heap.size w (w.alloc (.cells (madeCells #[.int .i64 0, .int .i64 0, .string ⟨#[]⟩] (len * 3)) 46))) := by
    refine ⟨?_, one_alloc10 _ _⟩
    have := ob_made w len hl
    have e : prtB cs 0 = List.replicate len zbk := by simp [prtB, hv.1]
    rw [e]
    exact this
  clear hv
  go_enter Try.func41, Try.ntmps41
  go_wp2_with fail
  clear hmk
  generalize w.alloc (.cells (madeCells #[.int .i64 0, .int .i64 0, .string ⟨#[]⟩] (len * 3)) 46) = W0 at *
  go_loopw [4] (fun i wr => ∃ k : Nat, k ≤ len ∧ i = .int .i64 k ∧ OB wr w.heap.size 0 len len (prtB cs k) ∧ Below w.heap.size w wr) (fun i _ => len - (intOf i).toNat)
  case atStart => exact ⟨0, Nat.zero_le _, rfl, HS.out.1, HS.out.2⟩
  case round =>
    obtain ⟨k, hk, rfl, ho, hb⟩ := hrel
    by_cases hlt : k < len
    · obtain ⟨_, h0 | ⟨pb, poff, rfl, hpc⟩⟩ := HV.out.below hb
      · omega
      obtain ⟨p0, p1, p2⟩ := hpc k hlt
      have k1 : (k : Int) < (len : Int) := by omega
      have k0 : (0 : Int) ≤ (k : Int) := by omega
      have HST : Hid (∀ w1 : World, Grew wr w1 → (∃ u0 u1 u2, w1.cell? ⟨w.heap.size, k * 3, none⟩ = some u0 ∧ w1.cell? ⟨w.heap.size, k * 3 + 1, none⟩ = some u1 ∧ w1.cell? ⟨w.heap.size, k * 3 + 2, none⟩ = some u2) ∧ (w1.frozen? ⟨w.heap.size, k * 3, none⟩ = false ∧ w1.frozen? ⟨w.heap.size, k * 3 + 1, none⟩ = false ∧ w1.frozen? ⟨w.heap.size, k * 3 + 2, none⟩ = false) ∧
          OB (((w1.setCell ⟨w.heap.size, k * 3, none⟩ (.int .i64 (bat cs k).1)).setCell ⟨w.heap.size, k * 3 + 1, none⟩ (.int .i64 (bat cs k).2.1)).setCell ⟨w.heap.size, k * 3 + 2, none⟩ (.string (sv (bat cs k).2.2))) w.heap.size 0 len len (prtB cs (k + 1)) ∧
          Below w.heap.size w (((w1.setCell ⟨w.heap.size, k * 3, none⟩ (.int .i64 (bat cs k).1)).setCell ⟨w.heap.size, k * 3 + 1, none⟩ (.int .i64 (bat cs k).2.1)).setCell ⟨w.heap.size, k * 3 + 2, none⟩ (.string (sv (bat cs k).2.2)))) := fun w1 hg => by
        have o1 := ho.below hg.1 ho.blk
        have hbw := hb.trans (hg.1.mono hb.size)
        have hput := OB.put o1 hlt (bat cs k)
        rw [prtB_set (by rw [HL.out]; exact hlt)] at hput
        simp only [Nat.zero_add] at hput
        have c0 := o1.c0 hlt
        have c1 := o1.c1 hlt
        have c2 := o1.c2 hlt
        have f0 := o1.free (k * 3) (by omega)
        have f1 := o1.free (k * 3 + 1) (by omega)
        have f2 := o1.free (k * 3 + 2) (by omega)
        simp only [Nat.zero_add] at c0 c1 c2 f0 f1 f2
        exact ⟨⟨_, _, _, c0, c1, c2⟩, ⟨f0, f1, f2⟩, hput, ((hbw.setCell (p := ⟨w.heap.size, k * 3, none⟩) (Nat.le_refl _) _).setCell (p := ⟨w.heap.size, k * 3 + 1, none⟩) (Nat.le_refl _) _).setCell (p := ⟨w.heap.size, k * 3 + 2, none⟩) (Nat.le_refl _) _⟩
      clear ho hb hpc
      generalize (bat cs k).1 = x at *
      generalize (bat cs k).2.1 = y at *
      generalize (bat cs k).2.2 = z at *
      go_wp2_with fail
      refine (toB1_any x y z wr).mono ?_
      rintro e w1 ⟨rfl, hg1⟩
      obtain ⟨⟨u0, u1, u2, c0, c1, c2⟩, ⟨f0, f1, f2⟩, hput, hbw⟩ := HST.out w1 hg1
      clear hg1 p0 p1 p2
      go_wp2
      go_roundw
      case rel => exact ⟨k + 1, by omega, by go_num, hput, hbw⟩
      case measure => simp [intOf]; omega
    · have e : len = k := by omega
      subst e
      have e1 : prtB cs len = cs := by rw [← HL.out]; simp [prtB]
      rw [e1] at ho
      go_wp2
      go_ret
      exact ⟨rfl, ho, hb⟩
set_option maxRecDepth 100000 in
set_option maxHeartbeats 1600000 in
theorem eqBsV_any (a a' : Option Addr) (n cap cap' : Nat) (L : List Blk) (w : World) (hc : BkS w a n L) (hc' : BkS w a' n L) (hm : n ≤ maxLen) :
    Calls Try.prog 37 #[.slice a n cap, .slice a' n cap'] w fun e w' => e = .returned (.bool true) ∧ Grew w w' := by
  unfold maxLen at hm
  have HC : Hid (BkS w a n L) := hc
  have HC' : Hid (BkS w a' n L) := hc'
  have hbb : ((n : Int) != (n : Int)) = false := by simp
  clear hc hc'
  go_enter Try.func37, Try.ntmps37
  go_wp2
  go_loopw [5] (fun i wr => ∃ k : Nat, k ≤ n ∧ i = .int .i64 k ∧ Grew w wr) (fun i _ => n - (intOf i).toNat)
  case atStart => exact ⟨0, Nat.zero_le _, rfl, Grew.refl _⟩
  case round =>
    obtain ⟨k, hk, rfl, hgr⟩ := hrel
    have HG : Hid (Grew w wr) := hgr
    by_cases hlt : k < n
    · obtain ⟨_, h0 | ⟨b, off, rfl, hcs⟩⟩ := HC.out.below hgr.1
      · omega
      obtain ⟨_, h0 | ⟨b', off', rfl, hcs'⟩⟩ := HC'.out.below hgr.1
      · omega
      obtain ⟨c0, c1, c2⟩ := hcs k hlt
      obtain ⟨d0, d1, d2⟩ := hcs' k hlt
      have p0 := fun n os => (Grew.of_grow wr n os).cell c0
      have p1 := fun n os => (Grew.of_grow wr n os).cell c1
      have p2 := fun n os => (Grew.of_grow wr n os).cell c2
      have q0 := fun n os => (Grew.of_grow wr n os).cell d0
      have q1 := fun n os => (Grew.of_grow wr n os).cell d1
      have q2 := fun n os => (Grew.of_grow wr n os).cell d2
      have hE := fun X => eqB1_any (bat L k).1 (bat L k).2.1 (bat L k).2.2 X
      have hi1 : (k : Int) < (n : Int) := by omega
      have hi0 : (0 : Int) ≤ (k : Int) := by omega
      clear hgr c0 c1 c2 d0 d1 d2 hcs hcs'
      go_wp2_with fail
      have hmix := mixed11
      go_quiet_grown (first | (go_at_call 71; exact grown_at (hE _)))
      go_wp2
      go_roundw
      case rel => exact ⟨k + 1, by omega, by go_num, HG.out.trans (Grew.of_grow _ _ _)⟩
      case measure => simp [intOf]; omega
    · go_wp2
      go_ret
      exact ⟨rfl, HG.out⟩

set_option maxRecDepth 100000 in
set_option maxHeartbeats 1600000 in
theorem likeBsV_any (a a' : Option Addr) (n cap cap' : Nat) (L : List Blk) (w : World) (hc : BkS w a n L) (hc' : BkS w a' n L) (hm : n ≤ maxLen) :
    Calls Try.prog 32 #[.slice a n cap, .slice a' n cap'] w fun e w' => e = .returned (.bool true) ∧ Grew w w' := by
  unfold maxLen at hm
  have HC : Hid (BkS w a n L) := hc
  have HC' : Hid (BkS w a' n L) := hc'
  have hbb : ((n : Int) != (n : Int)) = false := by simp
  clear hc hc'
  go_enter Try.func32, Try.ntmps32
  go_wp2
  go_loopw [5] (fun i wr => ∃ k : Nat, k ≤ n ∧ i = .int .i64 k ∧ ∃ q, wr = w.drewN q) (fun i _ => n - (intOf i).toNat)
  case atStart => exact ⟨0, Nat.zero_le _, rfl, 0, rfl⟩
  case round =>
    obtain ⟨k, hk, rfl, q, rfl⟩ := hrel
    by_cases hlt : k < n
    · obtain ⟨_, h0 | ⟨b, off, rfl, hcs⟩⟩ := HC.out
      · omega
      obtain ⟨_, h0 | ⟨b', off', rfl, hcs'⟩⟩ := HC'.out
      · omega
      obtain ⟨c0, c1, c2⟩ := hcs k hlt
      obtain ⟨d0, d1, d2⟩ := hcs' k hlt
      have hi1 : (k : Int) < (n : Int) := by omega
      have hi0 : (0 : Int) ≤ (k : Int) := by omega
      clear hcs hcs'
      generalize (bat L k).1 = x at *
      generalize (bat L k).2.1 = y at *
      generalize (bat L k).2.2 = z at *
      have hzz : ((sv z).toList == (sv z).toList) = true := by simp
      have hmix := mixed11
      go_wp2_with fail
      go_quiet (fail)
      go_wp2
      go_roundw
      case rel => exact ⟨k + 1, by omega, by go_num, _, rfl⟩
      case measure => simp [intOf]; omega
    · go_wp2
      go_ret
      exact ⟨rfl, (Grew.refl _).drewN _⟩

set_option maxHeartbeats 400000 in
theorem markB0_any (a : Option Addr) (cap : Nat) (q : Int) (w : World) : Calls Try.prog 38 #[.slice a 0 cap, .int .i64 q] w fun e w' => e = .returned (.int .i64 q) ∧ w' = w := by
  go_enter Try.func38, Try.ntmps38
  go_wp2
  go_loop [1, 5] (fun p i => i = .int .i64 0 ∧ p = .int .i64 q) (fun _ _ => 0)
  case atStart => exact ⟨rfl, rfl⟩
  case round =>
    obtain ⟨rfl, rfl⟩ := hrel
    go_wp2
    go_ret
    exact ⟨rfl, rfl⟩
set_option maxHeartbeats 400000 in
theorem heldB0_any (a : Option Addr) (cap : Nat) (q : Int) (w : World) : Calls Try.prog 39 #[.slice a 0 cap, .int .i64 q] w fun e w' => e = .returned (.int .i64 q) ∧ w' = w := by
  go_enter Try.func39, Try.ntmps39
  go_wp2
  go_loop [1, 5] (fun p i => i = .int .i64 0 ∧ p = .int .i64 q) (fun _ _ => 0)
  case atStart => exact ⟨rfl, rfl⟩
  case round =>
    obtain ⟨rfl, rfl⟩ := hrel
    go_wp2
    go_ret
    exact ⟨rfl, rfl⟩


/-- The marks of blocks. -/
def mkb (k0 i : Nat) : Blk := (((k0 + i * 3 : Nat) : Int), ((k0 + i * 3 + 1 : Nat) : Int), mtL (k0 + i * 3 + 2))
def mksB (n k0 : Nat) : List Blk := (List.range n).map (mkb k0)
def mkB (L : List Blk) (k0 j : Nat) : List Blk := (List.range j).map (mkb k0) ++ L.drop j
theorem mkB_zero (L : List Blk) (k0 : Nat) : mkB L k0 0 = L := by simp [mkB]
theorem mkB_step {L : List Blk} {k0 j : Nat} (h : j < L.length) : (mkB L k0 j).set j (mkb k0 j) = mkB L k0 (j + 1) := by
  have hd : L.drop j = L[j] :: L.drop (j + 1) := List.drop_eq_getElem_cons h
  unfold mkB
  rw [List.set_append_right _ _ (by simp), List.length_map, List.length_range, Nat.sub_self, hd, List.set_cons_zero, List.range_succ, List.map_append, List.append_assoc]
  rfl
theorem mkB_done (L : List Blk) (k0 : Nat) : mkB L k0 L.length = mksB L.length k0 := by simp [mkB, mksB]
theorem mkB_len {L : List Blk} {k0 j : Nat} (h : j ≤ L.length) : (mkB L k0 j).length = L.length := by simp [mkB]; omega
theorem bat_mksB {n k0 i : Nat} (h : i < n) : bat (mksB n k0) i = mkb k0 i := by simp [bat, mksB, List.getD, h]
theorem bvs_set3 : ∀ {L : List Blk} {k : Nat} (p : Blk), k < L.length → (((bvs L).set (k * 3) (.int .i64 p.1)).set (k * 3 + 1) (.int .i64 p.2.1)).set (k * 3 + 2) (.string (sv p.2.2)) = bvs (L.set k p)
  | [], k, p, h => by simp at h
  | c :: L, 0, p, h => by simp [bvs]
  | c :: L, k + 1, p, h => by
    have ih := bvs_set3 (L := L) (k := k) p (by simpa using h)
    have e1 : ∀ (c : Blk) (L : List Blk), bvs (c :: L) = .int .i64 c.1 :: .int .i64 c.2.1 :: .string (sv c.2.2) :: bvs L := fun c L => by simp [bvs]
    rw [List.set_cons_succ, e1, e1, ← ih, show (k + 1) * 3 = k * 3 + 1 + 1 + 1 by omega, show k * 3 + 1 + 1 + 1 + 1 = k * 3 + 1 + 1 + 1 + 1 by rfl]
    simp only [List.set_cons_succ, show k * 3 + 1 + 1 + 1 + 2 = k * 3 + 2 + 1 + 1 + 1 by omega]
attribute [local irreducible] sv
set_option maxRecDepth 100000 in
set_option maxHeartbeats 1600000 in
theorem markBs_any (g off cap n k0 : Nat) (L : List Blk) (w : World) (ho : OB w g off n cap L) (hk1 : 1 ≤ k0) (hn : n ≤ 2000000) (hk0 : k0 ≤ 10000000) :
    Calls Try.prog 38 #[.slice (some ⟨g, off, none⟩) n cap, .int .i64 (k0 : Int)] w fun e w' => e = .returned (.int .i64 ((k0 + n * 3 : Nat) : Int)) ∧ OB w' g off n cap (mksB n k0) ∧ w.grownBy w' (some g) := by
  have hzl := ho.length
  subst hzl
  have HO0 : Hid (OB w g off L.length cap L) := ho
  clear ho
  go_enter Try.func38, Try.ntmps38
  go_wp2
  go_loopw [1, 5] (fun q i wr => ∃ j : Nat, j ≤ L.length ∧ i = .int .i64 j ∧ q = .int .i64 ((k0 + j * 3 : Nat) : Int) ∧ OB wr g off L.length cap (mkB L k0 j) ∧ w.grownBy wr (some g)) (fun _ i _ => L.length - (intOf i).toNat)
  case atStart => exact ⟨0, Nat.zero_le _, rfl, rfl, by rw [mkB_zero]; exact HO0.out, grown_refl _ _⟩
  case round =>
    obtain ⟨j, hj, rfl, rfl, hown, ht⟩ := hrel
    clear HO0
    by_cases hlt : j < L.length
    · have hM : ∀ X, Calls Try.prog 72 #[.int .i64 (((k0 + j * 3 : Nat) : Int) + 1 + 1)] X fun e w' => e = .returned (.string (sv (mtL (k0 + j * 3 + 2)))) ∧ Below X.heap.size X w' := fun X => by
        have := markText_any (k0 + j * 3 + 2) X (by omega) (by omega)
        rwa [show ((k0 + j * 3 + 2 : Nat) : Int) = ((k0 + j * 3 : Nat) : Int) + 1 + 1 by omega] at this
      have HST : Hid ((mkB L k0 j).set j (mkb k0 j) = mkB L k0 (j + 1)) := mkB_step hlt
      have HMK : Hid (mkb k0 j = (((k0 + j * 3 : Nat) : Int), ((k0 + j * 3 : Nat) : Int) + 1, mtL (k0 + j * 3 + 2))) := by rw [Hid, mkb]; simp
      have HLN : Hid ((mkB L k0 j).length = L.length) := mkB_len hj
      have c0 := hown.c0 hlt
      have c1 := hown.c1 hlt
      have hle := hown.le
      have f0 := hown.free (j * 3) (by omega)
      have f1 := hown.free (j * 3 + 1) (by omega)
      rw [← Nat.add_assoc] at f1
      have j1 : (j : Int) < (L.length : Int) := by omega
      have j0 : (0 : Int) ≤ (j : Int) := by omega
      have hK9 : k0 + j * 3 ≤ 20000000 := by omega
      have HK3 : Hid (k0 + (j + 1) * 3 = k0 + j * 3 + 3) := by rw [Hid]; omega
      generalize hMT : mtL (k0 + j * 3 + 2) = MT at *
      generalize hKK : k0 + j * 3 = KK at *
      clear hMT hKK
      have OW : Hid (OSl wr 3 g off L.length cap (bvs (mkB L k0 j))) := hown
      have HT : Hid (w.grownBy wr (some g)) := ht
      have O2 : Hid (OSl ((wr.setCell ⟨g, off + j * 3, none⟩ (.int .i64 (KK : Int))).setCell ⟨g, off + j * 3 + 1, none⟩ (.int .i64 ((KK : Int) + 1))) 3 g off L.length cap (((bvs (mkB L k0 j)).set (j * 3) (.int .i64 (KK : Int))).set (j * 3 + 1) (.int .i64 ((KK : Int) + 1)))) := by
        have h1 := osl_put (j := j * 3 + 1) (osl_put (j := j * 3) OW.out (by omega) (.int .i64 (KK : Int))) (by omega) (.int .i64 ((KK : Int) + 1))
        rw [← Nat.add_assoc] at h1
        exact h1
      have G2 : Hid (w.grownBy ((wr.setCell ⟨g, off + j * 3, none⟩ (.int .i64 (KK : Int))).setCell ⟨g, off + j * 3 + 1, none⟩ (.int .i64 ((KK : Int) + 1))) (some g)) := grown_set (grown_set HT.out _ _) _ _
      clear hown ht
      generalize (bat (mkB L k0 j) j).1 = x0 at *
      generalize (bat (mkB L k0 j) j).2.1 = x1 at *
      go_wp2_with fail
      clear c0 c1 f0 f1
      refine (hM _).mono ?_
      rintro e w1 ⟨rfl, hb1⟩
      have O3 : Hid (OSl w1 3 g off L.length cap (((bvs (mkB L k0 j)).set (j * 3) (.int .i64 (KK : Int))).set (j * 3 + 1) (.int .i64 ((KK : Int) + 1)))) := OSl.below O2.out hb1 O2.out.blk
      have G3 : Hid (w.grownBy w1 (some g)) := grown_trans G2.out ⟨hb1.os, hb1.tape, hb1.output, hb1.size, fun x hx _ => hb1.block x hx⟩
      obtain ⟨x2, hx2⟩ := Option.isSome_iff_exists.1 (O3.out.some (j * 3 + 2) (by omega))
      have f2 := O3.out.free (j * 3 + 2) (by omega)
      rw [← Nat.add_assoc] at hx2 f2
      have KO : Hid (OB (w1.setCell ⟨g, off + j * 3 + 2, none⟩ (.string (sv MT))) g off L.length cap (mkB L k0 (j + 1))) := by
        have h1 := osl_put (j := j * 3 + 2) O3.out (by omega) (.string (sv MT))
        have h2 := bvs_set3 (L := mkB L k0 j) (k := j) ((KK : Int), (KK : Int) + 1, MT) (by rw [HLN.out]; exact hlt)
        simp only [] at h2
        rw [h2, ← HMK.out, HST.out, ← Nat.add_assoc] at h1
        exact h1
      have KG : Hid (w.grownBy (w1.setCell ⟨g, off + j * 3 + 2, none⟩ (.string (sv MT))) (some g)) := grown_set G3.out _ _
      clear hM hb1
      go_wp2
      go_roundw
      case rel => exact ⟨j + 1, by omega, by go_num, by rw [HK3.out]; go_num, KO.out, KG.out⟩
      case measure => simp [intOf]; omega
    · have hjl : j = L.length := by omega
      subst hjl
      have HD : Hid (OB wr g off L.length cap (mksB L.length k0)) := by rw [Hid, ← mkB_done]; exact hown
      go_wp2
      go_ret
      exact ⟨ret_int (by omega), HD.out, ht⟩

set_option maxRecDepth 100000 in
set_option maxHeartbeats 1600000 in
theorem heldBs_any (g off cap n : Nat) (w : World) (ho : OB w g off n cap (mksB n 1)) (hn : n ≤ 1000000) :
    Calls Try.prog 39 #[.slice (some ⟨g, off, none⟩) n cap, .int .i64 1] w fun e w' => e = .returned (.int .i64 ((1 + n * 3 : Nat) : Int)) ∧ Below w.heap.size w w' := by
  have HO0 : Hid (OB w g off n cap (mksB n 1)) := ho
  have hmix := mixed11
  clear ho
  go_enter Try.func39, Try.ntmps39
  go_wp2
  go_loopw [1, 5] (fun q i wr => ∃ j : Nat, j ≤ n ∧ i = .int .i64 j ∧ q = .int .i64 ((1 + j * 3 : Nat) : Int) ∧ Below w.heap.size w wr) (fun _ i _ => n - (intOf i).toNat)
  case atStart => exact ⟨0, Nat.zero_le _, rfl, rfl, Below.refl _ _⟩
  case round =>
    obtain ⟨j, hj, rfl, rfl, hb⟩ := hrel
    have HB : Hid (Below w.heap.size w wr) := hb
    clear hb
    by_cases hlt : j < n
    · have hM : ∀ X, Calls Try.prog 72 #[.int .i64 (((1 + j * 3 : Nat) : Int) + 1 + 1)] X fun e w' => e = .returned (.string (sv (mtL (1 + j * 3 + 2)))) ∧ Below X.heap.size X w' := fun X => by
        have := markText_any (1 + j * 3 + 2) X (by omega) (by omega)
        rwa [show ((1 + j * 3 + 2 : Nat) : Int) = ((1 + j * 3 : Nat) : Int) + 1 + 1 by omega] at this
      have HO := HO0.out.below HB.out HO0.out.blk
      have c0 := HO.c0 hlt
      have c1 := HO.c1 hlt
      have c2 := HO.c2 hlt
      rw [bat_mksB hlt] at c0 c1 c2
      simp only [mkb] at c0 c1 c2
      have e1 : ((1 + j * 3 + 1 : Nat) : Int) = ((1 + j * 3 : Nat) : Int) + 1 := by omega
      rw [e1] at c1
      have hK9 : 1 + j * 3 ≤ 20000000 := by omega
      have HK3 : Hid (1 + (j + 1) * 3 = 1 + j * 3 + 3) := by rw [Hid]; omega
      have j1 : (j : Int) < (n : Int) := by omega
      have j0 : (0 : Int) ≤ (j : Int) := by omega
      generalize mtL (1 + j * 3 + 2) = MT at *
      generalize 1 + j * 3 = KK at *
      have hq : ((sv MT).toList == (sv MT).toList) = true := by simp
      have q0 : ((KK : Int) != (KK : Int)) = false := by simp
      have q1 : ((KK : Int) + 1 != (KK : Int) + 1) = false := by simp
      have hS : ∀ X, Below wr.heap.size wr X → X.cell? ⟨g, off + j * 3 + 2, none⟩ = some (.string (sv MT)) := fun X hX => (hX.cell (World.block_lt_of_cell? _ _ c2)).trans c2
      have bd : Below wr.heap.size wr (wr.drewN 1) := belowN (Below.refl _ _)
      clear HO e1
      go_wp2_with fail
      go_region_held3 (fun X => X.cell? ⟨g, off + j * 3 + 2, none⟩ = some (.string (sv MT)))
        (first
          | exact hS _ b1
          | exact hS _ bd)
        (first
          | (go_at_call 72; refine (hM _).mono ?_; rintro e w1 ⟨rfl, hb1⟩; have b1 : Below wr.heap.size wr w1 := bd.trans (hb1.mono bd.size)))
      have HB' : Hid (Below w.heap.size w w1) := HB.out.trans (b1.mono HB.out.size)
      clear hM hS bd b1 hb1
      go_wp2
      go_roundw
      case rel => exact ⟨j + 1, by omega, by go_num, by rw [HK3.out]; go_num, HB'.out⟩
      case measure => simp [intOf]; omega
    · have hjl : j = n := by omega
      subst hjl
      go_wp2
      go_ret
      exact ⟨ret_int (by omega), HB.out⟩
end Go.Proofs.Ythlaaldicmfcnaa
