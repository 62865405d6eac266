/-
  Texts in one: Oso Cel Cei Csp Its Plc Rnd Rel Rlr Rzp Frm Str Rdl Lgp Wds Stx Lgm Lgs Lga.
-/
import Derived.Test.YtidnfdobljihoaaGreatJaa
import Derived.Deep.AppendLies
import Derived.Lib.AppendZeros
import Derived.Deep.LoopGhost
import Derived.Laws.IdiomStrings
import Derived.Deep.RegionHeld3
import Derived.BigQuiet
namespace Go.Proofs.YtidnfdobljihoaaGreat
set_option linter.unusedVariables false
set_option linter.unusedSimpArgs false
open Go.RowKit Go.Sort
def PlainA (a : Option Addr) : Prop := ∀ x,a = some x → ∃ b off,x = ⟨b,off,none⟩
theorem plainN : PlainA none := fun x h => by cases h
theorem plainS (b off : Nat) : PlainA (some ⟨b,off,none⟩) := fun x h => by cases h;exact ⟨b,off,rfl⟩
def OSo (w : World) (s : Nat) (a : Option Addr) (n c : Nat) (xs : List Value) (G : Option Nat) : Prop :=
 (n = 0 ∧ c = 0 ∧ xs = [] ∧ G = none ∧ PlainA a) ∨ ∃ g off,a = some ⟨g,off,none⟩ ∧ OSl w s g off n c xs ∧ G = some g
theorem OSo.nil (w : World) (s : Nat) {a : Option Addr} (ha : PlainA a) : OSo w s a 0 0 [] none := .inl ⟨rfl,rfl,rfl,rfl,ha⟩
theorem OSo.plain {w : World} {s : Nat} {a : Option Addr} {n c : Nat} {xs : List Value} {G : Option Nat} (h : OSo w s a n c xs G) : PlainA a := by
 rcases h with ⟨_,_,_,_,h⟩ | ⟨g,off,rfl,_,_⟩
 ·exact h
 ·exact plainS _ _
theorem OSo.of {w : World} {s g off n c : Nat} {xs : List Value} (h : OSl w s g off n c xs) : OSo w s (some ⟨g,off,none⟩) n c xs (some g) := .inr ⟨g,off,rfl,h,rfl⟩
theorem OSo.len {w : World} {s : Nat} {a : Option Addr} {n c : Nat} {xs : List Value} {G : Option Nat} (h : OSo w s a n c xs G) : xs.length = n * s := by
 rcases h with ⟨rfl,_,rfl,_⟩ | ⟨g,off,_,h,_⟩
 ·simp
 ·exact h.len
theorem OSo.le {w : World} {s : Nat} {a : Option Addr} {n c : Nat} {xs : List Value} {G : Option Nat} (h : OSo w s a n c xs G) : n ≤ c ∧ c ≤ maxLen := by
 rcases h with ⟨rfl,rfl,rfl,_⟩ | ⟨g,off,_,h,_⟩
 ·exact ⟨Nat.le_refl _,Nat.zero_le _⟩
 ·exact ⟨h.le,h.max⟩
theorem OSo.lt {w : World} {s : Nat} {a : Option Addr} {n c : Nat} {xs : List Value} {G : Option Nat} (h : OSo w s a n c xs G) {g : Nat} (hg : G = some g) : g < w.heap.size := by
 rcases h with ⟨_,_,_,h,_⟩ | ⟨g',off,_,h,h'⟩
 ·rw [h] at hg;cases hg
 ·rw [h'] at hg;cases hg;exact h.blk
theorem OSo.frame {w w' : World} {s : Nat} {a : Option Addr} {n c : Nat} {xs : List Value} {G : Option Nat} (h : OSo w s a n c xs G) (hs : w.heap.size ≤ w'.heap.size) (e : ∀ g,G = some g → w'.heap[g]? = w.heap[g]?) : OSo w' s a n c xs G := by
 rcases h with h | ⟨g,off,ha,h,h'⟩
 ·exact .inl h
 ·exact .inr ⟨g,off,ha,h.of_block (e g h') (Nat.lt_of_lt_of_le h.blk hs),h'⟩
theorem OSo.cell {w : World} {s : Nat} {a : Option Addr} {n c : Nat} {xs : List Value} {G : Option Nat} (h : OSo w s a n c xs G) (hn : 0 < n) : ∃ g off,a = some ⟨g,off,none⟩ ∧ G = some g ∧ (∀ j,j < n * s → w.cell? ⟨g,off + j,none⟩ = xs[j]?) ∧ ∀ j,j < n * s → w.frozen? ⟨g,off + j,none⟩ = false := by
 rcases h with ⟨h0,_⟩ | ⟨g,off,ha,h,h'⟩
 ·omega
 ·exact ⟨g,off,ha,h',h.cell,fun j hj => h.free j (Nat.lt_of_lt_of_le hj (Nat.mul_le_mul_right _ h.le))⟩
theorem osl_put {w : World} {s g off n c : Nat} {xs : List Value} (h : OSl w s g off n c xs) {j : Nat} (hj : j < n * s) (v : Value) : OSl (w.setCell ⟨g,off + j,none⟩ v) s g off n c (xs.set j v) := by
 have hl := h.len
 have hc : w.cell? ⟨g,off + j,none⟩ = some (xs[j]'(by omega)) := by rw [h.cell j hj,List.getElem?_eq_getElem (by omega)]
 refine ⟨by simpa using hl,h.le,h.max,by simp [World.setCell];exact h.blk,fun k hk => ?_,fun k hk => ?_,fun k hk => by rw [World.frozen?_setCell];exact h.free k hk⟩
 ·by_cases e : j = k
  ·subst e
   rw [World.cell?_setCell_same _ _ _ hc]
   simp [show j < xs.length by omega]
  ·rw [World.cell?_setCell_other _ _ _ _ (by simp [e]),h.cell k hk]
   simp [e]
 ·by_cases e : j = k
  ·subst e;rw [World.cell?_setCell_same _ _ _ hc];rfl
  ·rw [World.cell?_setCell_other _ _ _ _ (by simp [e])];exact h.some k hk
section
variable {P : Program} (w : World)
theorem run_append_oo (t ty e : TypeId) (i : TypeInfo) (z : Value) (s bytes : Nat) (ht : P.underlying t = some (.slice e)) (hi : P.info? e = some i) (hz : i.zero = some z)
  (hsize : i.size = s) (hby : i.bytes = bytes) (hzs : z.cells.size = s) (hsz : 0 < s)
  (a : Option Addr) (n cap : Nat) (xs : List Value) (G : Option Nat) (ho : OSo w s a n cap xs G)
  (x : Option Addr) (m c : Nat) (news : List Value) (hl : news.length = m * s) (hnews : m = 0 ∨ ∃ ad,x = some ad ∧ ∀ j u,news[j]? = some u → w.cell? (ad.add j) = some u) (h1 : ∀ u ∈ news,u.oneCell' = true)
  (h63 : n + m ≤ maxLen) (hbytes : (n + m) * bytes ≤ 140737488355328) :
  ∃ a' cap' G' w',(Builtin.append_ #[t,t] ty #[.slice a n cap,.slice x m c]).run P w = .ok (.slice a' (n + m) cap') w' ∧
   OSo w' s a' (n + m) cap' (xs ++ news) G' ∧ w.grownBy w' G ∧ (G' = G ∨ G' = some w.heap.size) := by
 by_cases hm : m = 0
 ·subst hm
  have hn0 : news = [] := List.eq_nil_of_length_eq_zero (by simpa using hl)
  subst hn0
  have hle := ho.le.1
  have hr : (Builtin.append_ #[t,t] ty #[.slice a n cap,.slice x 0 c]).run P w = .ok (.slice a n cap) w := by
   cases a <;> cases x <;> simp [Builtin.append_,run_underlying ht,sizeOf,typeInfo,hi,Builtin.lenOf,hle,Builtin.firstCells,loadCells,loadCellsFrom,storeCells]
  exact ⟨a,cap,G,w,hr,by simpa using ho,grown_refl w _,.inl rfl⟩
 ·rcases hnews with h0 | ⟨ad,rfl,hnews⟩
  ·exact absurd h0 hm
  ·rcases ho with ⟨rfl,rfl,rfl,rfl,hpl⟩ | ⟨g,off,rfl,ho,rfl⟩
   ·cases a with
    | none =>
     obtain ⟨v',w',hr,hown,hgr,hnil,hat⟩ := run_append_own_at (P := P) w 0 t ty e i z s bytes ht hi hz hsize hby hzs hsz (.slice none 0 0) 0 [] (World.ownsRow_nil w 0 e s) ad m c news hl hnews h1 h63 hbytes (Nat.zero_le _)
     obtain ⟨g',cap',rfl,_,hO⟩ := OSl.of_ownsRow hown (fun h => hm (hnil.1 h).2)
     refine ⟨some ⟨g',0,none⟩,cap',some g',w',hr,.inr ⟨g',0,rfl,by simpa using hO,rfl⟩,hgr,.inr ?_⟩
     rcases hat with h | h
     ·simp [Value.ownBlock] at h
     ·simpa [Value.ownBlock] using h
    | some b =>
     have hg := run_append_arg_grows (P := P) w t ty e i z s bytes ht hi hz hsize hby hzs hsz b 0 0 [] (by simp) (by simp) ad m c news hl hnews (by omega) h63 hbytes
     obtain ⟨v',w',hr,hown,hgr⟩ := hg
     obtain ⟨g',cap',rfl,hb,hlt⟩ := hown.form (by omega)
     obtain ⟨g2,cap2,hv2,_,hO⟩ := OSl.of_ownsRow hown (by intro h;cases h)
     cases hv2
     refine ⟨some ⟨g',0,none⟩,cap',some g',w',hr,.inr ⟨g',0,rfl,by simpa using hO,rfl⟩,hgr,.inr ?_⟩
     have hr2 := run_append_grow (P := P) w t ty e i z ht hi hz b 0 0 [] (by simp) (by simp) ad m c news (by rw [hsize];exact hl) hnews (by omega) (by simp only [maxLen] at h63;omega) (growslice_fits (by omega) (by rw [hby];exact hbytes))
     rw [hr2] at hr
     simp only [Result.ok.injEq,Value.slice.injEq,Option.some.injEq,Addr.mk.injEq] at hr
     rw [hr.1.1.1]
   ·obtain ⟨g',off',cap',w',hr,h2,h3,h4⟩ := run_append_os (P := P) w t ty e i z s bytes ht hi hz hsize hby hzs hsz g off n cap xs ho ad m c news hl hnews h1 h63 hbytes
    exact ⟨_,cap',some g',w',hr,.inr ⟨g',off',rfl,h2,rfl⟩,h3,h4.imp (fun h => by rw [h]) (fun h => by rw [h])⟩
theorem wp_append_oo {o : Oper} {act : Act} {K : Act → World → Prop} {Q : Exit → Act → World → Prop} (sl x : Operand) (t : TypeId)
  (hop : o.op = .call { callee := .builtin .append,args := #[sl,x],argTypes := #[t,t] })
  (e : TypeId) (i : TypeInfo) (z : Value) (s bytes : Nat) (ht : P.underlying t = some (.slice e)) (hi : P.info? e = some i) (hz : i.zero = some z)
  (hsize : i.size = s) (hby : i.bytes = bytes) (hzs : z.cells.size = s) (hsz : 0 < s)
  (a : Option Addr) (n cap : Nat) (xs : List Value) (G : Option Nat) (hs : act.eval sl = .slice a n cap) (ho : OSo w s a n cap xs G)
  (y : Option Addr) (m c : Nat) (news : List Value) (hx : act.eval x = .slice y m c) (hl : news.length = m * s) (hnews : m = 0 ∨ ∃ ad,y = some ad ∧ ∀ j u,news[j]? = some u → w.cell? (ad.add j) = some u) (h1 : ∀ u ∈ news,u.oneCell' = true)
  (h63 : n + m ≤ maxLen) (hbytes : (n + m) * bytes ≤ 140737488355328)
  (h : ∀ a' cap' G' w',OSo w' s a' (n + m) cap' (xs ++ news) G' → w.grownBy w' G → (G' = G ∨ G' = some w.heap.size) → K (act.put o.dst (.slice a' (n + m) cap')) w') : o.wp P act w K Q := by
 obtain ⟨a',cap',G',w',hr,h2,h3,h4⟩ := run_append_oo (P := P) w t o.type e i z s bytes ht hi hz hsize hby hzs hsz a n cap xs G ho y m c news hl hnews h1 h63 hbytes
 unfold Oper.wp execOp
 simp only [hop,resolve,invoke,builtin,Sem.run_bind,Sem.run_pure,Result.andThen_ok,List.map_toArray,List.map_cons,List.map_nil,hs,hx,hr]
 exact h a' cap' G' w' h2 h3 h4
theorem wpList_append_oo {ops : Array Oper} {rest : List Oper} {o : Oper} {act : Act} {Q : Exit → Act → World → Prop} (hgd : o.guard = none) (sl x : Operand) (t : TypeId)
  (hop : o.op = .call { callee := .builtin .append,args := #[sl,x],argTypes := #[t,t] })
  (e : TypeId) (i : TypeInfo) (z : Value) (s bytes : Nat) (ht : P.underlying t = some (.slice e)) (hi : P.info? e = some i) (hz : i.zero = some z)
  (hsize : i.size = s) (hby : i.bytes = bytes) (hzs : z.cells.size = s) (hsz : 0 < s)
  (a : Option Addr) (n cap : Nat) (xs : List Value) (G : Option Nat) (hs : act.eval sl = .slice a n cap) (ho : OSo w s a n cap xs G)
  (y : Option Addr) (m c : Nat) (news : List Value) (hx : act.eval x = .slice y m c) (hl : news.length = m * s) (hnews : m = 0 ∨ ∃ ad,y = some ad ∧ ∀ j u,news[j]? = some u → w.cell? (ad.add j) = some u) (h1 : ∀ u ∈ news,u.oneCell' = true)
  (h63 : n + m ≤ maxLen) (hbytes : (n + m) * bytes ≤ 140737488355328)
  (h : ∀ a' cap' G' w',OSo w' s a' (n + m) cap' (xs ++ news) G' → w.grownBy w' G → (G' = G ∨ G' = some w.heap.size) → wpList P ops Q rest (act.put o.dst (.slice a' (n + m) cap')) w') : wpList P ops Q (o :: rest) act w :=
 wpList_plain hgd fun _ hK => wp_append_oo w sl x t hop e i z s bytes ht hi hz hsize hby hzs hsz a n cap xs G hs ho y m c news hx hl hnews h1 h63 hbytes fun a' cap' G' w' h2 h3 h4 => hK _ _ (h a' cap' G' w' h2 h3 h4)
end
end Go.Proofs.YtidnfdobljihoaaGreat
namespace Go.Proofs.YtidnfdobljihoaaGreat
set_option linter.unusedVariables false
set_option linter.unusedSimpArgs false
open Go.RowKit Go.Sort
inductive Cel where
 | v (x : Value)
 | sl (s n : Nat) (cs : List Cel)
abbrev Fp := Nat → Prop
mutual
def Cel.ow (w : World) : Cel → Value → Fp → Prop
 | .v x,u,fp => u = x ∧ ∀ b,¬ fp b
 | .sl s n cs,u,fp => ∃ a c us G f,u = .slice a n c ∧ OSo w s a n c us G ∧ owL w cs us f ∧ (∀ b,G = some b → ¬ f b) ∧ ∀ b,fp b ↔ G = some b ∨ f b
def owL (w : World) : List Cel → List Value → Fp → Prop
 | [],us,fp => us = [] ∧ ∀ b,¬ fp b
 | c :: cs,us,fp => ∃ u us' f1 f2,us = u :: us' ∧ Cel.ow w c u f1 ∧ owL w cs us' f2 ∧ (∀ b,f1 b → ¬ f2 b) ∧ ∀ b,fp b ↔ f1 b ∨ f2 b
end
mutual
def Cel.vw (w : World) : Cel → Value → Prop
 | .v x,u => u = x
 | .sl s n cs,u => ∃ a c us,u = .slice a n c ∧ n ≤ c ∧ c ≤ maxLen ∧ us.length = n * s ∧ (n = 0 ∨
   ∃ b off,a = some ⟨b,off,none⟩ ∧ ∀ j,j < n * s → w.cell? ⟨b,off + j,none⟩ = us[j]?) ∧ vwL w cs us
def vwL (w : World) : List Cel → List Value → Prop
 | [],us => us = []
 | c :: cs,us => ∃ u us',us = u :: us' ∧ Cel.vw w c u ∧ vwL w cs us'
end
theorem owL_len {w : World} : ∀ {cs : List Cel} {us : List Value} {fp : Fp},owL w cs us fp → us.length = cs.length
 | [],us,fp,h => by rw [h.1];rfl
 | c :: cs,us,fp,h => by
  obtain ⟨u,us',f1,f2,rfl,_,h2,_⟩ := h
  simp [owL_len h2]
theorem vwL_len {w : World} : ∀ {cs : List Cel} {us : List Value},vwL w cs us → us.length = cs.length
 | [],us,h => by rw [show us = [] from h];rfl
 | c :: cs,us,h => by
  obtain ⟨u,us',rfl,_,h2⟩ := h
  simp [vwL_len h2]
mutual
theorem Cel.ow_frame {w w' : World} (hs : w.heap.size ≤ w'.heap.size) : ∀ {c : Cel} {u : Value} {fp : Fp},Cel.ow w c u fp → (∀ b,fp b → w'.heap[b]? = w.heap[b]?) → Cel.ow w' c u fp
 | .v x,u,fp,h,_ => h
 | .sl s n cs,u,fp,h,e => by
  obtain ⟨a,c,us,G,f,rfl,ho,hl,hn,hf⟩ := h
  exact ⟨a,c,us,G,f,rfl,ho.frame hs (fun g hg => e g ((hf g).2 (.inl hg))),owL_frame hs hl (fun b hb => e b ((hf b).2 (.inr hb))),hn,hf⟩
theorem owL_frame {w w' : World} (hs : w.heap.size ≤ w'.heap.size) : ∀ {cs : List Cel} {us : List Value} {fp : Fp},owL w cs us fp → (∀ b,fp b → w'.heap[b]? = w.heap[b]?) → owL w' cs us fp
 | [],us,fp,h,_ => h
 | c :: cs,us,fp,h,e => by
  obtain ⟨u,us',f1,f2,rfl,h1,h2,hd,hf⟩ := h
  exact ⟨u,us',f1,f2,rfl,Cel.ow_frame hs h1 (fun b hb => e b ((hf b).2 (.inl hb))),owL_frame hs h2 (fun b hb => e b ((hf b).2 (.inr hb))),hd,hf⟩
end
mutual
theorem Cel.ow_lt {w : World} : ∀ {c : Cel} {u : Value} {fp : Fp},Cel.ow w c u fp → ∀ b,fp b → b < w.heap.size
 | .v x,u,fp,h => fun b hb => absurd hb (h.2 b)
 | .sl s n cs,u,fp,h => fun b hb => by
  obtain ⟨a,c,us,G,f,rfl,ho,hl,hn,hf⟩ := h
  rcases (hf b).1 hb with hb | hb
  ·exact ho.lt hb
  ·exact owL_lt hl b hb
theorem owL_lt {w : World} : ∀ {cs : List Cel} {us : List Value} {fp : Fp},owL w cs us fp → ∀ b,fp b → b < w.heap.size
 | [],us,fp,h => fun b hb => absurd hb (h.2 b)
 | c :: cs,us,fp,h => fun b hb => by
  obtain ⟨u,us',f1,f2,rfl,h1,h2,hd,hf⟩ := h
  rcases (hf b).1 hb with hb | hb
  ·exact Cel.ow_lt h1 b hb
  ·exact owL_lt h2 b hb
end
mutual
theorem Cel.ow_vw {w : World} : ∀ {c : Cel} {u : Value} {fp : Fp},Cel.ow w c u fp → Cel.vw w c u
 | .v x,u,fp,h => h.1
 | .sl s n cs,u,fp,h => by
  obtain ⟨a,c,us,G,f,rfl,ho,hl,hn,hf⟩ := h
  refine ⟨a,c,us,rfl,ho.le.1,ho.le.2,ho.len, ?_,owL_vw hl⟩
  rcases Nat.eq_zero_or_pos n with h0 | h0
  ·exact .inl h0
  ·obtain ⟨g,off,ha,_,hc,_⟩ := ho.cell h0
   exact .inr ⟨g,off,ha,hc⟩
theorem owL_vw {w : World} : ∀ {cs : List Cel} {us : List Value} {fp : Fp},owL w cs us fp → vwL w cs us
 | [],us,fp,h => h.1
 | c :: cs,us,fp,h => by
  obtain ⟨u,us',f1,f2,rfl,h1,h2,hd,hf⟩ := h
  exact ⟨u,us',rfl,Cel.ow_vw h1,owL_vw h2⟩
end
mutual
theorem Cel.vw_mono {w w' : World} (e : ∀ b,b < w.heap.size → w'.heap[b]? = w.heap[b]?) : ∀ {c : Cel} {u : Value},Cel.vw w c u → Cel.vw w' c u
 | .v x,u,h => h
 | .sl s n cs,u,h => by
  obtain ⟨a,c,us,rfl,h1,h2,h3,h | ⟨b,off,rfl,hc⟩,hl⟩ := h
  ·exact ⟨a,c,us,rfl,h1,h2,h3,.inl h,vwL_mono e hl⟩
  ·refine ⟨_,c,us,rfl,h1,h2,h3,.inr ⟨b,off,rfl,fun j hj => ?_⟩,vwL_mono e hl⟩
   have hu : j < us.length := by rw [h3];exact hj
   have h0 := hc j hj
   rw [List.getElem?_eq_getElem hu] at h0
   have hlt := World.block_lt_of_cell? _ _ h0
   rw [World.cell?_of_block (w := w) (e b hlt)]
   exact hc j hj
theorem vwL_mono {w w' : World} (e : ∀ b,b < w.heap.size → w'.heap[b]? = w.heap[b]?) : ∀ {cs : List Cel} {us : List Value},vwL w cs us → vwL w' cs us
 | [],us,h => h
 | c :: cs,us,h => by
  obtain ⟨u,us',rfl,h1,h2⟩ := h
  exact ⟨u,us',rfl,Cel.vw_mono e h1,vwL_mono e h2⟩
end
theorem Cel.vw_below {w w' : World} {c : Cel} {u : Value} (h : Cel.vw w c u) (hb : Below w.heap.size w w') : Cel.vw w' c u := Cel.vw_mono (fun b hlt => hb.block b hlt) h
theorem Cel.ow_below {w w' : World} {c : Cel} {u : Value} {fp : Fp} (h : Cel.ow w c u fp) (hb : Below w.heap.size w w') : Cel.ow w' c u fp := Cel.ow_frame hb.size h (fun b hf => hb.block b (Cel.ow_lt h b hf))
theorem owL_below {w w' : World} {cs : List Cel} {us : List Value} {fp : Fp} (h : owL w cs us fp) (hb : Below w.heap.size w w') : owL w' cs us fp := owL_frame hb.size h (fun b hf => hb.block b (owL_lt h b hf))
theorem vwL_at {w : World} : ∀ {cs : List Cel} {us : List Value},vwL w cs us → ∀ {j : Nat} {c : Cel},cs[j]? = some c → ∃ u,us[j]? = some u ∧ Cel.vw w c u
 | [],us,h,j,c,hj => by simp at hj
 | c0 :: cs,us,h,0,c,hj => by
  obtain ⟨u,us',rfl,h1,h2⟩ := h
  simp at hj
  subst hj
  exact ⟨u,by simp,h1⟩
 | c0 :: cs,us,h,j + 1,c,hj => by
  obtain ⟨u,us',rfl,h1,h2⟩ := h
  obtain ⟨u',hu,hv⟩ := vwL_at h2 (j := j) (c := c) (by simpa using hj)
  exact ⟨u',by simpa using hu,hv⟩
theorem Cel.ow_congr {w : World} : ∀ {c : Cel} {u : Value} {f g : Fp},Cel.ow w c u f → (∀ b,g b ↔ f b) → Cel.ow w c u g
 | .v x,u,f,g,h,e => ⟨h.1,fun b hb => h.2 b ((e b).1 hb)⟩
 | .sl s n cs,u,f,g,h,e => by
  obtain ⟨a,c,us,G,f',rfl,ho,hl,hn,hf⟩ := h
  exact ⟨a,c,us,G,f',rfl,ho,hl,hn,fun b => (e b).trans (hf b)⟩
theorem owL_congr {w : World} : ∀ {cs : List Cel} {us : List Value} {f g : Fp},owL w cs us f → (∀ b,g b ↔ f b) → owL w cs us g
 | [],us,f,g,h,e => ⟨h.1,fun b hb => h.2 b ((e b).1 hb)⟩
 | c :: cs,us,f,g,h,e => by
  obtain ⟨u,us',f1,f2,rfl,h1,h2,hd,hf⟩ := h
  exact ⟨u,us',f1,f2,rfl,h1,h2,hd,fun b => (e b).trans (hf b)⟩
theorem owL_at {w : World} : ∀ {cs : List Cel} {us : List Value} {fp : Fp},owL w cs us fp → ∀ {j : Nat} {c : Cel},cs[j]? = some c →
  ∃ u f,us[j]? = some u ∧ Cel.ow w c u f ∧ (∀ b,f b → fp b) ∧
   ∀ (w' : World) (c' : Cel) (u' : Value) (f' : Fp),w.heap.size ≤ w'.heap.size → Cel.ow w' c' u' f' → (∀ b,fp b → ¬ f b → w'.heap[b]? = w.heap[b]?) → (∀ b,f' b → fp b → f b) →
    owL w' (cs.set j c') (us.set j u') (fun b => f' b ∨ fp b ∧ ¬ f b)
 | [],us,fp,h,j,c,hj => by simp at hj
 | c0 :: cs,us,fp,h,0,c,hj => by
  obtain ⟨u,us',f1,f2,rfl,h1,h2,hd,hf⟩ := h
  simp at hj
  subst hj
  refine ⟨u,f1,by simp,h1,fun b hb => (hf b).2 (.inl hb),fun w' c' u' f' hs hc' he hd' => ?_⟩
  refine ⟨u',us',f',f2,by simp,hc',owL_frame hs h2 (fun b hb => he b ((hf b).2 (.inr hb)) (fun h => hd b h hb)),fun b hb hb2 => hd b (hd' b hb ((hf b).2 (.inr hb2))) hb2,fun b => ?_⟩
  constructor
  ·rintro (h | ⟨h,hn⟩)
   ·exact .inl h
   ·rcases (hf b).1 h with h | h
    ·exact absurd h hn
    ·exact .inr h
  ·rintro (h | h)
   ·exact .inl h
   ·exact .inr ⟨(hf b).2 (.inr h),fun h1 => hd b h1 h⟩
 | c0 :: cs,us,fp,h,j + 1,c,hj => by
  obtain ⟨u0,us',f1,f2,rfl,h1,h2,hd,hf⟩ := h
  obtain ⟨u,f,hu,hc,hsub,hput⟩ := owL_at h2 (j := j) (c := c) (by simpa using hj)
  refine ⟨u,f,by simpa using hu,hc,fun b hb => (hf b).2 (.inr (hsub b hb)),fun w' c' u' f' hs hc' he hd' => ?_⟩
  have hk := hput w' c' u' f' hs hc' (fun b hb hn => he b ((hf b).2 (.inr hb)) hn) (fun b hb hb2 => hd' b hb ((hf b).2 (.inr hb2)))
  refine ⟨u0,us'.set j u',f1,_,by simp,Cel.ow_frame hs h1 (fun b hb => he b ((hf b).2 (.inl hb)) (fun h => hd b hb (hsub b h))),hk,fun b hb hb2 => ?_,fun b => ?_⟩
  ·rcases hb2 with hb2 | ⟨hb2,_⟩
   ·exact hd b hb (hsub b (hd' b hb2 ((hf b).2 (.inl hb))))
   ·exact hd b hb hb2
  ·constructor
   ·rintro (h | ⟨h,hn⟩)
    ·exact .inr (.inl h)
    ·rcases (hf b).1 h with h | h
     ·exact .inl h
     ·exact .inr (.inr ⟨h,hn⟩)
   ·rintro (h | h | ⟨h,hn⟩)
    ·exact .inr ⟨(hf b).2 (.inl h),fun h' => hd b h (hsub b h')⟩
    ·exact .inl h
    ·exact .inr ⟨(hf b).2 (.inr h),hn⟩
theorem owL_append {w : World} : ∀ {cs ds : List Cel} {us vs : List Value} {f g : Fp},owL w cs us f → owL w ds vs g → (∀ b,f b → ¬ g b) → owL w (cs ++ ds) (us ++ vs) (fun b => f b ∨ g b)
 | [],ds,us,vs,f,g,h,k,hd => by
  rw [h.1]
  exact owL_congr k (fun b => ⟨fun hb => hb.elim (fun hb => absurd hb (h.2 b)) id,.inr⟩)
 | c :: cs,ds,us,vs,f,g,h,k,hd => by
  obtain ⟨u,us',f1,f2,rfl,h1,h2,hd1,hf⟩ := h
  refine ⟨u,us' ++ vs,f1,_,rfl,h1,owL_append h2 k (fun b hb => hd b ((hf b).2 (.inr hb))),fun b hb hb2 => ?_,fun b => ?_⟩
  ·rcases hb2 with hb2 | hb2
   ·exact hd1 b hb hb2
   ·exact hd b ((hf b).2 (.inl hb)) hb2
  ·show f b ∨ g b ↔ _
   rw [hf b]
   constructor
   ·rintro ((h | h) | h)
    ·exact .inl h
    ·exact .inr (.inl h)
    ·exact .inr (.inr h)
   ·rintro (h | h | h)
    ·exact .inl (.inl h)
    ·exact .inl (.inr h)
    ·exact .inr h
theorem owL_split {w : World} : ∀ {cs ds : List Cel} {ws : List Value} {fp : Fp},owL w (cs ++ ds) ws fp → ∃ us vs f g,ws = us ++ vs ∧ owL w cs us f ∧ owL w ds vs g ∧ (∀ b,f b → ¬ g b) ∧ ∀ b,fp b ↔ f b ∨ g b
 | [],ds,ws,fp,h => ⟨[],ws,fun _ => False,fp,rfl,⟨rfl,fun _ h => h⟩,h,fun _ h => absurd h id,fun b => ⟨.inr,fun h => h.elim False.elim id⟩⟩
 | c :: cs,ds,ws,fp,h => by
  obtain ⟨u,us',f1,f2,rfl,h1,h2,hd,hf⟩ := h
  obtain ⟨us,vs,f,g,rfl,k1,k2,hd2,hf2⟩ := owL_split h2
  refine ⟨u :: us,vs,fun b => f1 b ∨ f b,g,rfl,⟨u,us,f1,f,rfl,h1,k1,fun b hb hb2 => hd b hb ((hf2 b).2 (.inl hb2)),fun b => Iff.rfl⟩,k2,fun b hb hg => ?_,fun b => ?_⟩
  ·rcases hb with hb | hb
   ·exact hd b hb ((hf2 b).2 (.inr hg))
   ·exact hd2 b hb hg
  ·rw [hf b,hf2 b,or_assoc]
end Go.Proofs.YtidnfdobljihoaaGreat
namespace Go.Proofs.YtidnfdobljihoaaGreat
set_option linter.unusedVariables false
set_option linter.unusedSimpArgs false
open Go.RowKit Go.Sort
structure Wrt (f : Fp) (w w' : World) : Prop where
 os : w'.os = w.os
 tape : w'.tape = w.tape
 output : w'.output = w.output
 size : w.heap.size ≤ w'.heap.size
 block : ∀ b,b < w.heap.size → ¬ f b → w'.heap[b]? = w.heap[b]?
theorem Wrt.refl (f : Fp) (w : World) : Wrt f w w := ⟨rfl,rfl,rfl,Nat.le_refl _,fun _ _ _ => rfl⟩
theorem Wrt.mono {f g : Fp} {w w' : World} (h : Wrt f w w') (hs : ∀ b,b < w.heap.size → f b → g b) : Wrt g w w' := ⟨h.os,h.tape,h.output,h.size,fun b hb hn => h.block b hb (fun hf => hn (hs b hb hf))⟩
theorem Wrt.trans {f g : Fp} {w w1 w2 : World} (h : Wrt f w w1) (k : Wrt g w1 w2) (hs : ∀ b,b < w.heap.size → g b → f b) : Wrt f w w2 :=
 ⟨k.os.trans h.os,k.tape.trans h.tape,k.output.trans h.output,Nat.le_trans h.size k.size,fun b hb hn => (k.block b (Nat.lt_of_lt_of_le hb h.size) (fun hg => hn (hs b hb hg))).trans (h.block b hb hn)⟩
theorem Wrt.of_below {f : Fp} {w w' : World} (h : Below w.heap.size w w') : Wrt f w w' := ⟨h.os,h.tape,h.output,h.size,fun b hb _ => h.block b hb⟩
theorem Wrt.below {f : Fp} {w w' v : World} {B : Nat} (h : Wrt f w w') (hv : Below B v w) (hB : B ≤ w.heap.size) (hf : ∀ b,f b → B ≤ b) : Below B v w' :=
 ⟨h.os.trans hv.os,h.tape.trans hv.tape,h.output.trans hv.output,Nat.le_trans hv.size h.size,fun b hb => (h.block b (by omega) (fun k => by have := hf b k;omega)).trans (hv.block b hb)⟩
theorem Wrt.of_grown {w w' : World} {G : Option Nat} (h : w.grownBy w' G) : Wrt (fun b => G = some b) w w' := ⟨h.os,h.tape,h.output,h.size,fun b hb hn => h.block b hb (fun e => hn e.symm)⟩
theorem Wrt.set (w : World) (g o : Nat) (v : Value) : Wrt (fun b => b = g) w (w.setCell ⟨g,o,none⟩ v) := (Wrt.of_grown (grown_set (grown_refl w (some g)) o v)).mono (fun b _ h => by simpa using h.symm)
theorem Cel.ow_wrt {w w' : World} {c : Cel} {u : Value} {fp f : Fp} (h : Cel.ow w c u fp) (hw : Wrt f w w') (hd : ∀ b,fp b → ¬ f b) : Cel.ow w' c u fp := Cel.ow_frame hw.size h (fun b hb => hw.block b (Cel.ow_lt h b hb) (hd b hb))
theorem owL_wrt {w w' : World} {cs : List Cel} {us : List Value} {fp f : Fp} (h : owL w cs us fp) (hw : Wrt f w w') (hd : ∀ b,fp b → ¬ f b) : owL w' cs us fp := owL_frame hw.size h (fun b hb => hw.block b (owL_lt h b hb) (hd b hb))
def pl (vs : List Value) : List Cel := vs.map Cel.v
theorem owL_pl {w : World} : ∀ {vs us : List Value} {fp : Fp},owL w (pl vs) us fp ↔ us = vs ∧ ∀ b,¬ fp b
 | [],us,fp => Iff.rfl
 | v :: vs,us,fp => by
  constructor
  ·rintro ⟨u,us',f1,f2,rfl,⟨rfl,h1⟩,h2,hd,hf⟩
   have h3 := owL_pl.1 h2
   exact ⟨by rw [h3.1],fun b hb => ((hf b).1 hb).elim (h1 b) (h3.2 b)⟩
  ·rintro ⟨rfl,h⟩
   exact ⟨v,vs,fp,fp,rfl,⟨rfl,h⟩,owL_pl.2 ⟨rfl,h⟩,fun b hb => absurd hb (h b),fun b => ⟨.inl,fun h => h.elim id id⟩⟩
theorem vwL_pl {w : World} : ∀ {vs us : List Value},vwL w (pl vs) us ↔ us = vs
 | [],us => Iff.rfl
 | v :: vs,us => by
  constructor
  ·rintro ⟨u,us',rfl,rfl,h2⟩
   rw [vwL_pl.1 h2]
  ·rintro rfl
   exact ⟨v,vs,rfl,rfl,vwL_pl.2 rfl⟩
def icl (xs : List Int) : Cel := .sl 1 xs.length (pl (xs.map (Value.int .i64)))
theorem ow_icl {w : World} {xs : List Int} {u : Value} {fp : Fp} : Cel.ow w (icl xs) u fp ↔ ∃ a c G,u = .slice a xs.length c ∧ OSo w 1 a xs.length c (xs.map (Value.int .i64)) G ∧ ∀ b,fp b ↔ G = some b := by
 constructor
 ·rintro ⟨a,c,us,G,f,rfl,ho,hl,hn,hf⟩
  obtain ⟨rfl,h0⟩ := owL_pl.1 hl
  exact ⟨a,c,G,rfl,ho,fun b => (hf b).trans ⟨fun h => h.elim id (fun h => absurd h (h0 b)),.inl⟩⟩
 ·rintro ⟨a,c,G,rfl,ho,hf⟩
  exact ⟨a,c,_,G,fun _ => False,rfl,ho,owL_pl.2 ⟨rfl,fun _ h => h⟩,fun _ _ h => h,fun b => (hf b).trans ⟨.inl,fun h => h.elim id False.elim⟩⟩
theorem vw_icl {w : World} {xs : List Int} {u : Value} (h : Cel.vw w (icl xs) u) (hf : Fits xs) : ∃ a c,u = .slice a xs.length c ∧ Vec w a xs.length xs ∧ xs.length ≤ c ∧ c ≤ maxLen := by
 obtain ⟨a,c,us,rfl,h1,h2,h3,h,hl⟩ := h
 have e := vwL_pl.1 hl
 subst e
 refine ⟨a,c,rfl,⟨rfl,hf, ?_⟩,h1,h2⟩
 rcases h with h | ⟨b,off,ha,hc⟩
 ·exact .inl h
 ·refine .inr ⟨b,off,ha,fun i hi => ?_⟩
  rw [hc i (by omega)]
  simp [el,hi]
theorem OSo.oi {w : World} {a : Option Addr} {c : Nat} {xs : List Int} {G : Option Nat} (h : OSo w 1 a xs.length c (xs.map (Value.int .i64)) G) : (xs = [] ∧ c = 0 ∧ G = none) ∨ ∃ g off,a = some ⟨g,off,none⟩ ∧ OI w g off xs.length c xs ∧ G = some g := by
 rcases h with ⟨h1,h2,h3,h4,_⟩ | h
 ·exact .inl ⟨List.eq_nil_of_length_eq_zero h1,h2,h4⟩
 ·exact .inr h
def NewO (w w' : World) (c : Cel) (v : Value) : Prop := ∃ fp,Cel.ow w' c v fp ∧ (∀ b,fp b → w.heap.size ≤ b) ∧ Below w.heap.size w w'
def NewL (w w' : World) (cs : List Cel) (vs : List Value) : Prop := ∃ fp,owL w' cs vs fp ∧ (∀ b,fp b → w.heap.size ≤ b) ∧ Below w.heap.size w w'
theorem getElem?_flatten_replicate {α : Type} (l : List α) : ∀ (n i : Nat),i < n * l.length → (List.replicate n l).flatten[i]? = l[i % l.length]?
 | 0,i,h => by simp at h
 | n + 1,i,h => by
  rw [List.replicate_succ,List.flatten_cons]
  by_cases hi : i < l.length
  ·rw [List.getElem?_append_left hi,Nat.mod_eq_of_lt hi]
  ·have hl : l.length ≤ i := by omega
   rw [List.getElem?_append_right hl,getElem?_flatten_replicate l n (i - l.length) (by rw [Nat.add_mul] at h;omega),Nat.mod_eq_sub_mod hl]
theorem osl_made (w : World) (zs : Array Value) (s n : Nat) (e : TypeId) (hz : zs.size = s) (hs : 0 < s) (hn : n ≤ maxLen) : OSl (w.alloc (.cells (madeCells zs (n * s)) e)) s w.heap.size 0 n n (List.replicate n zs.toList).flatten := by
 have hb : (w.alloc (.cells (madeCells zs (n * s)) e)).heap[w.heap.size]? = some (.cells (madeCells zs (n * s)) e (0,0)) := heap_alloc_new w _
 have hc : ∀ i,i < n * s → (madeCells zs (n * s))[i]? = zs.toList[i % s]? := fun i hi => by
  have hm : i % s < zs.size := by rw [hz];exact Nat.mod_lt _ hs
  have hm' : i % s < zs.toList.length := by simpa using hm
  rw [List.getElem?_eq_getElem hm']
  simp [madeCells,hi,hz]
  exact getElem!_pos zs (i % s) hm
 refine ⟨by simp [hz],Nat.le_refl _,hn,by simp,fun i hi => ?_,fun i hi => ?_,fun i hi => ?_⟩
 ·rw [getElem?_flatten_replicate _ _ _ (by simp [hz];omega)]
  simp only [World.cell?,hb,Nat.zero_add]
  rw [hc i hi]
  simp [hz]
 ·simp only [World.cell?,hb,Nat.zero_add]
  have : i < (madeCells zs (n * s)).size := by rw [size_madeCells];exact hi
  simp [this]
 ·unfold World.frozen?
  rw [hb]
  simp
theorem ow_appended {w w' : World} {s n m : Nat} {a' : Option Addr} {c' : Nat} {us news : List Value} {G G' : Option Nat} {cs ds : List Cel} {f fd : Fp}
  (hl : owL w cs us f) (hd : owL w ds news fd) (hG : ∀ b,G = some b → ¬ f b) (hGd : ∀ b,G = some b → ¬ fd b) (hdis : ∀ b,f b → ¬ fd b)
  (ho : OSo w' s a' (n + m) c' (us ++ news) G') (hg : w.grownBy w' G) (hat : G' = G ∨ G' = some w.heap.size) :
  Cel.ow w' (.sl s (n + m) (cs ++ ds)) (.slice a' (n + m) c') (fun b => G' = some b ∨ f b ∨ fd b) := by
 have hw := Wrt.of_grown hg
 have h1 := owL_wrt hl hw (fun b hb e => hG b e hb)
 have h2 := owL_wrt hd hw (fun b hb e => hGd b e hb)
 refine ⟨a',c',us ++ news,G',fun b => f b ∨ fd b,rfl,ho,owL_append h1 h2 hdis,fun b e hb => ?_,fun b => Iff.rfl⟩
 rcases hat with h | h
 ·rw [h] at e
  exact hb.elim (hG b e) (hGd b e)
 ·rw [h] at e
  cases e
  rcases hb with hb | hb
  ·exact absurd (owL_lt hl _ hb) (Nat.lt_irrefl _)
  ·exact absurd (owL_lt hd _ hb) (Nat.lt_irrefl _)
theorem flat_len {α : Type} {f : α → List Cel} {s : Nat} (hs : ∀ x,(f x).length = s) : ∀ (L : List α),(L.flatMap f).length = L.length * s
 | [] => by simp
 | y :: L => by rw [List.flatMap_cons,List.length_append,hs,flat_len hs L,List.length_cons,Nat.add_mul];omega
end Go.Proofs.YtidnfdobljihoaaGreat
namespace Go.Proofs.YtidnfdobljihoaaGreat
set_option linter.unusedVariables false
set_option linter.unusedSimpArgs false
open Go.RowKit Go.Sort
structure Same (X w : World) : Prop where
 heap : X.heap = w.heap
 os : X.os = w.os
 tape : X.tape = w.tape
 output : X.output = w.output
theorem Same.below {X w : World} (h : Same X w) : Below w.heap.size w X := ⟨h.os,h.tape,h.output,by rw [h.heap];exact Nat.le_refl _,fun b _ => by rw [h.heap]⟩
theorem Same.size {X w : World} (h : Same X w) : X.heap.size = w.heap.size := by rw [h.heap]
theorem Same.drewN (w : World) (n : Nat) : Same (w.drewN n) w := ⟨rfl,rfl,rfl,rfl⟩
theorem step_append_of {P : Program} {w : World} {ops : Array Oper} {o : Oper} {a : Act} {K : Act → World → Prop} {Q : Exit → Act → World → Prop} {E : Prop} (hgd : o.guard = none) (s x : Operand) (t tn : TypeId)
  (ho : o.op = .call { callee := .builtin .append,args := #[s,x],argTypes := #[t,tn] }) (vs vx : Value) (hs : a.eval s = vs) (hx : a.eval x = vx)
  {W : World} {R : Value → World → Prop} (hA : ∀ X,Same X W → ∃ v' w',(Builtin.append_ #[t,tn] o.type #[vs,vx]).run P X = .ok v' w' ∧ R v' w') (hS : Same w W) (h : ∀ v' w',R v' w' → K (a.put o.dst v') w') :
  if Region.wanted o (yielded ops a.tmps) = true then Oper.wp P o a w K Q else E := by
 have hw : Region.wanted o (yielded ops a.tmps) = true := by simp [Region.wanted,hgd]
 rw [if_pos hw]
 obtain ⟨v',w',hr,hR⟩ := hA w hS
 exact Lib.wp_append_run w s x t tn ho vs vx hs hx v' w' hr (h v' w' hR)
theorem wpList_append_of {P : Program} {w : World} {ops : Array Oper} {rest : List Oper} {o : Oper} {a : Act} {Q : Exit → Act → World → Prop} (hgd : o.guard = none) (s x : Operand) (t tn : TypeId)
  (ho : o.op = .call { callee := .builtin .append,args := #[s,x],argTypes := #[t,tn] }) (vs vx : Value) (hs : a.eval s = vs) (hx : a.eval x = vx)
  {W : World} {R : Value → World → Prop} (hA : ∀ X,Same X W → ∃ v' w',(Builtin.append_ #[t,tn] o.type #[vs,vx]).run P X = .ok v' w' ∧ R v' w') (hS : Same w W) (h : ∀ v' w',R v' w' → wpList P ops Q rest (a.put o.dst v') w') : wpList P ops Q (o :: rest) a w := by
 obtain ⟨v',w',hr,hR⟩ := hA w hS
 exact wpList_plain hgd fun _ hK => Lib.wp_append_run w s x t tn ho vs vx hs hx v' w' hr (hK _ _ (h v' w' hR))
theorem run_append_none {P : Program} (w : World) (t ty e : TypeId) (i : TypeInfo) (ht : P.underlying t = some (.slice e)) (hi : P.info? e = some i) (a : Option Addr) (n cap : Nat) (hle : n ≤ cap) (x : Option Addr) (c : Nat) :
  (Builtin.append_ #[t,t] ty #[.slice a n cap,.slice x 0 c]).run P w = .ok (.slice a n cap) w := by
 cases a <;> cases x <;> simp [Builtin.append_,run_underlying ht,sizeOf,typeInfo,hi,Builtin.lenOf,hle,Builtin.firstCells,loadCells,loadCellsFrom,storeCells]
theorem wpList_append_none {P : Program} (w : World) {ops : Array Oper} {rest : List Oper} {o : Oper} {act : Act} {Q : Exit → Act → World → Prop} (hgd : o.guard = none) (sl x : Operand) (t : TypeId)
  (hop : o.op = .call { callee := .builtin .append,args := #[sl,x],argTypes := #[t,t] }) (e : TypeId) (i : TypeInfo) (ht : P.underlying t = some (.slice e)) (hi : P.info? e = some i)
  (a : Option Addr) (n cap : Nat) (hs : act.eval sl = .slice a n cap) (hle : n ≤ cap) (y : Option Addr) (c : Nat) (hx : act.eval x = .slice y 0 c)
  (h : wpList P ops Q rest (act.put o.dst (.slice a n cap)) w) : wpList P ops Q (o :: rest) act w :=
 wpList_plain hgd fun _ hK => Lib.wp_append_run w sl x t t hop _ _ hs hx _ w (run_append_none w t o.type e i ht hi a n cap hle y c) (hK _ _ h)
theorem Bx.setC {w : World} {B : Nat} {T : TypeId} {cs : Array Value} (h : Bx w B T cs) (i : Nat) (v : Value) : Bx (w.setCell ⟨B,i,none⟩ v) B T (cs.setIfInBounds i v) := by
 have hh : w.heap[B]? = some (.cells cs T (0,0)) := h
 unfold Bx
 simp only [World.setCell]
 rw [Array.getElem?_modify,hh]
 simp
theorem Bx.wrt {w w' : World} {B : Nat} {T : TypeId} {cs : Array Value} {f : Fp} (h : Bx w B T cs) (hw : Wrt f w w') (hn : ¬ f B) : Bx w' B T cs := (hw.block B h.lt hn).trans h
theorem Bx.far {w : World} {B g i : Nat} {T : TypeId} {cs : Array Value} (h : Bx w B T cs) (hne : B ≠ g) (v : Value) : Bx (w.setCell ⟨g,i,none⟩ v) B T cs := h.wrt (Wrt.set w g i v) hne
theorem osl_far {w : World} {s g off n c p i : Nat} {xs : List Value} (h : OSl w s g off n c xs) (hne : g ≠ p) (v : Value) : OSl (w.setCell ⟨p,i,none⟩ v) s g off n c xs :=
 h.of_block ((Wrt.set w p i v).block g h.blk hne) (by simp [World.setCell];exact h.blk)
theorem ow_push {P : Program} {w : World} (t ty e : TypeId) (i : TypeInfo) (z : Value) (s bytes : Nat) (ht : P.underlying t = some (.slice e)) (hi : P.info? e = some i) (hz : i.zero = some z)
  (hsize : i.size = s) (hby : i.bytes = bytes) (hzs : z.cells.size = s) (hsz : 0 < s)
  {a : Option Addr} {n c : Nat} {cs ds : List Cel} {fp fd : Fp} (hO : Cel.ow w (.sl s n cs) (.slice a n c) fp) {vals : List Value} (hd : owL w ds vals fd) (hdis : ∀ b,fp b → ¬ fd b) (hl : vals.length = s) (h1 : ∀ u ∈ vals,u.oneCell' = true)
  (nb : Nat) (T : TypeId) (hnb : w.heap[nb]? = some (.cells vals.toArray T (0,0))) (h63 : n + 1 ≤ maxLen) (hbytes : (n + 1) * bytes ≤ 140737488355328) :
  ∃ a' c' w' fp',(Builtin.append_ #[t,t] ty #[.slice a n c,.slice (some ⟨nb,0,none⟩) 1 1]).run P w = .ok (.slice a' (n + 1) c') w' ∧ Cel.ow w' (.sl s (n + 1) (cs ++ ds)) (.slice a' (n + 1) c') fp' ∧ Wrt fp w w' ∧ ∀ b,fp' b → fp b ∨ fd b ∨ b = w.heap.size := by
 obtain ⟨a0,c0,us,G,f,e0,ho,hcs,hn,hf⟩ := hO
 cases e0
 obtain ⟨a',c',G',w',hr,ho',hg,hat⟩ := run_append_oo (P := P) w t ty e i z s bytes ht hi hz hsize hby hzs hsz a n c us G ho (some ⟨nb,0,none⟩) 1 1 vals (by omega) (.inr ⟨_,rfl,World.news_of_block hnb⟩) h1 h63 hbytes
 refine ⟨a',c',w',_,hr,ow_appended hcs hd hn (fun b hb => hdis b ((hf b).2 (.inl hb))) (fun b hb => hdis b ((hf b).2 (.inr hb))) ho' hg hat,(Wrt.of_grown hg).mono (fun b _ hb => (hf b).2 (.inl hb)),fun b hb => ?_⟩
 rcases hb with hb | hb | hb
 ·rcases hat with h | h
  ·exact .inl ((hf b).2 (.inl (h ▸ hb)))
  ·rw [h] at hb;cases hb;exact .inr (.inr rfl)
 ·exact .inl ((hf b).2 (.inr hb))
 ·exact .inr (.inl hb)
theorem ints_copied {P : Program} {w : World} (t ty e : TypeId) (i : TypeInfo) (ht : P.underlying t = some (.slice e)) (hi : P.info? e = some i) (hz : i.zero = some (.int .i64 0)) (hsize : i.size = 1) (hby : i.bytes = 8)
  {a : Option Addr} (ha : PlainA a) {x : Option Addr} {c : Nat} {xs : List Int} (hv : Vec w x xs.length xs) (hm : xs.length ≤ 1000000) :
  ∃ a' c' w' fp',(Builtin.append_ #[t,t] ty #[.slice a 0 0,.slice x xs.length c]).run P w = .ok (.slice a' xs.length c') w' ∧ Cel.ow w' (icl xs) (.slice a' xs.length c') fp' ∧ Wrt (fun _ => False) w w' ∧ ∀ b,fp' b → b = w.heap.size := by
 have hnews : xs.length = 0 ∨ ∃ ad,x = some ad ∧ ∀ j u,(xs.map (Value.int .i64))[j]? = some u → w.cell? (ad.add j) = some u := by
  rcases hv.2.2 with h | ⟨b,off,rfl,hc⟩
  ·exact .inl h
  ·exact .inr ⟨_,rfl,num_news hc⟩
 obtain ⟨a',c',G',w',hr,ho',hg,hat⟩ := run_append_oo (P := P) w t ty e i _ 1 8 ht hi hz hsize hby rfl (by omega) a 0 0 [] none (OSo.nil _ _ ha) x xs.length c (xs.map (Value.int .i64)) (by simp) hnews (by simp [Value.oneCell']) (by unfold maxLen;omega) (by omega)
 simp only [Nat.zero_add,List.nil_append] at hr ho'
 refine ⟨a',c',w',fun b => G' = some b,hr,ow_icl.2 ⟨a',c',G',rfl,ho',fun b => Iff.rfl⟩,(Wrt.of_grown hg).mono (fun b _ hb => by cases hb),fun b hb => ?_⟩
 rcases hat with h | h
 ·rw [h] at hb;cases hb
 ·rw [h] at hb;cases hb;rfl
end Go.Proofs.YtidnfdobljihoaaGreat
namespace Go.Proofs.YtidnfdobljihoaaGreat
set_option linter.unusedVariables false
set_option linter.unusedSimpArgs false
open Go.RowKit Go.Sort
def It (w : World) (cs : List Cel) (vs : List Value) (lo hi : Nat) : Prop := ∃ f,owL w cs vs f ∧ ∀ b,f b → lo ≤ b ∧ b < hi
theorem It.below {w w' : World} {cs : List Cel} {vs : List Value} {lo hi : Nat} (h : It w cs vs lo hi) (hb : Below w.heap.size w w') : It w' cs vs lo hi := by
 obtain ⟨f,h1,h2⟩ := h
 exact ⟨f,owL_below h1 hb,h2⟩
theorem It.wrt {w w' : World} {cs : List Cel} {vs : List Value} {lo hi : Nat} {f : Fp} (h : It w cs vs lo hi) (hw : Wrt f w w') (hd : ∀ b,f b → b < lo ∨ hi ≤ b) : It w' cs vs lo hi := by
 obtain ⟨g,h1,h2⟩ := h
 refine ⟨g,owL_wrt h1 hw (fun b hb hf => ?_),h2⟩
 have := h2 b hb
 rcases hd b hf with h | h <;> omega
theorem It.vw {w : World} {cs : List Cel} {vs : List Value} {lo hi : Nat} (h : It w cs vs lo hi) : vwL w cs vs := by
 obtain ⟨f,h1,_⟩ := h
 exact owL_vw h1
theorem It.of_new {w w' : World} {cs : List Cel} {vs : List Value} (h : NewL w w' cs vs) : It w' cs vs w.heap.size w'.heap.size := by
 obtain ⟨f,h1,h2,_⟩ := h
 exact ⟨f,h1,fun b hb => ⟨h2 b hb,owL_lt h1 b hb⟩⟩
theorem newL_one {w w' : World} {c : Cel} {v : Value} (h : NewO w w' c v) : NewL w w' [c] [v] := by
 obtain ⟨f,h1,h2,h3⟩ := h
 exact ⟨f,⟨v,[],f,fun _ => False,rfl,h1,⟨rfl,fun _ h => h⟩,fun _ _ h => h,fun b => by simp⟩,h2,h3⟩
theorem It.of_newO {w w' : World} {c : Cel} {v : Value} (h : NewO w w' c v) : It w' [c] [v] w.heap.size w'.heap.size := It.of_new (newL_one h)
theorem owL_one {w : World} {c : Cel} {v : Value} {f : Fp} : owL w [c] [v] f ↔ Cel.ow w c v f := by
 constructor
 ·rintro ⟨u,us,f1,f2,e,h1,h2,hd,hf⟩
  cases e
  exact Cel.ow_congr h1 (fun b => (hf b).trans ⟨fun h => h.elim id (fun h => absurd h (h2.2 b)),.inl⟩)
 ·intro h
  exact ⟨v,[],f,fun _ => False,rfl,h,⟨rfl,fun _ h => h⟩,fun _ _ h => h,fun b => by simp⟩
theorem It.ow1 {w : World} {c : Cel} {v : Value} {lo hi : Nat} (h : It w [c] [v] lo hi) : ∃ f,Cel.ow w c v f ∧ ∀ b,f b → lo ≤ b ∧ b < hi := by
 obtain ⟨f,h1,h2⟩ := h
 exact ⟨f,owL_one.1 h1,h2⟩
end Go.Proofs.YtidnfdobljihoaaGreat
namespace Go.Proofs.YtidnfdobljihoaaGreat
set_option linter.unusedVariables false
set_option linter.unusedSimpArgs false
open Go.RowKit Go.Sort
structure Pc (w : World) (B o : Nat) (vs : List Value) : Prop where
 cell : ∀ j,j < vs.length → w.cell? ⟨B,o + j,none⟩ = vs[j]?
 free : ∀ j,j < vs.length → w.frozen? ⟨B,o + j,none⟩ = false
 lt : B < w.heap.size
def Plc (w : World) (B o : Nat) (cs : List Cel) (fp : Fp) : Prop := ∃ vs,Pc w B o vs ∧ owL w cs vs fp ∧ ¬ fp B
structure Bcm (w w' : World) (B o : Nat) (cs : List Cel) (fp : Fp) : Prop where
 plc : ∃ fp',Plc w' B o cs fp' ∧ ∀ b,fp' b → fp b ∨ w.heap.size ≤ b
 out : ∀ j,j < o ∨ o + cs.length ≤ j → w'.cell? ⟨B,j,none⟩ = w.cell? ⟨B,j,none⟩
 frz : ∀ j,w'.frozen? ⟨B,j,none⟩ = w.frozen? ⟨B,j,none⟩
 wrt : Wrt (fun b => fp b ∨ b = B) w w'
theorem Pc.of_block {w w' : World} {B o : Nat} {vs : List Value} (h : Pc w B o vs) (e : w'.heap[B]? = w.heap[B]?) (hs : w.heap.size ≤ w'.heap.size) : Pc w' B o vs :=
 ⟨fun j hj => by rw [World.cell?_of_block (w := w) e];exact h.cell j hj,fun j hj => by rw [show w'.frozen? ⟨B,o + j,none⟩ = w.frozen? ⟨B,o + j,none⟩ from by simp only [World.frozen?,e]];exact h.free j hj,Nat.lt_of_lt_of_le h.lt hs⟩
theorem Plc.wrt {w w' : World} {B o : Nat} {cs : List Cel} {fp f : Fp} (h : Plc w B o cs fp) (hw : Wrt f w w') (hd : ∀ b,fp b ∨ b = B → ¬ f b) : Plc w' B o cs fp := by
 obtain ⟨vs,h1,h2,h3⟩ := h
 exact ⟨vs,h1.of_block (hw.block B h1.lt (hd B (.inr rfl))) hw.size,owL_wrt h2 hw (fun b hb => hd b (.inl hb)),h3⟩
theorem Plc.below {w w' : World} {B o : Nat} {cs : List Cel} {fp : Fp} (h : Plc w B o cs fp) (hb : Below w.heap.size w w') : Plc w' B o cs fp := h.wrt (f := fun _ => False) (Wrt.of_below hb) (fun _ _ h => h)
theorem Plc.lt {w : World} {B o : Nat} {cs : List Cel} {fp : Fp} (h : Plc w B o cs fp) : B < w.heap.size := by
 obtain ⟨vs,h1,_⟩ := h
 exact h1.lt
theorem Plc.flt {w : World} {B o : Nat} {cs : List Cel} {fp : Fp} (h : Plc w B o cs fp) : ∀ b,fp b → b < w.heap.size := by
 obtain ⟨vs,_,h1,_⟩ := h
 exact owL_lt h1
theorem Plc.nB {w : World} {B o : Nat} {cs : List Cel} {fp : Fp} (h : Plc w B o cs fp) : ¬ fp B := by
 obtain ⟨vs,_,_,h1⟩ := h
 exact h1
theorem Bcm.refl {w : World} {B o : Nat} {cs : List Cel} {fp : Fp} (h : Plc w B o cs fp) : Bcm w w B o cs fp := ⟨⟨fp,h,fun b hb => .inl hb⟩,fun _ _ => rfl,fun _ => rfl,Wrt.refl _ _⟩
theorem Bcm.next {w w1 : World} {B o : Nat} {cs1 : List Cel} {fp : Fp} (h : Bcm w w1 B o cs1 fp) : ∃ fp1,Plc w1 B o cs1 fp1 ∧ (∀ b,fp1 b → fp b ∨ w.heap.size ≤ b) ∧ ∀ w2 cs2,cs2.length = cs1.length → Bcm w1 w2 B o cs2 fp1 → Bcm w w2 B o cs2 fp := by
 obtain ⟨⟨fp1,h1,h2⟩,h3,h4,h5⟩ := h
 refine ⟨fp1,h1,h2,fun w2 cs2 hl k => ?_⟩
 obtain ⟨⟨fp2,k1,k2⟩,k3,k4,k5⟩ := k
 refine ⟨⟨fp2,k1,fun b hb => ?_⟩,fun j hj => (k3 j hj).trans (h3 j (by omega)),fun j => (k4 j).trans (h4 j),h5.trans k5 (fun b hb hk => ?_)⟩
 ·rcases k2 b hb with hb | hb
  ·exact h2 b hb
  ·exact .inr (Nat.le_trans h5.size hb)
 ·rcases hk with hk | hk
  ·rcases h2 b hk with hk | hk
   ·exact .inl hk
   ·omega
  ·exact .inr hk
theorem Bcm.below {w w1 w2 : World} {B o : Nat} {cs : List Cel} {fp : Fp} (h : Bcm w w1 B o cs fp) (hb : Below w1.heap.size w1 w2) : Bcm w w2 B o cs fp := by
 obtain ⟨fp1,h1,h2,h3⟩ := h.next
 have e := hb.block B h1.lt
 exact h3 w2 cs rfl ⟨⟨fp1,h1.below hb,fun b hb => .inl hb⟩,fun j _ => World.cell?_of_block e,fun j => by simp only [World.frozen?,e],Wrt.of_below hb⟩
theorem Bcm.first {w0 w w1 : World} {B o : Nat} {cs : List Cel} {fp : Fp} (h : Bcm w w1 B o cs fp) (hb : Below w0.heap.size w0 w) (hB : B < w0.heap.size) (hl : ∀ b,fp b → b < w0.heap.size) : Bcm w0 w1 B o cs fp := by
 obtain ⟨⟨fp1,h1,h2⟩,h3,h4,h5⟩ := h
 have e := hb.block B hB
 refine ⟨⟨fp1,h1,fun b hb' => (h2 b hb').imp id (fun h => Nat.le_trans hb.size h)⟩,fun j hj => (h3 j hj).trans (World.cell?_of_block e),fun j => (h4 j).trans (by simp only [World.frozen?,e]),(Wrt.of_below (f := fun b => fp b ∨ b = B) hb).trans h5 (fun _ _ h => h)⟩
theorem Plc.at {w : World} {B o : Nat} {cs : List Cel} {fp : Fp} (h : Plc w B o cs fp) {j : Nat} {c : Cel} (hj : cs[j]? = some c) : ∃ u f,w.cell? ⟨B,o + j,none⟩ = some u ∧ w.frozen? ⟨B,o + j,none⟩ = false ∧ Cel.ow w c u f ∧ (∀ b,f b → fp b) ∧ ¬ f B ∧
  ∀ (w1 : World) (c' : Cel) (u' : Value) (f' : Fp),Wrt f w w1 → Cel.ow w1 c' u' f' → (∀ b,f' b → f b ∨ w.heap.size ≤ b) → w1.cell? ⟨B,o + j,none⟩ = some u ∧ w1.frozen? ⟨B,o + j,none⟩ = false ∧ Bcm w (w1.setCell ⟨B,o + j,none⟩ u') B o (cs.set j c') fp ∧ (u' = u → Bcm w w1 B o (cs.set j c') fp) := by
 obtain ⟨vs,h1,h2,h3⟩ := h
 have hlen := owL_len h2
 have hjl : j < cs.length := by
  rcases Nat.lt_or_ge j cs.length with h | h
  ·exact h
  ·rw [List.getElem?_eq_none h] at hj;cases hj
 obtain ⟨u,f,hu,hc,hs,hp⟩ := owL_at h2 hj
 have hfB : ¬ f B := fun k => h3 (hs B k)
 have hB := h1.lt
 refine ⟨u,f,(h1.cell j (by omega)).trans hu,h1.free j (by omega),hc,hs,hfB,fun w1 c' u' f' hw hc' hf' => ?_⟩
 have e1 := hw.block B hB hfB
 have hP1 := h1.of_block e1 hw.size
 have hlt := owL_lt h2
 have hf'B : ¬ f' B := fun k => by rcases hf' B k with k | k;exact hfB k;omega
 have hc1 : w1.cell? ⟨B,o + j,none⟩ = some u := (hP1.cell j (by omega)).trans hu
 refine ⟨hc1,hP1.free j (by omega),⟨⟨fun b => f' b ∨ fp b ∧ ¬ f b,⟨vs.set j u',⟨fun k hk => ?_,fun k hk => ?_,by simp [World.setCell];exact hP1.lt⟩, ?_, ?_⟩, ?_⟩,fun k hk => ?_,fun k => ?_, ?_⟩,fun e => ⟨⟨fun b => f' b ∨ fp b ∧ ¬ f b,⟨vs,hP1, ?_, ?_⟩, ?_⟩,fun k hk => World.cell?_of_block e1,fun k => by simp only [World.frozen?,e1],hw.mono (fun b _ hb => .inl (hs b hb))⟩⟩
 ·by_cases ek : j = k
  ·subst ek
   rw [World.cell?_setCell_same _ _ _ hc1]
   simp at hk
   simp [hk]
  ·rw [World.cell?_setCell_other _ _ _ _ (by simp [ek]),hP1.cell k (by simpa using hk)]
   simp [ek]
 ·rw [World.frozen?_setCell];exact hP1.free k (by simpa using hk)
 ·have hw2 := Wrt.set w1 B (o + j) u'
  exact hp _ c' u' f' (Nat.le_trans hw.size hw2.size) (Cel.ow_wrt hc' hw2 (fun b hb e => hf'B (e ▸ hb))) (fun b hb hn => (hw2.block b (Nat.lt_of_lt_of_le (hlt b hb) hw.size) (fun e => h3 (e ▸ hb))).trans (hw.block b (hlt b hb) hn)) (fun b hb hb2 => by
   rcases hf' b hb with k | k
   ·exact k
   ·have := hlt b hb2;omega)
 ·rintro (k | ⟨k,_⟩)
  ·exact hf'B k
  ·exact h3 k
 ·rintro b (k | ⟨k,_⟩)
  ·exact (hf' b k).imp (hs b) id
  ·exact .inl k
 ·have hk2 := hk
  rw [List.length_set] at hk2
  rw [World.cell?_setCell_other _ _ _ _ (by simp only [ne_eq,Addr.mk.injEq,not_and];omega)]
  exact World.cell?_of_block e1
 ·rw [World.frozen?_setCell];simp only [World.frozen?,e1]
 ·exact (hw.mono (fun b _ hb => Or.inl (hs b hb))).trans (Wrt.set w1 B (o + j) u') (fun b _ hb => .inr hb)
 ·subst e
  have := hp w1 c' u' f' hw.size hc' (fun b hb hn => hw.block b (hlt b hb) hn) (fun b hb hb2 => by
   rcases hf' b hb with k | k
   ·exact k
   ·have := hlt b hb2;omega)
  have e2 : vs.set j u' = vs := by
   apply List.ext_getElem? ;intro i
   by_cases ei : j = i
   ·subst ei;rw [hu,List.getElem?_set_self (by omega)]
   ·simp [ei]
  rwa [e2] at this
 ·rintro (k | ⟨k,_⟩)
  ·exact hf'B k
  ·exact h3 k
 ·rintro b (k | ⟨k,_⟩)
  ·exact (hf' b k).imp (hs b) id
  ·exact .inl k
theorem ow_el {w : World} {s n c : Nat} {a : Option Addr} {ds : List Cel} {fp : Fp} (h : Cel.ow w (.sl s n ds) (.slice a n c) fp) {k : Nat} (hk : k < n) (hs : 0 < s) : ∃ g off f,a = some ⟨g,off,none⟩ ∧ fp g ∧ (∀ b,f b → fp b) ∧ Plc w g (off + k * s) ((ds.drop (k * s)).take s) f ∧ g < w.heap.size ∧
  ∀ (w1 : World) (es : List Cel),es.length = s → Bcm w w1 g (off + k * s) es f → ∃ fp',Cel.ow w1 (.sl s n (ds.take (k * s) ++ es ++ ds.drop (k * s + s))) (.slice a n c) fp' ∧ (∀ b,fp' b → fp b ∨ w.heap.size ≤ b) ∧ Wrt fp w w1 := by
 obtain ⟨a0,c0,us,G,f0,e0,ho,hl,hG,hf⟩ := h
 cases e0
 rcases ho with ⟨h0,_⟩ | ⟨g,off,rfl,ho,rfl⟩
 ·omega
 have hul := ho.len
 have hdl := owL_len hl
 have hks : k * s + s ≤ n * s := by
  have : (k + 1) * s ≤ n * s := Nat.mul_le_mul_right s hk
  rw [Nat.add_mul,Nat.one_mul] at this
  exact this
 have e1 : ds = ds.take (k * s) ++ ((ds.drop (k * s)).take s ++ ds.drop (k * s + s)) := by
  rw [← List.drop_drop,List.take_append_drop,List.take_append_drop]
 rw [e1] at hl
 obtain ⟨u1,u23,f1,f23,rfl,hl1,hl23,hd1,hf1⟩ := owL_split hl
 obtain ⟨u2,u3,f2,f3,rfl,hl2,hl3,hd2,hf2⟩ := owL_split hl23
 have n1 : u1.length = k * s := by rw [owL_len hl1,List.length_take];omega
 have n2 : u2.length = s := by rw [owL_len hl2,List.length_take,List.length_drop];omega
 have hfg : ∀ b,f2 b → f0 b := fun b hb => (hf1 b).2 (.inr ((hf2 b).2 (.inl hb)))
 have hgn : ¬ f0 g := fun hb => hG g rfl hb
 have hblk := ho.blk
 have hle := ho.le
 have hcs : n * s ≤ c * s := Nat.mul_le_mul_right s hle
 refine ⟨g,off,f2,rfl,(hf g).2 (.inl rfl),fun b hb => (hf b).2 (.inr (hfg b hb)),⟨u2,⟨fun j hj => ?_,fun j hj => ?_,hblk⟩,hl2,fun hb => hgn (hfg g hb)⟩,hblk,fun w1 es hes hb => ?_⟩
 ·have := ho.cell (k * s + j) (by omega)
  rw [Nat.add_assoc,this,List.getElem?_append_right (by omega),List.getElem?_append_left (by omega),n1]
  congr 1
  omega
 ·have := ho.free (k * s + j) (by omega)
  rw [Nat.add_assoc]
  exact this
 ·obtain ⟨⟨fp1,⟨vs,hv1,hv2,hv3⟩,hx⟩,hout,hfr,hw⟩ := hb
  have nv : vs.length = s := by rw [owL_len hv2,hes]
  have hlt1 := owL_lt hl1
  have hlt3 := owL_lt hl3
  have k1 : owL w1 (ds.take (k * s)) u1 f1 := owL_wrt hl1 hw (fun b hb hk => by
   rcases hk with hk | hk
   ·exact hd1 b hb ((hf2 b).2 (.inl hk))
   ·exact hgn (hk ▸ (hf1 b).2 (.inl hb)))
  have k3 : owL w1 (ds.drop (k * s + s)) u3 f3 := owL_wrt hl3 hw (fun b hb hk => by
   rcases hk with hk | hk
   ·exact hd2 b hk hb
   ·exact hgn (hk ▸ (hf1 b).2 (.inr ((hf2 b).2 (.inr hb)))))
  have k12 := owL_append k1 hv2 (fun b hb hb2 => by
   rcases hx b hb2 with hk | hk
   ·exact hd1 b hb ((hf2 b).2 (.inl hk))
   ·have := hlt1 b hb;omega)
  have k123 := owL_append k12 k3 (fun b hb hb2 => by
   rcases hb with hb | hb
   ·exact hd1 b hb ((hf2 b).2 (.inr hb2))
   ·rcases hx b hb with hk | hk
    ·exact hd2 b hk hb2
    ·have := hlt3 b hb2;omega)
  have hin : ∀ b,((f1 b ∨ fp1 b) ∨ f3 b) → f0 b ∨ w.heap.size ≤ b := by
   rintro b ((hb | hb) | hb)
   ·exact .inl ((hf1 b).2 (.inl hb))
   ·exact (hx b hb).imp (hfg b) id
   ·exact .inl ((hf1 b).2 (.inr ((hf2 b).2 (.inr hb))))
  refine ⟨fun b => some g = some b ∨ ((f1 b ∨ fp1 b) ∨ f3 b),⟨some ⟨g,off,none⟩,c,u1 ++ vs ++ u3,some g,_,rfl,.inr ⟨g,off,rfl,⟨?_,hle,ho.max,Nat.lt_of_lt_of_le hblk hw.size,fun i hi => ?_,fun i hi => ?_,fun i hi => by rw [hfr];exact ho.free i hi⟩,rfl⟩,k123,fun b hb hk => ?_,fun b => Iff.rfl⟩,fun b hb => ?_,hw.mono (fun b _ hb => ?_)⟩
  ·simp only [List.length_append] at hul ⊢;omega
  ·by_cases i1 : i < k * s
   ·rw [hout (off + i) (by omega),ho.cell i hi,List.getElem?_append_left (by omega),List.append_assoc,List.getElem?_append_left (by omega)]
   ·by_cases i2 : i < k * s + s
    ·have := hv1.cell (i - k * s) (by omega)
     rw [show off + i = off + k * s + (i - k * s) by omega,this,List.append_assoc,List.getElem?_append_right (by omega),List.getElem?_append_left (by omega),n1]
    ·rw [hout (off + i) (by omega),ho.cell i hi,List.getElem?_append_right (by omega),List.getElem?_append_right (by omega),List.append_assoc,List.getElem?_append_right (by omega),List.getElem?_append_right (by omega),n1,n2,nv]
  ·by_cases i1 : i < k * s ∨ k * s + s ≤ i
   ·rw [hout (off + i) (by omega)];exact ho.some i hi
   ·have := hv1.cell (i - k * s) (by omega)
    rw [show off + i = off + k * s + (i - k * s) by omega,this,List.getElem?_eq_getElem (by omega)]
    rfl
  ·cases hb
   rcases hin _ hk with hk | hk
   ·exact hgn hk
   ·omega
  ·rcases hb with hb | hb
   ·cases hb;exact .inl ((hf g).2 (.inl rfl))
   ·exact (hin b hb).imp (fun h => (hf b).2 (.inr h)) id
  ·rcases hb with hb | hb
   ·exact (hf b).2 (.inr (hfg b hb))
   ·exact (hf b).2 (.inl (by rw [hb]))
theorem flat_take {α : Type} {F : α → List Cel} {s : Nat} (hs : ∀ x,(F x).length = s) : ∀ {L : List α} {k : Nat} {x : α},L[k]? = some x → ((L.flatMap F).drop (k * s)).take s = F x
 | [],k,x,h => by simp at h
 | y :: L,0,x,h => by
  simp at h
  subst h
  rw [Nat.zero_mul,List.drop_zero,List.flatMap_cons,List.take_append_of_le_length (by rw [hs];exact Nat.le_refl _),List.take_of_length_le (by rw [hs];exact Nat.le_refl _)]
 | y :: L,k + 1,x,h => by
  rw [List.flatMap_cons,show (k + 1) * s = (F y).length + k * s by rw [hs,Nat.add_mul];omega,List.drop_append]
  simp only [List.getElem?_cons_succ] at h
  have := flat_take hs h
  rw [Nat.add_sub_cancel_left,List.drop_eq_nil_of_le (by omega),List.nil_append]
  exact this
theorem flat_set {α : Type} {F : α → List Cel} {s : Nat} (hs : ∀ x,(F x).length = s) : ∀ {L : List α} {k : Nat} (y : α),k < L.length → (L.flatMap F).take (k * s) ++ F y ++ (L.flatMap F).drop (k * s + s) = (L.set k y).flatMap F
 | [],k,y,h => by simp at h
 | x :: L,0,y,h => by
  rw [Nat.zero_mul,List.take_zero,List.nil_append,Nat.zero_add,List.set_cons_zero,List.flatMap_cons,List.flatMap_cons,List.drop_append,List.drop_eq_nil_of_le (by rw [hs];exact Nat.le_refl _),hs,Nat.sub_self,List.drop_zero,List.nil_append]
 | x :: L,k + 1,y,h => by
  have ih := flat_set hs (L := L) (k := k) y (by simpa using h)
  have e : (k + 1) * s = (F x).length + k * s := by rw [hs,Nat.add_mul];omega
  rw [List.set_cons_succ,List.flatMap_cons,List.flatMap_cons,← ih,e,List.take_length_add_append,show (F x).length + k * s + s = (F x).length + (k * s + s) by omega,List.drop_length_add_append]
  simp only [List.append_assoc]
def lcl {α : Type} (s : Nat) (F : α → List Cel) (L : List α) : Cel := .sl s L.length (L.flatMap F)
theorem ow_elF {α : Type} {F : α → List Cel} {s : Nat} (hF : ∀ x,(F x).length = s) (hs : 0 < s) {w : World} {a : Option Addr} {c : Nat} {L : List α} {fp : Fp} (h : Cel.ow w (lcl s F L) (.slice a L.length c) fp) {k : Nat} {x : α} (hk : L[k]? = some x) : ∃ g off f,a = some ⟨g,off,none⟩ ∧ fp g ∧ (∀ b,f b → fp b) ∧ Plc w g (off + k * s) (F x) f ∧ g < w.heap.size ∧
  ∀ (w1 : World) (y : α),Bcm w w1 g (off + k * s) (F y) f → ∃ fp',Cel.ow w1 (lcl s F (L.set k y)) (.slice a L.length c) fp' ∧ (∀ b,fp' b → fp b ∨ w.heap.size ≤ b) ∧ Wrt fp w w1 := by
 have hkl : k < L.length := by
  rcases Nat.lt_or_ge k L.length with h | h
  ·exact h
  ·rw [List.getElem?_eq_none h] at hk;cases hk
 obtain ⟨g,off,f,h1,h2,h3,h4,h5,h6⟩ := ow_el h hkl hs
 rw [flat_take hF hk] at h4
 refine ⟨g,off,f,h1,h2,h3,h4,h5,fun w1 y hb => ?_⟩
 have := h6 w1 (F y) (hF y) hb
 rw [flat_set hF y hkl] at this
 unfold lcl
 rw [List.length_set]
 exact this
theorem Plc.el {α : Type} {F : α → List Cel} {s : Nat} (hF : ∀ x,(F x).length = s) (hs : 0 < s) {w : World} {B o : Nat} {cs : List Cel} {fp : Fp} (h : Plc w B o cs fp) {j : Nat} {L : List α} (hj : cs[j]? = some (lcl s F L)) {k : Nat} {x : α} (hk : L[k]? = some x) : ∃ g off c f,w.cell? ⟨B,o + j,none⟩ = some (.slice (some ⟨g,off,none⟩) L.length c) ∧ g ≠ B ∧ fp g ∧ (∀ b,f b → fp b) ∧ Plc w g (off + k * s) (F x) f ∧
  ∀ (w1 : World) (y : α),Bcm w w1 g (off + k * s) (F y) f → Bcm w w1 B o (cs.set j (lcl s F (L.set k y))) fp := by
 obtain ⟨u,fj,hu,hfz,hc,hsub,hnB,hput⟩ := h.at hj
 obtain ⟨a,c,us,G,f0,rfl,ho⟩ := hc
 have hc : Cel.ow w (lcl s F L) (.slice a L.length c) fj := ⟨a,c,us,G,f0,rfl,ho⟩
 obtain ⟨g,off,f,rfl,h2,h3,h4,h5,h6⟩ := ow_elF hF hs hc hk
 refine ⟨g,off,c,f,hu,fun e => hnB (e ▸ h2),hsub g h2,fun b hb => hsub b (h3 b hb),h4,fun w1 y hb => ?_⟩
 obtain ⟨fp',k1,k2,k3⟩ := h6 w1 y hb
 have := (hput w1 (lcl s F (L.set k y)) _ fp' k3 k1 k2).2.2.2 rfl
 exact this
end Go.Proofs.YtidnfdobljihoaaGreat
namespace Go.Proofs.YtidnfdobljihoaaGreat
set_option linter.unusedVariables false
set_option linter.unusedSimpArgs false
def seqB (n s i : Int) : Bool := inB n 1 8 && inB s 0 (n - 1) && inB i 0 100000
def seqL (n s i : Int) : Int := if seqB n s i then n * i + s else -1
def tellB (n q : Int) : Bool := inB n 1 8 && inB q 0 800000
def sndL (n q : Int) : Int := if tellB n q then q % n else -1
def idxL (n q : Int) : Int := if tellB n q then q / n else -1
theorem inB7 {x lo hi : Int} : inB x lo hi = true ↔ lo ≤ x ∧ x ≤ hi := by simp [inB]
theorem seqB_iff {n s i : Int} : seqB n s i = true ↔ (1 ≤ n ∧ n ≤ 8) ∧ (0 ≤ s ∧ s ≤ n - 1) ∧ 0 ≤ i ∧ i ≤ 100000 := by simp [seqB,inB7,and_assoc]
theorem tellB_iff {n q : Int} : tellB n q = true ↔ (1 ≤ n ∧ n ≤ 8) ∧ 0 ≤ q ∧ q ≤ 800000 := by simp [tellB,inB7]
def okCt (cs : List Int) : Bool := okB cs && cs.all (fun c => decide (c ≤ 100000))
def bel (cs : List Int) (q : Nat) : Prop := ((q / cs.length : Nat) : Int) < el cs (q % cs.length)
def IsWov (cs : List Int) (Z : List Int) : Prop := Z.Pairwise (· < ·) ∧ ∀ q : Int,q ∈ Z ↔ 0 ≤ q ∧ bel cs q.toNat
theorem rising_unique : ∀ {A B : List Int},A.Pairwise (· < ·) → B.Pairwise (· < ·) → (∀ q,q ∈ A ↔ q ∈ B) → A = B := by
 intro A
 induction A with
 | nil =>
  intro B _ _ h
  cases B with
  | nil => rfl
  | cons b B => exact absurd ((h b).2 (by simp)) (by simp)
 | cons a A ih =>
  intro B hA hB h
  cases B with
  | nil => exact absurd ((h a).1 (by simp)) (by simp)
  | cons b B =>
   rw [List.pairwise_cons] at hA hB
   have hab : a = b := by
    have h1 := (h a).1 (by simp)
    have h2 := (h b).2 (by simp)
    rcases List.mem_cons.1 h1 with e | e
    ·exact e
    ·rcases List.mem_cons.1 h2 with e' | e'
     ·exact e'.symm
     ·have := hB.1 a e
      have := hA.1 b e'
      omega
   subst hab
   rw [ih hA.2 hB.2 (fun q => ?_)]
   constructor
   ·intro hq
    rcases List.mem_cons.1 ((h q).1 (List.mem_cons_of_mem _ hq)) with e | e
    ·have := hA.1 q hq;omega
    ·exact e
   ·intro hq
    rcases List.mem_cons.1 ((h q).2 (List.mem_cons_of_mem _ hq)) with e | e
    ·have := hB.1 q hq;omega
    ·exact e
theorem IsWov.unique {cs Z Y : List Int} (h : IsWov cs Z) (k : IsWov cs Y) : Z = Y := rising_unique h.1 k.1 (fun q => (h.2 q).trans (k.2 q).symm)
def rdy (cs : List Int) (k : Nat) (b : Int) : Int := (List.range k).foldl (fun b i => min b ((cs.length : Int) * el cs i + (i : Int))) b
set_option linter.unusedVariables false
set_option linter.unusedSimpArgs false
def row (H : List (List Int)) (i : Nat) : List Int := H.getD i []
def okRow (B : Int) (h : List Int) : Prop := (∀ i,i < h.length → 0 ≤ el h i ∧ el h i ≤ B - 1) ∧ ∀ i,i < h.length - 1 → el h i < el h (i + 1)
instance (B : Int) (h : List Int) : Decidable (okRow B h) := by unfold okRow;infer_instance
def okRel (N B : Int) (H : List (List Int)) : Prop := (1 ≤ N ∧ N ≤ 12) ∧ (1 ≤ B ∧ B ≤ 12) ∧ (H.length : Int) = N ∧ ((row H 0).length : Int) = B ∧ ∀ i,i < H.length → okRow B (row H i)
instance (N B : Int) (H : List (List Int)) : Decidable (okRel N B H) := by unfold okRel;infer_instance
def putL : List Int → Int → List Int
 | [],n => [n]
 | x :: l,n => if x < n then x :: putL l n else if x = n then x :: l else n :: x :: l
theorem mem_putL {h : List Int} {n q : Int} : q ∈ putL h n ↔ q = n ∨ q ∈ h := by
 induction h with
 | nil => simp [putL]
 | cons x l ih =>
  unfold putL
  split
  ·rw [List.mem_cons,ih,List.mem_cons]
   constructor
   ·rintro (h | h | h)
    ·exact .inr (.inl h)
    ·exact .inl h
    ·exact .inr (.inr h)
   ·rintro (h | h | h)
    ·exact .inr (.inl h)
    ·exact .inl h
    ·exact .inr (.inr h)
  ·split
   ·rename_i h1 h2
    subst h2
    simp
   ·simp
theorem rises_pairwise {h : List Int} : (∀ i,i < h.length - 1 → el h i < el h (i + 1)) ↔ h.Pairwise (· < ·) := by
 rw [List.pairwise_iff_getElem]
 constructor
 ·intro hr i j hi hj hij
  have : ∀ d,∀ (hd : i + d + 1 < h.length),el h i < el h (i + d + 1) := by
   intro d
   induction d with
   | zero => intro hd;exact hr i (by omega)
   | succ d ih => intro hd;exact Int.lt_trans (ih (by omega)) (hr (i + d + 1) (by omega))
  have h2 := this (j - i - 1) (by omega)
  rw [show i + (j - i - 1) + 1 = j by omega] at h2
  simpa [el,hi,hj] using h2
 ·intro hr i hi
  have := hr i (i + 1) (by omega) (by omega) (by omega)
  simpa [el,show i < h.length by omega,show i + 1 < h.length by omega] using this
theorem putL_rises {h : List Int} {n : Int} (hr : h.Pairwise (· < ·)) : (putL h n).Pairwise (· < ·) := by
 induction h with
 | nil => simp [putL]
 | cons x l ih =>
  rw [List.pairwise_cons] at hr
  unfold putL
  split
  ·rename_i h1
   rw [List.pairwise_cons]
   refine ⟨fun q hq => ?_,ih hr.2⟩
   rcases mem_putL.1 hq with h | h
   ·rw [h];exact h1
   ·exact hr.1 q h
  ·split
   ·exact List.pairwise_cons.2 hr
   ·rename_i h1 h2
    rw [List.pairwise_cons]
    refine ⟨fun q hq => ?_,List.pairwise_cons.2 hr⟩
    rcases List.mem_cons.1 hq with h | h
    ·omega
    ·have := hr.1 q h;omega
abbrev Ps := Int × Int × Int
def pat (cs : List Ps) (i : Nat) : Ps := cs.getD i (0,0,0)
def psOk (N : Int) (H : List (List Int)) (cs : List Ps) (i : Nat) : Prop :=
 (0 ≤ (pat cs i).1 ∧ (pat cs i).1 ≤ N - 1) ∧ (0 ≤ (pat cs i).2.1 ∧ (pat cs i).2.1 ≤ N - 1) ∧ (pat cs i).2.2 ∈ row H (pat cs i).1.toNat ∧ ∀ k,k < i → (pat cs k).1 ≠ (pat cs i).1 ∧ (pat cs k).2.1 ≠ (pat cs i).2.1
instance (N : Int) (H : List (List Int)) (cs : List Ps) (i : Nat) : Decidable (psOk N H cs i) := by unfold psOk;infer_instance
def turnOk (N : Int) (H : List (List Int)) (cs : List Ps) : Prop := ∀ i,i < cs.length → psOk N H cs i
instance (N : Int) (H : List (List Int)) (cs : List Ps) : Decidable (turnOk N H cs) := by unfold turnOk;infer_instance
def fullH (B : Int) (H : List (List Int)) : Prop := ∀ i,i < H.length → ((row H i).length : Int) = B
instance (B : Int) (H : List (List Int)) : Decidable (fullH B H) := by unfold fullH;infer_instance
set_option linter.unusedVariables false
set_option linter.unusedSimpArgs false
open Go.RowKit Go.Sort
structure VV (w : World) (a : Option Addr) (len cap : Nat) (H : List (List Int)) : Prop where
 n : H.length = len
 le : len ≤ cap
 mx : cap ≤ maxLen
 row : ∀ i,i < len → ∃ b off x c,a = some ⟨b,off,none⟩ ∧ w.cell? ⟨b,off + i,none⟩ = some (.slice x (row H i).length c) ∧ Vec w x (row H i).length (row H i) ∧ (row H i).length ≤ c ∧ c ≤ maxLen
theorem el_mem10 {xs : List Int} {x : Int} : x ∈ xs ↔ ∃ j,j < xs.length ∧ el xs j = x := by
 constructor
 ·intro h
  obtain ⟨i,hi,rfl⟩ := List.getElem_of_mem h
  exact ⟨i,hi,by rw [el_eq hi]⟩
 ·rintro ⟨j,hj,rfl⟩
  exact el_mem hj
def risB (xs : List Int) : Bool := decide (∀ i,i < xs.length - 1 → el xs i < el xs (i + 1))
set_option maxHeartbeats 400000 in
theorem l1Has_any (a : Option Addr) (len cap : Nat) (x : Int) (xs : List Int) (w : World) (hv : Vec w a len xs) (hm : len ≤ maxLen) :
  Calls Tryz.prog 51 #[.slice a len cap,.int .i64 x] w fun e w' => e = .returned (.bool (decide (x ∈ xs))) ∧ w' = w := by
 unfold maxLen at hm
 have HL : Hid (xs.length = len) := hv.1
 have hc := hv.2.2
 clear hv
 go_enter Tryz.func51,Tryz.ntmps51
 go_wp2
 go_loop [5] (fun i => ∃ k : Nat,k ≤ len ∧ i = .int .i64 k ∧ ∀ j,j < k → el xs j ≠ x) (fun i => len - (intOf i).toNat)
 case atStart => exact ⟨0,Nat.zero_le _,rfl,fun j hj => by omega⟩
 case round =>
  obtain ⟨k,hk,rfl,hno⟩ := hrel
  have HN : Hid (∀ j,j < k → el xs j ≠ x) := hno
  clear hno
  by_cases hlt : k < len
  ·rcases hc with h0 | ⟨b,off,rfl,hc⟩
   ·omega
   have hck := hc k hlt
   by_cases he : el xs k = x
   ·have hb : (el xs k == x) = true := by simpa using he
    have HF : Hid (decide (x ∈ xs) = true) := by rw [Hid,decide_eq_true_eq];exact el_mem10.2 ⟨k,by rw [HL.out];exact hlt,he⟩
    clear he
    go_wp2
    go_ret
    exact ⟨ret_bool (by rw [HF.out]),rfl⟩
   ·have hb : (el xs k == x) = false := by simpa using he
    have HE : Hid (el xs k ≠ x) := he
    clear he
    go_wp2
    go_round
    case rel => exact ⟨k + 1,by omega,by go_num,fun j hj => by
     rcases Nat.lt_succ_iff_lt_or_eq.1 hj with h | h
     ·exact HN.out j h
     ·rw [h];exact HE.out⟩
    case measure => simp [intOf];omega
  ·have HF : Hid (decide (x ∈ xs) = false) := by
    rw [Hid,decide_eq_false_iff_not,el_mem10]
    rintro ⟨j,hj,e⟩
    exact HN.out j (by rw [HL.out] at hj;omega) e
   clear hc
   go_wp2
   go_ret
   exact ⟨ret_bool (by rw [HF.out]),rfl⟩
set_option maxHeartbeats 800000 in
theorem l1Rises_any (a : Option Addr) (len cap : Nat) (xs : List Int) (w : World) (hv : Vec w a len xs) (hm : len ≤ maxLen) :
  Calls Tryz.prog 49 #[.slice a len cap] w fun e w' => e = .returned (.bool (risB xs)) ∧ ∃ n,w' = w.drewN n := by
 unfold maxLen at hm
 have HL : Hid (xs.length = len) := hv.1
 have hc := hv.2.2
 clear hv
 go_enter Tryz.func49,Tryz.ntmps49
 go_wp2
 go_loopw [3] (fun i wr => ∃ k n : Nat,k ≤ len ∧ i = .int .i64 ((k : Int) + 1) ∧ wr = w.drewN n ∧ ∀ j,j < k → el xs j < el xs (j + 1)) (fun i _ => (len + 1) - (intOf i).toNat)
 case atStart => exact ⟨0,0,Nat.zero_le _,rfl,rfl,fun j hj => by omega⟩
 case round =>
  obtain ⟨k,n,hk,rfl,rfl,hr⟩ := hrel
  have HR : Hid (∀ j,j < k → el xs j < el xs (j + 1)) := hr
  clear hr
  by_cases hlt : k + 1 < len
  ·rcases hc with h0 | ⟨b,off,rfl,hc⟩
   ·omega
   have c1 := hc (k + 1) hlt
   have c0 := hc k (by omega)
   have h1 : (k : Int) + 1 < (len : Int) := by omega
   have h2 : (k : Int) < (len : Int) := by omega
   have h0 : (0 : Int) ≤ (k : Int) + 1 := by omega
   have h3 : (0 : Int) ≤ (k : Int) := by omega
   have e1 : ((k : Int) + 1).toNat = k + 1 := by omega
   by_cases hx : el xs k < el xs (k + 1)
   ·have hd : decide (el xs (k + 1) ≤ el xs k) = false := by simp;omega
    have HX : Hid (el xs k < el xs (k + 1)) := hx
    clear hx
    go_wp2_with fail
    go_quiet (fail)
    go_wp2
    go_roundw
    case rel => exact ⟨k + 1,_,by omega,by go_num,rfl,fun j hj => by
     rcases Nat.lt_succ_iff_lt_or_eq.1 hj with h | h
     ·exact HR.out j h
     ·rw [h];exact HX.out⟩
    case measure => simp [intOf];omega
   ·have hd : decide (el xs (k + 1) ≤ el xs k) = true := by simp;omega
    have HF : Hid (risB xs = false) := by
     rw [Hid,risB,decide_eq_false_iff_not]
     intro h
     exact hx (h k (by rw [HL.out];omega))
    clear hx
    go_wp2_with fail
    go_quiet (fail)
    go_wp2
    go_ret
    exact ⟨ret_bool (by rw [HF.out]),n + nq,by simp⟩
  ·have hd : decide ((k : Int) + 1 < (len : Int)) = false := by simp;omega
   have HF : Hid (risB xs = true) := by
    rw [Hid,risB,decide_eq_true_eq]
    intro j hj
    exact HR.out j (by rw [HL.out] at hj;omega)
   clear hc
   go_wp2
   go_ret
   exact ⟨ret_bool (by rw [HF.out]),_,rfl⟩
end Go.Proofs.YtidnfdobljihoaaGreat
namespace Go.Proofs.YtidnfdobljihoaaGreat
set_option linter.unusedVariables false
set_option linter.unusedSimpArgs false
open Go.RowKit Go.Sort
structure Rw where
 ver : Int
 txt : List (List UInt8)
 got : List Int
 sus : List Int
 wed : Bool
 rdy : Bool
 by_ : Int
 trm : List Int
def zeroRw : Rw := ⟨0,[],[],[],false,false,0,[]⟩
def susB (l : List Int) (n : Int) : Bool := l.all (fun x => inB x 0 (n - 1)) && risB l
def smB (v : List Int) (n : Int) : Bool := okB v && (decide ((v.length : Int) = n) && v.all (fun x => decide (x ≤ 12)))
def okRw (r : Rw) (n : Int) : Bool :=
 inB n 1 5 && (inB r.ver 0 1000000 && (decide (r.txt.length ≤ 12) && (smB r.got n && (susB r.sus n && (r.txt.all (fun t => decide (t.length ≤ 20)) &&
  (if r.rdy then r.wed && (inB r.by_ 0 (n - 1) && smB r.trm n) else decide (r.by_ = 0) && decide (r.trm = [])))))))
def newRw (n : Int) : Rw := if inB n 1 5 then ⟨0,[],List.replicate n.toNat 0,[],false,false,0,[]⟩ else zeroRw
def folB (a b : Rw) (n : Int) : Bool :=
 okRw a n && (okRw b n && (decide (a.ver ≤ b.ver) && (decide (a.txt.length ≤ b.txt.length) && (underB a.got b.got && (a.sus.all (fun x => decide (x ∈ b.sus)) && (decide (b.txt.take a.txt.length = a.txt) &&
  ((!a.wed || b.wed) && (!a.rdy || (b.rdy && decide (a.by_ ≤ b.by_))))))))))
end Go.Proofs.YtidnfdobljihoaaGreat
namespace Go.Proofs.YtidnfdobljihoaaGreat
set_option linter.unusedVariables false
set_option linter.unusedSimpArgs false
set_option linter.unusedVariables false
open Go.RowKit Go.Sort
def sv (l : List UInt8) : ByteArray := ⟨l.toArray⟩
theorem sv_size (l : List UInt8) : (sv l).size = l.length := by simp [sv,ByteArray.size]
theorem sv_list (l : List UInt8) : (sv l).toList = l := by
 have h := ByteArray.toList_mk l
 exact h
theorem Tryz.info5 : (Tryz.prog.info? 5).map (fun i => (i.zero,i.size,i.bytes)) = some (some (.int .u8 0),1,1) := by kernel_rfl
end Go.Proofs.YtidnfdobljihoaaGreat
namespace Go.Proofs.YtidnfdobljihoaaGreat
set_option linter.unusedSimpArgs false
set_option linter.unusedVariables false
open Go.RowKit Go.Sort
attribute [local irreducible] sv
end Go.Proofs.YtidnfdobljihoaaGreat
namespace Go.Proofs.YtidnfdobljihoaaGreat
set_option linter.unusedVariables false
set_option linter.unusedSimpArgs false
abbrev Lg := Int × List (List UInt8)
def okLg (l : Lg) : Prop := (1 ≤ l.1 ∧ l.1 ≤ 1000000) ∧ l.2.length ≤ 40 ∧ ∀ i,i < l.2.length → (l.2.getD i []).length ≤ 100
instance (l : Lg) : Decidable (okLg l) := by unfold okLg;infer_instance
def addB (l : Lg) (v : Int) (s : List UInt8) : Prop := v = l.1 + (l.2.length : Int) ∧ l.2.length ≠ 40 ∧ s.length ≤ 100
instance (l : Lg) (v : Int) (s : List UInt8) : Decidable (addB l v s) := by unfold addB;infer_instance
def txtB (l : Lg) (v : Int) : Prop := l.1 ≤ v ∧ v ≤ l.1 + (l.2.length : Int) - 1
instance (l : Lg) (v : Int) : Decidable (txtB l v) := by unfold txtB;infer_instance
set_option linter.unusedSimpArgs false
set_option linter.unusedVariables false
open Go.RowKit Go.Sort
theorem Tryz.info9 : (Tryz.prog.info? 9).map (fun i => (i.zero,i.size,i.bytes)) = some (some (.string ⟨#[]⟩),1,16) := by kernel_rfl
theorem info_parts9 {T s b : Nat} {z : Value} (h : (Tryz.prog.info? T).map (fun i => (i.zero,i.size,i.bytes)) = some (some z,s,b)) : ∃ i,Tryz.prog.info? T = some i ∧ i.zero = some z ∧ i.size = s ∧ i.bytes = b := by
 cases hq : Tryz.prog.info? T with
 | none => rw [hq] at h;simp at h
 | some i => rw [hq] at h;simp at h;exact ⟨i,rfl,h.1,h.2.1,h.2.2⟩
def svs (zs : List (List UInt8)) : List Value := zs.map (fun s => Value.string (sv s))
theorem svs_app (a b : List (List UInt8)) : svs (a ++ b) = svs a ++ svs b := by simp [svs]
theorem svs_one (zs : List (List UInt8)) : ∀ u ∈ svs zs,u.oneCell' = true := by
 intro u hu
 simp only [svs,List.mem_map] at hu
 obtain ⟨s,_,rfl⟩ := hu
 rfl
def OS (w : World) (g off n cap : Nat) (zs : List (List UInt8)) : Prop := OSl w 1 g off n cap (svs zs)
theorem OS.length {w : World} {g off n cap : Nat} {zs : List (List UInt8)} (h : OS w g off n cap zs) : zs.length = n := by have := h.len;simpa [svs] using this
theorem OS.cellAt {w : World} {g off n cap : Nat} {zs : List (List UInt8)} (h : OS w g off n cap zs) {i : Nat} (hi : i < n) : w.cell? ⟨g,off + i,none⟩ = some (.string (sv (zs.getD i []))) := by
 have hl := h.length
 rw [h.cell i (by omega)]
 simp [svs,show i < zs.length by omega]
attribute [local irreducible] sv
end Go.Proofs.YtidnfdobljihoaaGreat
namespace Go.Proofs.YtidnfdobljihoaaGreat
set_option linter.unusedSimpArgs false
set_option linter.unusedVariables false
open Go.RowKit Go.Sort
attribute [local irreducible] sv
end Go.Proofs.YtidnfdobljihoaaGreat
namespace Go.Proofs.YtidnfdobljihoaaGreat
set_option linter.unusedVariables false
set_option linter.unusedSimpArgs false
open Go.RowKit Go.Sort
def TxS (w : World) (a : Option Addr) (T : List (List UInt8)) : Prop := T.length = 0 ∨ ∃ b off,a = some ⟨b,off,none⟩ ∧ ∀ i,i < T.length → w.cell? ⟨b,off + i,none⟩ = some (.string (sv (T.getD i [])))
theorem TxS.below {w w' : World} {a : Option Addr} {T : List (List UInt8)} (h : TxS w a T) (hb : Below w.heap.size w w') : TxS w' a T := by
 rcases h with h | ⟨b,off,ha,hc⟩
 ·exact .inl h
 ·exact .inr ⟨b,off,ha,fun i hi => (hb.cell (World.block_lt_of_cell? _ _ (hc i hi))).trans (hc i hi)⟩
def scl (T : List (List UInt8)) : Cel := .sl 1 T.length (pl (svs T))
theorem svs_len (T : List (List UInt8)) : (svs T).length = T.length := by simp [svs]
theorem svs_get {T : List (List UInt8)} {i : Nat} (h : i < T.length) : (svs T)[i]? = some (.string (sv (T.getD i []))) := by simp [svs,h]
theorem ow_scl {w : World} {T : List (List UInt8)} {u : Value} {fp : Fp} : Cel.ow w (scl T) u fp ↔ ∃ a c G,u = .slice a T.length c ∧ OSo w 1 a T.length c (svs T) G ∧ ∀ b,fp b ↔ G = some b := by
 constructor
 ·rintro ⟨a,c,us,G,f,rfl,ho,hl,hn,hf⟩
  obtain ⟨rfl,h0⟩ := owL_pl.1 hl
  exact ⟨a,c,G,rfl,ho,fun b => (hf b).trans ⟨fun h => h.elim id (fun h => absurd h (h0 b)),.inl⟩⟩
 ·rintro ⟨a,c,G,rfl,ho,hf⟩
  exact ⟨a,c,_,G,fun _ => False,rfl,ho,owL_pl.2 ⟨rfl,fun _ h => h⟩,fun _ _ h => h,fun b => (hf b).trans ⟨.inl,fun h => h.elim id False.elim⟩⟩
theorem vw_scl {w : World} {T : List (List UInt8)} {u : Value} (h : Cel.vw w (scl T) u) : ∃ a c,u = .slice a T.length c ∧ TxS w a T ∧ T.length ≤ c ∧ c ≤ maxLen := by
 obtain ⟨a,c,us,rfl,h1,h2,h3,h,hl⟩ := h
 have e := vwL_pl.1 hl
 subst e
 refine ⟨a,c,rfl, ?_,h1,h2⟩
 rcases h with h | ⟨b,off,ha,hc⟩
 ·exact .inl h
 ·refine .inr ⟨b,off,ha,fun i hi => ?_⟩
  rw [hc i (by omega),svs_get hi]
theorem OSo.os {w : World} {a : Option Addr} {c : Nat} {T : List (List UInt8)} {G : Option Nat} (h : OSo w 1 a T.length c (svs T) G) : (T = [] ∧ c = 0 ∧ G = none) ∨ ∃ g off,a = some ⟨g,off,none⟩ ∧ OS w g off T.length c T ∧ G = some g := by
 rcases h with ⟨h1,h2,h3,h4,_⟩ | h
 ·exact .inl ⟨List.eq_nil_of_length_eq_zero h1,h2,h4⟩
 ·exact .inr h
theorem TxS.news {w : World} {a : Option Addr} {T : List (List UInt8)} (h : TxS w a T) : T.length = 0 ∨ ∃ ad,a = some ad ∧ ∀ j u,(svs T)[j]? = some u → w.cell? (ad.add j) = some u := by
 rcases h with h | ⟨b,off,rfl,hc⟩
 ·exact .inl h
 ·refine .inr ⟨_,rfl,fun j u hu => ?_⟩
  have hl := (List.getElem?_eq_some_iff.1 hu).1
  rw [svs_len] at hl
  rw [svs_get hl] at hu
  cases hu
  rw [add_lit0]
  exact hc j hl
theorem TxS.take {w : World} {a : Option Addr} {T : List (List UInt8)} (h : TxS w a T) (k : Nat) : TxS w a (T.take k) := by
 rcases h with h | ⟨b,off,rfl,hc⟩
 ·exact .inl (by rw [List.length_take];omega)
 ·refine .inr ⟨_,_,rfl,fun i hi => ?_⟩
  rw [List.length_take] at hi
  rw [hc i (by omega)]
  simp [List.getD_eq_getElem?_getD,List.getElem?_take_of_lt (show i < k by omega)]
def totS (T : List (List UInt8)) : Nat → Nat
 | 0 => 0
 | k + 1 => totS T k + (T.getD k []).length
theorem totS_at (T : List (List UInt8)) : ∀ {i k : Nat},i < k → (T.getD i []).length ≤ totS T k
 | i,0,h => by omega
 | i,k + 1,h => by
  rcases Nat.lt_succ_iff_lt_or_eq.1 h with h | rfl
  ·have := totS_at T h
   simp only [totS];omega
  ·simp only [totS];omega
attribute [local irreducible] sv
theorem made_os (w : World) (n : Nat) (hn : n ≤ maxLen) : OS (w.alloc (.cells (madeCells #[.string ⟨#[]⟩] n) 9)) w.heap.size 0 n n (List.replicate n []) := by
 have h := osl_made w #[.string ⟨#[]⟩] 1 n 9 rfl (by omega) hn
 have e : (List.replicate n (#[Value.string ⟨#[]⟩] : Array Value).toList).flatten = svs (List.replicate n []) := by
  unfold svs
  rw [List.map_replicate]
  have : sv [] = ⟨#[]⟩ := by unfold sv;rfl
  rw [this]
  simp
 rw [e,Nat.mul_one] at h
 exact h
set_option maxRecDepth 100000 in
set_option maxHeartbeats 1600000 in
theorem likeSV_any (a a' : Option Addr) (cap cap' : Nat) (T : List (List UInt8)) (w : World) (hz : TxS w a T) (hy : TxS w a' T) (hm : T.length ≤ maxLen) :
  Calls Tryz.prog 13 #[.slice a T.length cap,.slice a' T.length cap'] w fun e w' => e = .returned (.bool true) ∧ Grew w w' := by
 unfold maxLen at hm
 have HZ : Hid (TxS w a T) := hz
 have HY : Hid (TxS w a' T) := hy
 have hne : ((T.length : Int) != (T.length : Int)) = false := by simp
 clear hz hy
 go_enter Tryz.func13,Tryz.ntmps13
 go_wp2
 clear hne
 go_loopw [5] (fun i wr => ∃ j : Nat,j ≤ T.length ∧ i = .int .i64 j ∧ ∃ q,wr = w.drewN q) (fun i _ => T.length - (intOf i).toNat)
 case atStart => exact ⟨0,Nat.zero_le _,rfl,0,rfl⟩
 case round =>
  obtain ⟨j,hj,rfl,q,rfl⟩ := hrel
  by_cases hlt : j < T.length
  ·rcases HZ.out with h0 | ⟨b,off,rfl,hc⟩
   ·omega
   rcases HY.out with h0 | ⟨b',off',rfl,hc'⟩
   ·omega
   have c1 := hc j hlt
   have c2 := hc' j hlt
   have j1 : (j : Int) < (T.length : Int) := by omega
   have j0 : (0 : Int) ≤ (j : Int) := by omega
   generalize T.getD j [] = A at *
   have hb : ((sv A).toList == (sv A).toList) = true := by simp
   clear hc hc'
   go_wp2_with fail
   go_quiet (fail)
   go_wp2
   go_roundw
   case rel => exact ⟨j + 1,by omega,by go_num,_,rfl⟩
   case measure => simp [intOf];omega
  ·have hjl : j = T.length := by omega
   subst hjl
   go_wp2
   go_ret
   exact ⟨rfl,(Grew.refl _).drewN _⟩
end Go.Proofs.YtidnfdobljihoaaGreat
namespace Go.Proofs.YtidnfdobljihoaaGreat
set_option linter.unusedVariables false
set_option linter.unusedSimpArgs false
open Go.RowKit Go.Sort
theorem txs_copied {P : Program} {w : World} (t ty e : TypeId) (i : TypeInfo) (ht : P.underlying t = some (.slice e)) (hi : P.info? e = some i) (hz : i.zero = some (.string ⟨#[]⟩)) (hsize : i.size = 1) (hby : i.bytes = 16)
  {a : Option Addr} (ha : PlainA a) {x : Option Addr} {c : Nat} {T : List (List UInt8)} (hv : TxS w x T) (hm : T.length ≤ 1048576) :
  ∃ a' c' w' fp',(Builtin.append_ #[t,t] ty #[.slice a 0 0,.slice x T.length c]).run P w = .ok (.slice a' T.length c') w' ∧ Cel.ow w' (scl T) (.slice a' T.length c') fp' ∧ Wrt (fun _ => False) w w' ∧ ∀ b,fp' b → b = w.heap.size := by
 obtain ⟨a',c',G',w',hr,ho',hg,hat⟩ := run_append_oo (P := P) w t ty e i _ 1 16 ht hi hz hsize hby rfl (by omega) a 0 0 [] none (OSo.nil _ _ ha) x T.length c (svs T) (by rw [svs_len];omega) hv.news (svs_one T) (by unfold maxLen;omega) (by omega)
 simp only [Nat.zero_add,List.nil_append] at hr ho'
 refine ⟨a',c',w',fun b => G' = some b,hr,ow_scl.2 ⟨a',c',G',rfl,ho',fun b => Iff.rfl⟩,(Wrt.of_grown hg).mono (fun b _ hb => by cases hb),fun b hb => ?_⟩
 rcases hat with h | h
 ·rw [h] at hb;cases hb
 ·rw [h] at hb;cases hb;rfl
attribute [local irreducible] sv
end Go.Proofs.YtidnfdobljihoaaGreat
namespace Go.Proofs.YtidnfdobljihoaaGreat
set_option linter.unusedVariables false
set_option linter.unusedSimpArgs false
open Go.RowKit Go.Sort
def TxP (w : World) (a : Option Addr) (c : Nat) (T : List (List UInt8)) : Prop := (T = [] ∧ c = 0 ∧ PlainA a) ∨ ∃ b off,a = some ⟨b,off,none⟩ ∧ T.length ≤ c ∧ c ≤ maxLen ∧ ∀ i,i < T.length → w.cell? ⟨b,off + i,none⟩ = some (.string (sv (T.getD i [])))
theorem TxP.txs {w : World} {a : Option Addr} {c : Nat} {T : List (List UInt8)} (h : TxP w a c T) : TxS w a T := by
 rcases h with ⟨h,_⟩ | ⟨b,off,h1,h2,h3,h4⟩
 ·exact .inl (by rw [h];rfl)
 ·exact .inr ⟨b,off,h1,h4⟩
theorem TxP.below {w w' : World} {a : Option Addr} {c : Nat} {T : List (List UInt8)} (h : TxP w a c T) (hb : Below w.heap.size w w') : TxP w' a c T := by
 rcases h with h | ⟨b,off,ha,h1,h2,hc⟩
 ·exact .inl h
 ·exact .inr ⟨b,off,ha,h1,h2,fun i hi => (hb.cell (World.block_lt_of_cell? _ _ (hc i hi))).trans (hc i hi)⟩
theorem OSo.txp {w : World} {a : Option Addr} {c : Nat} {T : List (List UInt8)} {G : Option Nat} (h : OSo w 1 a T.length c (svs T) G) : TxP w a c T := by
 have hp := h.plain
 rcases h.os with ⟨h1,h2,_⟩ | ⟨g,off,h1,h2,_⟩
 ·exact .inl ⟨h1,h2,hp⟩
 ·exact .inr ⟨g,off,h1,h2.le,h2.max,fun i hi => h2.cellAt hi⟩
theorem ow_txp {w : World} {a : Option Addr} {c : Nat} {T : List (List UInt8)} {fp : Fp} (h : Cel.ow w (scl T) (.slice a T.length c) fp) : TxP w a c T := by
 obtain ⟨a',c',G,e,ho,_⟩ := ow_scl.1 h
 cases e
 exact ho.txp
attribute [local irreducible] sv
end Go.Proofs.YtidnfdobljihoaaGreat