/-
  Texts in one.
-/
import Derived.Test.YtafimeakbdmkjaaGreatXaa
import Derived.Deep.AppendLies
import Derived.Lib.AppendZeros
import Derived.Deep.LoopGhost
import Derived.Laws.IdiomStrings
import Derived.Deep.RegionHeld3
import Derived.BigQuiet
namespace Go.Proofs.YtafimeakbdmkjaaGreat
open Bool renaming false->aC,true->aB
open Go renaming Addr->dH,Calls->dF,Value->aJ,World->aI,maxLen->dD
open Go.Builtin renaming append_->bU
open Go.Ending renaming returned->aK
open Go.IntKind renaming i64->aA
open Go.Obj renaming cells->aH
open Go.Proofs.Tryz renaming prog->dA
open Go.RowKit renaming Hid->aG,intOf->dG
open Go.Value renaming bool->aF,int->ah,int->dB,slice->aj,string->aN
open Go.World renaming block_lt_of_cell?->aX,cell?_of_block->bf
open List renaming getElem?_append_left->aU,getElem?_append_right->aT,getElem?_eq_getElem->aV,getElem?_eq_none->aZ,length_append->bD,length_cons->bP,length_set->bQ,length_take->bM,mem_cons->bW,mem_cons_of_mem->bC,replicate->bV,take_of_length_le->aY
open Nat renaming le_refl->cO,le_trans->bZ,lt_succ_iff_lt_or_eq->aW,zero_le->cZ
open Option renaming none->ak,some->au
set_option linter.unusedVariables false
set_option linter.unusedSimpArgs false
open Go.RowKit Go.Sort
set_option maxRecDepth 100000
set_option maxHeartbeats 12800000
variable {B c g hi i j k lo off s:Nat} {us xs:List aJ} {G:Option Nat} {u v:aJ} {X w1:aI} {P:Program} {T:TypeId} {α:Type} {q x:Int} {h:List Int}
def sH (a:Option dH):Prop:=∀ x,a=au x->∃ b off,x=⟨b,off,ak⟩
theorem Il:sH ak:=fun x h=>by cases h
theorem kL (b off:Nat):sH (au ⟨b,off,ak⟩):=fun x h=>by cases h;exact⟨b,off,rfl⟩
def iQ (w:aI) (s:Nat) (a:Option dH) (n c:Nat) (xs:List aJ) (G:Option Nat):Prop :=
 (n=0/\c=0/\xs=[]/\G=ak/\sH a)\/∃ g off,a=au ⟨g,off,ak⟩/\jE w s g off n c xs/\G=au g
theorem iQ.nil (w:aI) (s:Nat) {a: Option dH} (ha:sH a):iQ w s a 0 0 [] ak:=.inl ⟨rfl,rfl,rfl,rfl,ha⟩
theorem iQ.plain {w: aI} {a: Option dH} {n: Nat} (h:iQ w s a n c xs G):sH a:=by
 rcases h with ⟨_,_,_,_,h⟩|⟨g,off,rfl,_,_⟩
 ·exact h
 ·exact kL _ _
theorem iQ.of {w: aI} {n: Nat} (h:jE w s g off n c xs):iQ w s (au ⟨g,off,ak⟩) n c xs (au g):=.inr ⟨g,off,rfl,h,rfl⟩
theorem iQ.len {w:aI} {s:Nat} {a:Option dH} {n c:Nat} {xs:List aJ} {G:Option Nat} (h:iQ w s a n c xs G):xs.length=n*s:=by
 rcases h with ⟨rfl,_,rfl,_⟩|⟨g,off,_,h,_⟩
 ·simp
 ·exact h.len
theorem iQ.le {w:aI} {s:Nat} {a:Option dH} {n c:Nat} {xs:List aJ} {G:Option Nat} (h:iQ w s a n c xs G):n<=c/\c<=dD:=by
 rcases h with ⟨rfl,rfl,rfl,_⟩|⟨g,off,_,h,_⟩
 ·exact⟨cO _,cZ _⟩
 ·exact⟨h.le,h.max⟩
theorem iQ.lt {w: aI} {a: Option dH} {n: Nat} (h:iQ w s a n c xs G) (hg:G=au g):g<w.heap.size:=by
 rcases h with ⟨_,_,_,h,_⟩|⟨g',off,_,h,h'⟩
 ·rw[h] at hg;cases hg
 ·rw[h'] at hg;cases hg;exact h.blk
theorem iQ.frame {w w': aI} {a: Option dH} {n: Nat} (h:iQ w s a n c xs G) (hs:w.heap.size<=w'.heap.size) (e:∀ g,G=au g->w'.heap[g]?=w.heap[g]?):iQ w' s a n c xs G:=by
 rcases h with h|⟨g,off,ha,h,h'⟩
 ·exact .inl h
 ·exact .inr ⟨g,off,ha,h.of_block (e g h') (Nat.lt_of_lt_of_le h.blk hs),h'⟩
theorem iQ.cell {w:aI} {s:Nat} {a:Option dH} {n c:Nat} {xs:List aJ} {G:Option Nat} (h:iQ w s a n c xs G) (hn:0<n):∃ g off,a=au ⟨g,off,ak⟩/\G=au g/\(∀ j,j<n*s->w.cell? ⟨g,off+j,ak⟩=xs[j]?)/\∀ j,j<n*s->w.frozen? ⟨g,off+j,ak⟩=aC:=by
 rcases h with ⟨h0,_⟩|⟨g,off,ha,h,h'⟩
 ·omega
 ·exact⟨g,off,ha,h',h.cell,fun j hj=>h.free j (Nat.lt_of_lt_of_le hj (Nat.mul_le_mul_right _ h.le))⟩
theorem Rf {w: aI} {n: Nat} (h:jE w s g off n c xs) (hj:j<n*s) (v:aJ):jE (w.setCell ⟨g,off+j,ak⟩ v) s g off n c (xs.set j v):=by
 have hl:=h.len;have hc:w.cell? ⟨g,off+j,ak⟩=au (xs[j]'(by omega)):=by rw[h.cell j hj,aV (by omega)]
 refine⟨by simpa using hl,h.le,h.max,by simp[World.setCell];exact h.blk,fun k hk=>?_,fun k hk=>?_,fun k hk=>by rw[World.frozen?_setCell];exact h.free k hk⟩
 ·by_cases e:j=k
  ·subst e
   rw[World.cell?_setCell_same _ _ _ hc];simp[show j<xs.length by omega]
  ·rw[World.cell?_setCell_other _ _ _ _ (by simp[e]),h.cell k hk]
   simp[e]
 ·by_cases e:j=k
  ·subst e;rw[World.cell?_setCell_same _ _ _ hc];rfl
  ·rw[World.cell?_setCell_other _ _ _ _ (by simp[e])];exact h.some k hk
section
variable {P:Program} (w:aI)
theorem ny (t ty e:TypeId) (i:TypeInfo) (z:aJ) (s bytes:Nat) (ht:P.underlying t=au (.slice e)) (hi:P.info? e=au i) (hz:i.zero=au z)
  (hsize:i.size=s) (hby:i.bytes=bytes) (hzs:z.cells.size=s) (hsz:0<s)
  (a:Option dH) (n cap:Nat) (xs:List aJ) (G:Option Nat) (ho:iQ w s a n cap xs G)
  (x:Option dH) (m c:Nat) (news:List aJ) (hl:news.length=m*s) (hnews:m=0\/∃ ad,x=au ad/\∀ j u,news[j]?=au u->w.cell? (ad.add j)=au u) (h1:∀ u∈news,u.oneCell'=aB)
  (h63:n+m<=dD) (hbytes:(n+m)*bytes<=140737488355328) :
  ∃ a' cap' G' w',(bU #[t,t] ty #[aj a n cap,aj x m c]).run P w=.ok (aj a' (n+m) cap') w' /\
   iQ w' s a' (n+m) cap' (xs++news) G'/\w.grownBy w' G/\(G'=G\/G'=au w.heap.size):=by
 by_cases hm:m=0
 ·subst hm
  have hn0:news=[]:=List.eq_nil_of_length_eq_zero (by simpa using hl)
  subst hn0;have hle:=ho.le.1
  have hr:(bU #[t,t] ty #[aj a n cap,aj x 0 c]).run P w=.ok (aj a n cap) w:=by
   cases a<;>cases x<;>simp[bU,run_underlying ht,sizeOf,typeInfo,hi,Builtin.lenOf,hle,Builtin.firstCells,loadCells,loadCellsFrom,storeCells]
  exact⟨a,cap,G,w,hr,by simpa using ho,qZ w _,.inl rfl⟩
 ·rcases hnews with h0|⟨ad,rfl,hnews⟩
  ·exact absurd h0 hm
  ·rcases ho with ⟨rfl,rfl,rfl,rfl,hpl⟩|⟨g,off,rfl,ho,rfl⟩
   ·cases a with
    | none =>
     obtain⟨v',w',hr,hown,hgr,hnil,hat⟩:=run_append_own_at (P:=P) w 0 t ty e i z s bytes ht hi hz hsize hby hzs hsz (aj ak 0 0) 0 [] (World.ownsRow_nil w 0 e s) ad m c news hl hnews h1 h63 hbytes (cZ _);obtain⟨g',cap',rfl,_,hO⟩:=jE.uj hown (fun h=>hm (hnil.1 h).2)
     refine⟨au ⟨g',0,ak⟩,cap',au g',w',hr,.inr ⟨g',0,rfl,by simpa using hO,rfl⟩,hgr,.inr ?_⟩
     rcases hat with h|h
     ·simp[Value.ownBlock] at h
     ·simpa[Value.ownBlock] using h
    | some b =>
     have hg:=run_append_arg_grows (P:=P) w t ty e i z s bytes ht hi hz hsize hby hzs hsz b 0 0 [] (by simp) (by simp) ad m c news hl hnews (by omega) h63 hbytes
     obtain⟨v',w',hr,hown,hgr⟩:=hg;obtain⟨g',cap',rfl,hb,hlt⟩:=hown.form (by omega)
     obtain⟨g2,cap2,hv2,_,hO⟩:=jE.uj hown (by intro h;cases h)
     cases hv2
     refine⟨au ⟨g',0,ak⟩,cap',au g',w',hr,.inr ⟨g',0,rfl,by simpa using hO,rfl⟩,hgr,.inr ?_⟩
     have hr2:=run_append_grow (P:=P) w t ty e i z ht hi hz b 0 0 [] (by simp) (by simp) ad m c news (by rw[hsize];exact hl) hnews (by omega) (by simp only[dD] at h63;omega) (growslice_fits (by omega) (by rw[hby];exact hbytes))
     rw[hr2] at hr;simp only[Result.ok.injEq,Value.slice.injEq,Option.some.injEq,Addr.mk.injEq] at hr;rw[hr.1.1.1]
   ·obtain⟨g',off',cap',w',hr,h2,h3,h4⟩:=DR (P:=P) w t ty e i z s bytes ht hi hz hsize hby hzs hsz g off n cap xs ho ad m c news hl hnews h1 h63 hbytes
    exact⟨_,cap',au g',w',hr,.inr ⟨g',off',rfl,h2,rfl⟩,h3,h4.imp (fun h=>by rw[h]) (fun h=>by rw[h])⟩
theorem NC {o:Oper} {act:Act} {K:Act->aI->Prop} {Q:Exit->Act->aI->Prop} (sl x:Operand) (t:TypeId)
  (hop:o.op=.call { callee:=.builtin .append,args:=#[sl,x],argTypes:=#[t,t] })
  (e:TypeId) (i:TypeInfo) (z:aJ) (s bytes:Nat) (ht:P.underlying t=au (.slice e)) (hi:P.info? e=au i) (hz:i.zero=au z)
  (hsize:i.size=s) (hby:i.bytes=bytes) (hzs:z.cells.size=s) (hsz:0<s)
  (a:Option dH) (n cap:Nat) (xs:List aJ) (G:Option Nat) (hs:act.eval sl=aj a n cap) (ho:iQ w s a n cap xs G)
  (y:Option dH) (m c:Nat) (news:List aJ) (hx:act.eval x=aj y m c) (hl:news.length=m*s) (hnews:m=0\/∃ ad,y=au ad/\∀ j u,news[j]?=au u->w.cell? (ad.add j)=au u) (h1:∀ u∈news,u.oneCell'=aB)
  (h63:n+m<=dD) (hbytes:(n+m)*bytes<=140737488355328)
  (h:∀ a' cap' G' w',iQ w' s a' (n+m) cap' (xs++news) G'->w.grownBy w' G->(G'=G\/G'=au w.heap.size)->K (act.put o.dst (aj a' (n+m) cap')) w'):o.wp P act w K Q:=by
 obtain⟨a',cap',G',w',hr,h2,h3,h4⟩:=ny (P:=P) w t o.type e i z s bytes ht hi hz hsize hby hzs hsz a n cap xs G ho y m c news hl hnews h1 h63 hbytes;unfold Oper.wp execOp;simp only[hop,resolve,invoke,builtin,Sem.run_bind,Sem.run_pure,Result.andThen_ok,List.map_toArray,List.map_cons,List.map_nil,hs,hx,hr]
 exact h a' cap' G' w' h2 h3 h4
theorem GV {ops:Array Oper} {rest:List Oper} {o:Oper} {act:Act} {Q:Exit->Act->aI->Prop} (hgd:o.guard=ak) (sl x:Operand) (t:TypeId)
  (hop:o.op=.call { callee:=.builtin .append,args:=#[sl,x],argTypes:=#[t,t] })
  (e:TypeId) (i:TypeInfo) (z:aJ) (s bytes:Nat) (ht:P.underlying t=au (.slice e)) (hi:P.info? e=au i) (hz:i.zero=au z)
  (hsize:i.size=s) (hby:i.bytes=bytes) (hzs:z.cells.size=s) (hsz:0<s)
  (a:Option dH) (n cap:Nat) (xs:List aJ) (G:Option Nat) (hs:act.eval sl=aj a n cap) (ho:iQ w s a n cap xs G)
  (y:Option dH) (m c:Nat) (news:List aJ) (hx:act.eval x=aj y m c) (hl:news.length=m*s) (hnews:m=0\/∃ ad,y=au ad/\∀ j u,news[j]?=au u->w.cell? (ad.add j)=au u) (h1:∀ u∈news,u.oneCell'=aB)
  (h63:n+m<=dD) (hbytes:(n+m)*bytes<=140737488355328)
  (h:∀ a' cap' G' w',iQ w' s a' (n+m) cap' (xs++news) G'->w.grownBy w' G->(G'=G\/G'=au w.heap.size)->wpList P ops Q rest (act.put o.dst (aj a' (n+m) cap')) w'):wpList P ops Q (o::rest) act w :=
 wpList_plain hgd fun _ hK=>NC w sl x t hop e i z s bytes ht hi hz hsize hby hzs hsz a n cap xs G hs ho y m c news hx hl hnews h1 h63 hbytes fun a' cap' G' w' h2 h3 h4=>hK _ _ (h a' cap' G' w' h2 h3 h4)
end
inductive dY where
 | v (x:aJ)
 | sl (s n:Nat) (cs:List dY)
abbrev Fp:=Nat->Prop
mutual
def dY.ow (w:aI):dY->aJ->Fp->Prop
 | .v x,u,fp=>u=x/\∀ b,¬ fp b
 | .sl s n cs,u,fp=>∃ a c us G f,u=aj a n c/\iQ w s a n c us G/\gB w cs us f/\(∀ b,G=au b->¬ f b)/\∀ b,fp b↔G=au b\/f b
def gB (w:aI):List dY->List aJ->Fp->Prop
 | [],us,fp=>us=[]/\∀ b,¬ fp b
 | c::cs,us,fp=>∃ u us' f1 f2,us=u::us'/\dY.ow w c u f1/\gB w cs us' f2/\(∀ b,f1 b->¬ f2 b)/\∀ b,fp b↔f1 b\/f2 b
end
mutual
def dY.vw (w:aI):dY->aJ->Prop
 | .v x,u=>u=x
 | .sl s n cs,u => ∃ a c us,u = aj a n c /\ n <= c /\ c <= dD /\ us.length = n * s /\ (n = 0 \/
   ∃ b off,a=au ⟨b,off,ak⟩/\∀ j,j<n*s->w.cell? ⟨b,off+j,ak⟩=us[j]?)/\Az w cs us
def Az (w:aI):List dY->List aJ->Prop
 | [],us=>us=[]
 | c::cs,us=>∃ u us',us=u::us'/\dY.vw w c u/\Az w cs us'
end
theorem jO {w:aI}:∀ {cs:List dY} {us:List aJ} {fp:Fp},gB w cs us fp->us.length=cs.length
 | [],us,fp,h=>by rw[h.1];rfl
 | c::cs,us,fp,h=>by
  obtain⟨u,us',f1,f2,rfl,_,h2,_⟩:=h;simp[jO h2]
theorem JH {w:aI}:∀ {cs:List dY} {us:List aJ},Az w cs us->us.length=cs.length
 | [],us,h=>by rw[show us=[] from h];rfl
 | c::cs,us,h=>by
  obtain⟨u,us',rfl,_,h2⟩:=h;simp[JH h2]
mutual
theorem dY.Dl {w w': aI} (hs:w.heap.size<=w'.heap.size):∀ {c:dY} {u:aJ} {fp:Fp},dY.ow w c u fp->(∀ b,fp b->w'.heap[b]?=w.heap[b]?)->dY.ow w' c u fp
 | .v x,u,fp,h,_=>h
 | .sl s n cs,u,fp,h,e=>by
  obtain⟨a,c,us,G,f,rfl,ho,hl,hn,hf⟩:=h;exact⟨a,c,us,G,f,rfl,ho.frame hs (fun g hg=>e g ((hf g).2 (.inl hg))),yh hs hl (fun b hb=>e b ((hf b).2 (.inr hb))),hn,hf⟩
theorem yh {w w':aI} (hs:w.heap.size<=w'.heap.size):∀ {cs:List dY} {us:List aJ} {fp:Fp},gB w cs us fp->(∀ b,fp b->w'.heap[b]?=w.heap[b]?)->gB w' cs us fp
 | [],us,fp,h,_=>h
 | c::cs,us,fp,h,e=>by
  obtain⟨u,us',f1,f2,rfl,h1,h2,hd,hf⟩:=h;exact⟨u,us',f1,f2,rfl,dY.Dl hs h1 (fun b hb=>e b ((hf b).2 (.inl hb))),yh hs h2 (fun b hb=>e b ((hf b).2 (.inr hb))),hd,hf⟩
end
mutual
theorem dY.kW {w: aI}:∀ {c:dY} {u:aJ} {fp:Fp},dY.ow w c u fp->∀ b,fp b->b<w.heap.size
 | .v x,u,fp,h=>fun b hb=>absurd hb (h.2 b)
 | .sl s n cs,u,fp,h=>fun b hb=>by
  obtain⟨a,c,us,G,f,rfl,ho,hl,hn,hf⟩:=h;rcases (hf b).1 hb with hb|hb
  ·exact ho.lt hb
  ·exact jd hl b hb
theorem jd {w:aI}:∀ {cs:List dY} {us:List aJ} {fp:Fp},gB w cs us fp->∀ b,fp b->b<w.heap.size
 | [],us,fp,h=>fun b hb=>absurd hb (h.2 b)
 | c::cs,us,fp,h=>fun b hb=>by
  obtain⟨u,us',f1,f2,rfl,h1,h2,hd,hf⟩:=h;rcases (hf b).1 hb with hb|hb
  ·exact dY.kW h1 b hb
  ·exact jd h2 b hb
end
mutual
theorem dY.wF {w: aI}:∀ {c:dY} {u:aJ} {fp:Fp},dY.ow w c u fp->dY.vw w c u
 | .v x,u,fp,h=>h.1
 | .sl s n cs,u,fp,h=>by
  obtain⟨a,c,us,G,f,rfl,ho,hl,hn,hf⟩:=h;refine⟨a,c,us,rfl,ho.le.1,ho.le.2,ho.len, ?_,yj hl⟩;rcases Nat.eq_zero_or_pos n with h0|h0
  ·exact .inl h0
  ·obtain⟨g,off,ha,_,hc,_⟩:=ho.cell h0
   exact .inr ⟨g,off,ha,hc⟩
theorem yj {w:aI}:∀ {cs:List dY} {us:List aJ} {fp:Fp},gB w cs us fp->Az w cs us
 | [],us,fp,h=>h.1
 | c::cs,us,fp,h=>by
  obtain⟨u,us',f1,f2,rfl,h1,h2,hd,hf⟩:=h;exact⟨u,us',rfl,dY.wF h1,yj h2⟩
end
mutual
theorem dY.Rh {w w': aI} (e:∀ b,b<w.heap.size->w'.heap[b]?=w.heap[b]?):∀ {c:dY} {u:aJ},dY.vw w c u->dY.vw w' c u
 | .v x,u,h=>h
 | .sl s n cs,u,h=>by
  obtain⟨a,c,us,rfl,h1,h2,h3,h|⟨b,off,rfl,hc⟩,hl⟩:=h
  ·exact⟨a,c,us,rfl,h1,h2,h3,.inl h,GX e hl⟩
  ·refine⟨_,c,us,rfl,h1,h2,h3,.inr ⟨b,off,rfl,fun j hj=>?_⟩,GX e hl⟩
   have hu:j<us.length:=by rw[h3];exact hj
   have h0:=hc j hj;rw[aV hu] at h0;have hlt:=aX _ _ h0;rw[bf (w:=w) (e b hlt)];exact hc j hj
theorem GX {w w':aI} (e:∀ b,b<w.heap.size->w'.heap[b]?=w.heap[b]?):∀ {cs:List dY} {us:List aJ},Az w cs us->Az w' cs us
 | [],us,h=>h
 | c::cs,us,h=>by
  obtain⟨u,us',rfl,h1,h2⟩:=h;exact⟨u,us',rfl,dY.Rh e h1,GX e h2⟩
end
theorem dY.Dn {w w': aI} {c: dY} (h:dY.vw w c u) (hb:Below w.heap.size w w'):dY.vw w' c u:=dY.Rh (fun b hlt=>hb.block b hlt) h
theorem dY.ig {w w': aI} {c: dY} {fp: Fp} (h:dY.ow w c u fp) (hb:Below w.heap.size w w'):dY.ow w' c u fp:=dY.Dl hb.size h (fun b hf=>hb.block b (dY.kW h b hf))
theorem gG {w w': aI} {cs: List dY} {fp: Fp} (h:gB w cs us fp) (hb:Below w.heap.size w w'):gB w' cs us fp:=yh hb.size h (fun b hf=>hb.block b (jd h b hf))
theorem Vr {w:aI}:∀ {cs:List dY} {us:List aJ},Az w cs us->∀ {j:Nat} {c:dY},cs[j]?=au c->∃ u,us[j]?=au u/\dY.vw w c u
 | [],us,h,j,c,hj=>by simp at hj
 | c0::cs,us,h,0,c,hj=>by
  obtain⟨u,us',rfl,h1,h2⟩:=h;simp at hj
  subst hj;exact⟨u,by simp,h1⟩
 | c0::cs,us,h,j+1,c,hj=>by
  obtain⟨u,us',rfl,h1,h2⟩:=h;obtain⟨u',hu,hv⟩:=Vr h2 (j:=j) (c:=c) (by simpa using hj)
  exact⟨u',by simpa using hu,hv⟩
theorem dY.YI {w: aI}:∀ {c:dY} {u:aJ} {f g:Fp},dY.ow w c u f->(∀ b,g b↔f b)->dY.ow w c u g
 | .v x,u,f,g,h,e=>⟨h.1,fun b hb=>h.2 b ((e b).1 hb)⟩
 | .sl s n cs,u,f,g,h,e=>by
  obtain⟨a,c,us,G,f',rfl,ho,hl,hn,hf⟩:=h;exact⟨a,c,us,G,f',rfl,ho,hl,hn,fun b=>(e b).trans (hf b)⟩
theorem vT {w: aI}:∀ {cs:List dY} {us:List aJ} {f g:Fp},gB w cs us f->(∀ b,g b↔f b)->gB w cs us g
 | [],us,f,g,h,e=>⟨h.1,fun b hb=>h.2 b ((e b).1 hb)⟩
 | c::cs,us,f,g,h,e=>by
  obtain⟨u,us',f1,f2,rfl,h1,h2,hd,hf⟩:=h;exact⟨u,us',f1,f2,rfl,h1,h2,hd,fun b=>(e b).trans (hf b)⟩
theorem zF {w:aI}:∀ {cs:List dY} {us:List aJ} {fp:Fp},gB w cs us fp->∀ {j:Nat} {c:dY},cs[j]?=au c ->
  ∃ u f,us[j]?=au u/\dY.ow w c u f/\(∀ b,f b->fp b) /\
   ∀ (w':aI) (c':dY) (u':aJ) (f':Fp),w.heap.size<=w'.heap.size->dY.ow w' c' u' f'->(∀ b,fp b->¬ f b->w'.heap[b]?=w.heap[b]?)->(∀ b,f' b->fp b->f b) ->
    gB w' (cs.set j c') (us.set j u') (fun b=>f' b\/fp b/\¬ f b)
 | [],us,fp,h,j,c,hj=>by simp at hj
 | c0::cs,us,fp,h,0,c,hj=>by
  obtain⟨u,us',f1,f2,rfl,h1,h2,hd,hf⟩:=h;simp at hj
  subst hj;refine⟨u,f1,by simp,h1,fun b hb=>(hf b).2 (.inl hb),fun w' c' u' f' hs hc' he hd'=>?_⟩
  refine⟨u',us',f',f2,by simp,hc',yh hs h2 (fun b hb=>he b ((hf b).2 (.inr hb)) (fun h=>hd b h hb)),fun b hb hb2=>hd b (hd' b hb ((hf b).2 (.inr hb2))) hb2,fun b=>?_⟩
  constructor
  ·rintro (h|⟨h,hn⟩)
   ·exact .inl h
   ·rcases (hf b).1 h with h|h
    ·exact absurd h hn
    ·exact .inr h
  ·rintro (h|h)
   ·exact .inl h
   ·exact .inr ⟨(hf b).2 (.inr h),fun h1=>hd b h1 h⟩
 | c0::cs,us,fp,h,j+1,c,hj=>by
  obtain⟨u0,us',f1,f2,rfl,h1,h2,hd,hf⟩:=h;obtain⟨u,f,hu,hc,hsub,hput⟩:=zF h2 (j:=j) (c:=c) (by simpa using hj)
  refine⟨u,f,by simpa using hu,hc,fun b hb=>(hf b).2 (.inr (hsub b hb)),fun w' c' u' f' hs hc' he hd'=>?_⟩
  have hk:=hput w' c' u' f' hs hc' (fun b hb hn=>he b ((hf b).2 (.inr hb)) hn) (fun b hb hb2=>hd' b hb ((hf b).2 (.inr hb2)))
  refine⟨u0,us'.set j u',f1,_,by simp,dY.Dl hs h1 (fun b hb=>he b ((hf b).2 (.inl hb)) (fun h=>hd b hb (hsub b h))),hk,fun b hb hb2=>?_,fun b=>?_⟩
  ·rcases hb2 with hb2|⟨hb2,_⟩
   ·exact hd b hb (hsub b (hd' b hb2 ((hf b).2 (.inl hb))))
   ·exact hd b hb hb2
  ·constructor
   ·rintro (h|⟨h,hn⟩)
    ·exact .inr (.inl h)
    ·rcases (hf b).1 h with h|h
     ·exact .inl h
     ·exact .inr (.inr ⟨h,hn⟩)
   ·rintro (h|h|⟨h,hn⟩)
    ·exact .inr ⟨(hf b).2 (.inl h),fun h'=>hd b h (hsub b h')⟩
    ·exact .inl h
    ·exact .inr ⟨(hf b).2 (.inr h),hn⟩
theorem nN {w:aI}:∀ {cs ds:List dY} {us vs:List aJ} {f g:Fp},gB w cs us f->gB w ds vs g->(∀ b,f b->¬ g b)->gB w (cs++ds) (us++vs) (fun b=>f b\/g b)
 | [],ds,us,vs,f,g,h,k,hd=>by
  rw[h.1];exact vT k (fun b=>⟨fun hb=>hb.elim (fun hb=>absurd hb (h.2 b)) id,.inr⟩)
 | c::cs,ds,us,vs,f,g,h,k,hd=>by
  obtain⟨u,us',f1,f2,rfl,h1,h2,hd1,hf⟩:=h;refine⟨u,us'++vs,f1,_,rfl,h1,nN h2 k (fun b hb=>hd b ((hf b).2 (.inr hb))),fun b hb hb2=>?_,fun b=>?_⟩
  ·rcases hb2 with hb2|hb2
   ·exact hd1 b hb hb2
   ·exact hd b ((hf b).2 (.inl hb)) hb2
  ·show f b\/g b↔_
   rw[hf b]
   constructor
   ·rintro ((h|h)|h)
    ·exact .inl h
    ·exact .inr (.inl h)
    ·exact .inr (.inr h)
   ·rintro (h|h|h)
    ·exact .inl (.inl h)
    ·exact .inl (.inr h)
    ·exact .inr h
theorem mP {w:aI}:∀ {cs ds:List dY} {ws:List aJ} {fp:Fp},gB w (cs++ds) ws fp->∃ us vs f g,ws=us++vs/\gB w cs us f/\gB w ds vs g/\(∀ b,f b->¬ g b)/\∀ b,fp b↔f b\/g b
 | [],ds,ws,fp,h=>⟨[],ws,fun _=>False,fp,rfl,⟨rfl,fun _ h=>h⟩,h,fun _ h=>absurd h id,fun b=>⟨.inr,fun h=>h.elim False.elim id⟩⟩
 | c::cs,ds,ws,fp,h=>by
  obtain⟨u,us',f1,f2,rfl,h1,h2,hd,hf⟩:=h;obtain⟨us,vs,f,g,rfl,k1,k2,hd2,hf2⟩:=mP h2;refine⟨u::us,vs,fun b=>f1 b\/f b,g,rfl,⟨u,us,f1,f,rfl,h1,k1,fun b hb hb2=>hd b hb ((hf2 b).2 (.inl hb2)),fun b=>Iff.rfl⟩,k2,fun b hb hg=>?_,fun b=>?_⟩
  ·rcases hb with hb|hb
   ·exact hd b hb ((hf2 b).2 (.inr hg))
   ·exact hd2 b hb hg
  ·rw[hf b,hf2 b,or_assoc]
structure eX (f:Fp) (w w':aI):Prop where
 os:w'.os=w.os
 tape:w'.tape=w.tape
 output:w'.output=w.output
 size:w.heap.size<=w'.heap.size
 block:∀ b,b<w.heap.size->¬ f b->w'.heap[b]?=w.heap[b]?
theorem eX.refl (f:Fp) (w:aI):eX f w w:=⟨rfl,rfl,rfl,cO _,fun _ _ _=>rfl⟩
theorem eX.mono {f g: Fp} {w w': aI} (h:eX f w w') (hs:∀ b,b<w.heap.size->f b->g b):eX g w w':=⟨h.os,h.tape,h.output,h.size,fun b hb hn=>h.block b hb (fun hf=>hn (hs b hb hf))⟩
theorem eX.trans {f g:Fp} {w w1 w2:aI} (h:eX f w w1) (k:eX g w1 w2) (hs:∀ b,b<w.heap.size->g b->f b):eX f w w2 :=
 ⟨k.os.trans h.os,k.tape.trans h.tape,k.output.trans h.output,bZ h.size k.size,fun b hb hn=>(k.block b (Nat.lt_of_lt_of_le hb h.size) (fun hg=>hn (hs b hb hg))).trans (h.block b hb hn)⟩
theorem eX.of_below {f: Fp} {w w': aI} (h:Below w.heap.size w w'):eX f w w':=⟨h.os,h.tape,h.output,h.size,fun b hb _=>h.block b hb⟩
theorem eX.below {f: Fp} {w w' v: aI} (h:eX f w w') (hv:Below B v w) (hB:B<=w.heap.size) (hf:∀ b,f b->B<=b):Below B v w' :=
 ⟨h.os.trans hv.os,h.tape.trans hv.tape,h.output.trans hv.output,bZ hv.size h.size,fun b hb=>(h.block b (by omega) (fun k=>by have:=hf b k;omega)).trans (hv.block b hb)⟩
theorem eX.lI {w w': aI} (h:w.grownBy w' G):eX (fun b=>G=au b) w w':=⟨h.os,h.tape,h.output,h.size,fun b hb hn=>h.block b hb (fun e=>hn e.symm)⟩
theorem eX.set (w:aI) (g o:Nat) (v:aJ):eX (fun b=>b=g) w (w.setCell ⟨g,o,ak⟩ v):=(eX.lI (yg (qZ w (au g)) o v)).mono (fun b _ h=>by simpa using h.symm)
theorem dY.lJ {w w': aI} {c: dY} {fp f: Fp} (h:dY.ow w c u fp) (hw:eX f w w') (hd:∀ b,fp b->¬ f b):dY.ow w' c u fp:=dY.Dl hw.size h (fun b hb=>hw.block b (dY.kW h b hb) (hd b hb))
theorem iy {w w': aI} {cs: List dY} {fp f: Fp} (h:gB w cs us fp) (hw:eX f w w') (hd:∀ b,fp b->¬ f b):gB w' cs us fp:=yh hw.size h (fun b hb=>hw.block b (jd h b hb) (hd b hb))
theorem iQ.wrt {w w': aI} {a: Option dH} {n: Nat} {f: Fp} (h:iQ w s a n c xs G) (hw:eX f w w') (hd:∀ b,G=au b->¬ f b):iQ w' s a n c xs G:=h.frame hw.size (fun g hg=>hw.block g (h.lt hg) (hd g hg))
def pl (vs:List aJ):List dY:=vs.map dY.v
theorem rM {w:aI}:∀ {vs us:List aJ} {fp:Fp},gB w (pl vs) us fp↔us=vs/\∀ b,¬ fp b
 | [],us,fp=>Iff.rfl
 | v::vs,us,fp=>by
  constructor
  ·rintro⟨u,us',f1,f2,rfl,⟨rfl,h1⟩,h2,hd,hf⟩
   have h3:=rM.1 h2;exact⟨by rw[h3.1],fun b hb=>((hf b).1 hb).elim (h1 b) (h3.2 b)⟩
  ·rintro⟨rfl,h⟩
   exact⟨v,vs,fp,fp,rfl,⟨rfl,h⟩,rM.2 ⟨rfl,h⟩,fun b hb=>absurd hb (h b),fun b=>⟨.inl,fun h=>h.elim id id⟩⟩
theorem Ej {w:aI}:∀ {vs us:List aJ},Az w (pl vs) us↔us=vs
 | [],us=>Iff.rfl
 | v::vs,us=>by
  constructor
  ·rintro⟨u,us',rfl,rfl,h2⟩
   rw[Ej.1 h2]
  ·rintro rfl
   exact⟨v,vs,rfl,rfl,Ej.2 rfl⟩
def gJ (xs:List Int):dY:=.sl 1 xs.length (pl (xs.map (dB aA)))
theorem je {w: aI} {xs: List Int} {fp: Fp}:dY.ow w (gJ xs) u fp↔∃ a c G,u=aj a xs.length c/\iQ w 1 a xs.length c (xs.map (dB aA)) G/\∀ b,fp b↔G=au b:=by
 constructor
 ·rintro⟨a,c,us,G,f,rfl,ho,hl,hn,hf⟩
  obtain⟨rfl,h0⟩:=rM.1 hl;exact⟨a,c,G,rfl,ho,fun b=>(hf b).trans ⟨fun h=>h.elim id (fun h=>absurd h (h0 b)),.inl⟩⟩
 ·rintro⟨a,c,G,rfl,ho,hf⟩
  exact⟨a,c,_,G,fun _=>False,rfl,ho,rM.2 ⟨rfl,fun _ h=>h⟩,fun _ _ h=>h,fun b=>(hf b).trans ⟨.inl,fun h=>h.elim id False.elim⟩⟩
theorem l7 {w: aI} {xs: List Int} (h:dY.vw w (gJ xs) u) (hf:Fits xs):∃ a c,u=aj a xs.length c/\Vec w a xs.length xs/\xs.length<=c/\c<=dD:=by
 obtain⟨a,c,us,rfl,h1,h2,h3,h,hl⟩:=h;have e:=Ej.1 hl;subst e;refine⟨a,c,rfl,⟨rfl,hf, ?_⟩,h1,h2⟩;rcases h with h|⟨b,off,ha,hc⟩
 ·exact .inl h
 ·refine .inr ⟨b,off,ha,fun i hi=>?_⟩
  rw[hc i (by omega)]
  simp[el,hi]
theorem iQ.oi {w: aI} {a: Option dH} {xs: List Int} (h:iQ w 1 a xs.length c (xs.map (dB aA)) G):(xs=[]/\c=0/\G=ak)\/∃ g off,a=au ⟨g,off,ak⟩/\OI w g off xs.length c xs/\G=au g:=by
 rcases h with ⟨h1,h2,h3,h4,_⟩|h
 ·exact .inl ⟨List.eq_nil_of_length_eq_zero h1,h2,h4⟩
 ·exact .inr h
def oN (w w':aI) (c:dY) (v:aJ):Prop:=∃ fp,dY.ow w' c v fp/\(∀ b,fp b->w.heap.size<=b)/\Below w.heap.size w w'
def kE (w w':aI) (cs:List dY) (vs:List aJ):Prop:=∃ fp,gB w' cs vs fp/\(∀ b,fp b->w.heap.size<=b)/\Below w.heap.size w w'
theorem rO {α:Type} (l:List α):∀ (n i:Nat),i<n*l.length->(bV n l).flatten[i]?=l[i%l.length]?
 | 0,i,h=>by simp at h
 | n+1,i,h=>by
  rw[List.replicate_succ,List.flatten_cons];by_cases hi:i<l.length
  ·rw[aU hi,Nat.mod_eq_of_lt hi]
  ·have hl:l.length<=i:=by omega
   rw[aT hl,rO l n (i-l.length) (by rw[Nat.add_mul] at h;omega),Nat.mod_eq_sub_mod hl]
theorem Dp (w:aI) (zs:Array aJ) (s n:Nat) (e:TypeId) (hz:zs.size=s) (hs:0<s) (hn:n<=dD):jE (w.alloc (aH (madeCells zs (n*s)) e)) s w.heap.size 0 n n (bV n zs.toList).flatten:=by
 have hb:(w.alloc (aH (madeCells zs (n*s)) e)).heap[w.heap.size]?=au (aH (madeCells zs (n*s)) e (0,0)):=heap_alloc_new w _
 have hc:∀ i,i<n*s->(madeCells zs (n*s))[i]?=zs.toList[i%s]?:=fun i hi=>by
  have hm:i%s<zs.size:=by rw[hz];exact Nat.mod_lt _ hs
  have hm':i%s<zs.toList.length:=by simpa using hm
  rw[aV hm'];simp[madeCells,hi,hz]
  exact getElem!_pos zs (i%s) hm
 refine⟨by simp[hz],cO _,hn,by simp,fun i hi=>?_,fun i hi=>?_,fun i hi=>?_⟩
 ·rw[rO _ _ _ (by simp[hz];omega)]
  simp only[World.cell?,hb,Nat.zero_add]
  rw[hc i hi];simp[hz]
 ·simp only[World.cell?,hb,Nat.zero_add]
  have:i<(madeCells zs (n*s)).size:=by rw[size_madeCells];exact hi
  simp[this]
 ·unfold World.frozen?
  rw[hb];simp
theorem FW {w w': aI} {n m: Nat} {a': Option dH} {c': Nat} {news: List aJ} {G': Option Nat} {cs ds: List dY} {f fd: Fp}
  (hl:gB w cs us f) (hd:gB w ds news fd) (hG:∀ b,G=au b->¬ f b) (hGd:∀ b,G=au b->¬ fd b) (hdis:∀ b,f b->¬ fd b)
  (ho:iQ w' s a' (n+m) c' (us++news) G') (hg:w.grownBy w' G) (hat:G'=G\/G'=au w.heap.size) :
  dY.ow w' (.sl s (n+m) (cs++ds)) (aj a' (n+m) c') (fun b=>G'=au b\/f b\/fd b):=by
 have hw:=eX.lI hg;have h1:=iy hl hw (fun b hb e=>hG b e hb)
 have h2:=iy hd hw (fun b hb e=>hGd b e hb)
 refine⟨a',c',us++news,G',fun b=>f b\/fd b,rfl,ho,nN h1 h2 hdis,fun b e hb=>?_,fun b=>Iff.rfl⟩
 rcases hat with h|h
 ·rw[h] at e
  exact hb.elim (hG b e) (hGd b e)
 ·rw[h] at e
  cases e
  rcases hb with hb|hb
  ·exact absurd (jd hl _ hb) (Nat.lt_irrefl _)
  ·exact absurd (jd hd _ hb) (Nat.lt_irrefl _)
theorem xC {α:Type} {f:α->List dY} {s:Nat} (hs:∀ x,(f x).length=s):∀ (L:List α),(L.flatMap f).length=L.length*s
 | []=>by simp
 | y::L=>by rw[List.flatMap_cons,bD,hs,xC hs L,bP,Nat.add_mul];omega
structure Same (X w:aI):Prop where
 heap:X.heap=w.heap
 os:X.os=w.os
 tape:X.tape=w.tape
 output:X.output=w.output
theorem Same.below {w: aI} (h:Same X w):Below w.heap.size w X:=⟨h.os,h.tape,h.output,by rw[h.heap];exact cO _,fun b _=>by rw[h.heap]⟩
theorem Same.size {w: aI} (h:Same X w):X.heap.size=w.heap.size:=by rw[h.heap]
theorem Same.drewN (w:aI) (n:Nat):Same (w.drewN n) w:=⟨rfl,rfl,rfl,rfl⟩
theorem jH {P: Program} {w: aI} {ops: Array Oper} {o: Oper} {a: Act} {K: Act->aI->Prop} {Q: Exit->Act->aI->Prop} {E: Prop} (hgd:o.guard=ak) (s x:Operand) (t tn:TypeId)
  (ho:o.op=.call { callee:=.builtin .append,args:=#[s,x],argTypes:=#[t,tn] }) (vs vx:aJ) (hs:a.eval s=vs) (hx:a.eval x=vx)
  {W:aI} {R:aJ->aI->Prop} (hA:∀ X,Same X W->∃ v' w',(bU #[t,tn] o.type #[vs,vx]).run P X=.ok v' w'/\R v' w') (hS:Same w W) (h:∀ v' w',R v' w'->K (a.put o.dst v') w') :
  if Region.wanted o (yielded ops a.tmps)=aB then Oper.wp P o a w K Q else E:=by
 have hw:Region.wanted o (yielded ops a.tmps)=aB:=by simp[Region.wanted,hgd]
 rw[if_pos hw];obtain⟨v',w',hr,hR⟩:=hA w hS;exact Lib.wp_append_run w s x t tn ho vs vx hs hx v' w' hr (h v' w' hR)
theorem fG {P: Program} {w: aI} {ops: Array Oper} {rest: List Oper} {o: Oper} {a: Act} {Q: Exit->Act->aI->Prop} (hgd:o.guard=ak) (s x:Operand) (t tn:TypeId)
  (ho:o.op=.call { callee:=.builtin .append,args:=#[s,x],argTypes:=#[t,tn] }) (vs vx:aJ) (hs:a.eval s=vs) (hx:a.eval x=vx)
  {W:aI} {R:aJ->aI->Prop} (hA:∀ X,Same X W->∃ v' w',(bU #[t,tn] o.type #[vs,vx]).run P X=.ok v' w'/\R v' w') (hS:Same w W) (h:∀ v' w',R v' w'->wpList P ops Q rest (a.put o.dst v') w'):wpList P ops Q (o::rest) a w:=by
 obtain⟨v',w',hr,hR⟩:=hA w hS;exact wpList_plain hgd fun _ hK=>Lib.wp_append_run w s x t tn ho vs vx hs hx v' w' hr (hK _ _ (h v' w' hR))
theorem Io (w:aI) (t ty e:TypeId) (i:TypeInfo) (ht:P.underlying t=au (.slice e)) (hi:P.info? e=au i) (a:Option dH) (n cap:Nat) (hle:n<=cap) (x:Option dH) (c:Nat) :
  (bU #[t,t] ty #[aj a n cap,aj x 0 c]).run P w=.ok (aj a n cap) w:=by
 cases a<;>cases x<;>simp[bU,run_underlying ht,sizeOf,typeInfo,hi,Builtin.lenOf,hle,Builtin.firstCells,loadCells,loadCellsFrom,storeCells]
theorem sJ (w:aI) {ops: Array Oper} {rest: List Oper} {o: Oper} {act: Act} {Q: Exit->Act->aI->Prop} (hgd:o.guard=ak) (sl x:Operand) (t:TypeId)
  (hop:o.op=.call { callee:=.builtin .append,args:=#[sl,x],argTypes:=#[t,t] }) (e:TypeId) (i:TypeInfo) (ht:P.underlying t=au (.slice e)) (hi:P.info? e=au i)
  (a:Option dH) (n cap:Nat) (hs:act.eval sl=aj a n cap) (hle:n<=cap) (y:Option dH) (c:Nat) (hx:act.eval x=aj y 0 c)
  (h:wpList P ops Q rest (act.put o.dst (aj a n cap)) w):wpList P ops Q (o::rest) act w :=
 wpList_plain hgd fun _ hK=>Lib.wp_append_run w sl x t t hop _ _ hs hx _ w (Io w t o.type e i ht hi a n cap hle y c) (hK _ _ h)
theorem Bx.lK {w: aI} {cs: Array aJ} (h:Bx w B T cs) (i:Nat) (v:aJ):Bx (w.setCell ⟨B,i,ak⟩ v) B T (cs.setIfInBounds i v):=by
 have hh:=h;unfold Bx;simp only[World.setCell]
 rw[Array.getElem?_modify,hh];simp
theorem Bx.wrt {w w': aI} {cs: Array aJ} {f: Fp} (h:Bx w B T cs) (hw:eX f w w') (hn:¬ f B):Bx w' B T cs:=(hw.block B h.lt hn).trans h
theorem Bx.far {w: aI} {cs: Array aJ} (h:Bx w B T cs) (hne:B≠g) (v:aJ):Bx (w.setCell ⟨g,i,ak⟩ v) B T cs:=h.wrt (eX.set w g i v) hne
theorem vU {w: aI} {n p: Nat} (h:jE w s g off n c xs) (hne:g≠p) (v:aJ):jE (w.setCell ⟨p,i,ak⟩ v) s g off n c xs :=
 h.of_block ((eX.set w p i v).block g h.blk hne) (by simp[World.setCell];exact h.blk)
theorem JI {w: aI} (t ty e:TypeId) (i:TypeInfo) (z:aJ) (s bytes:Nat) (ht:P.underlying t=au (.slice e)) (hi:P.info? e=au i) (hz:i.zero=au z)
  (hsize:i.size=s) (hby:i.bytes=bytes) (hzs:z.cells.size=s) (hsz:0<s)
  {a:Option dH} {n c:Nat} {cs ds:List dY} {fp fd:Fp} (hO:dY.ow w (.sl s n cs) (aj a n c) fp) {vals:List aJ} (hd:gB w ds vals fd) (hdis:∀ b,fp b->¬ fd b) (hl:vals.length=s) (h1:∀ u∈vals,u.oneCell'=aB)
  (nb:Nat) (T:TypeId) (hnb:w.heap[nb]?=au (aH vals.toArray T (0,0))) (h63:n+1<=dD) (hbytes:(n+1)*bytes<=140737488355328) :
  ∃ a' c' w' fp',(bU #[t,t] ty #[aj a n c,aj (au ⟨nb,0,ak⟩) 1 1]).run P w=.ok (aj a' (n+1) c') w'/\dY.ow w' (.sl s (n+1) (cs++ds)) (aj a' (n+1) c') fp'/\eX fp w w'/\∀ b,fp' b->fp b\/fd b\/b=w.heap.size:=by
 obtain⟨a0,c0,us,G,f,e0,ho,hcs,hn,hf⟩:=hO
 cases e0
 obtain⟨a',c',G',w',hr,ho',hg,hat⟩:=ny (P:=P) w t ty e i z s bytes ht hi hz hsize hby hzs hsz a n c us G ho (au ⟨nb,0,ak⟩) 1 1 vals (by omega) (.inr ⟨_,rfl,World.news_of_block hnb⟩) h1 h63 hbytes
 refine⟨a',c',w',_,hr,FW hcs hd hn (fun b hb=>hdis b ((hf b).2 (.inl hb))) (fun b hb=>hdis b ((hf b).2 (.inr hb))) ho' hg hat,(eX.lI hg).mono (fun b _ hb=>(hf b).2 (.inl hb)),fun b hb=>?_⟩
 rcases hb with hb|hb|hb
 ·rcases hat with h|h
  ·exact .inl ((hf b).2 (.inl (h ▸ hb)))
  ·rw[h] at hb;cases hb;exact .inr (.inr rfl)
 ·exact .inl ((hf b).2 (.inr hb))
 ·exact .inr (.inl hb)
theorem xU {w: aI} (t ty e:TypeId) (i:TypeInfo) (ht:P.underlying t=au (.slice e)) (hi:P.info? e=au i) (hz:i.zero=au (ah aA 0)) (hsize:i.size=1) (hby:i.bytes=8)
  {a:Option dH} (ha:sH a) {x:Option dH} {c:Nat} {xs:List Int} (hv:Vec w x xs.length xs) (hm:xs.length<=1000000) :
  ∃ a' c' w' fp',(bU #[t,t] ty #[aj a 0 0,aj x xs.length c]).run P w=.ok (aj a' xs.length c') w'/\dY.ow w' (gJ xs) (aj a' xs.length c') fp'/\eX (fun _=>False) w w'/\∀ b,fp' b->b=w.heap.size:=by
 have hnews:xs.length=0\/∃ ad,x=au ad/\∀ j u,(xs.map (dB aA))[j]?=au u->w.cell? (ad.add j)=au u:=by
  rcases hv.2.2 with h|⟨b,off,rfl,hc⟩
  ·exact .inl h
  ·exact .inr ⟨_,rfl,pF hc⟩
 obtain⟨a',c',G',w',hr,ho',hg,hat⟩:=ny (P:=P) w t ty e i _ 1 8 ht hi hz hsize hby rfl (by omega) a 0 0 [] ak (iQ.nil _ _ ha) x xs.length c (xs.map (dB aA)) (by simp) hnews (by simp[Value.oneCell']) (by unfold dD;omega) (by omega)
 simp only[Nat.zero_add,List.nil_append] at hr ho';refine⟨a',c',w',fun b=>G'=au b,hr,je.2 ⟨a',c',G',rfl,ho',fun b=>Iff.rfl⟩,(eX.lI hg).mono (fun b _ hb=>by cases hb),fun b hb=>?_⟩
 rcases hat with h|h
 ·rw[h] at hb;cases hb
 ·rw[h] at hb;cases hb;rfl
def It (w:aI) (cs:List dY) (vs:List aJ) (lo hi:Nat):Prop:=∃ f,gB w cs vs f/\∀ b,f b->lo<=b/\b<hi
theorem It.below {w w': aI} {cs: List dY} {vs: List aJ} (h:It w cs vs lo hi) (hb:Below w.heap.size w w'):It w' cs vs lo hi:=by
 obtain⟨f,h1,h2⟩:=h;exact⟨f,gG h1 hb,h2⟩
theorem It.wrt {w w': aI} {cs: List dY} {vs: List aJ} {f: Fp} (h:It w cs vs lo hi) (hw:eX f w w') (hd:∀ b,f b->b<lo\/hi<=b):It w' cs vs lo hi:=by
 obtain⟨g,h1,h2⟩:=h;refine⟨g,iy h1 hw (fun b hb hf=>?_),h2⟩
 have:=h2 b hb;rcases hd b hf with h|h<;>omega
theorem It.au1 {w w': aI} {cs: List dY} {vs: List aJ} (h:kE w w' cs vs):It w' cs vs w.heap.size w'.heap.size:=by
 obtain⟨f,h1,h2,_⟩:=h;exact⟨f,h1,fun b hb=>⟨h2 b hb,jd h1 b hb⟩⟩
theorem BO {w: aI} {c: dY} {f: Fp}:gB w [c] [v] f↔dY.ow w c v f:=by
 constructor
 ·rintro⟨u,us,f1,f2,e,h1,h2,hd,hf⟩
  cases e
  exact dY.YI h1 (fun b=>(hf b).trans ⟨fun h=>h.elim id (fun h=>absurd h (h2.2 b)),.inl⟩)
 ·intro h
  exact⟨v,[],f,fun _=>False,rfl,h,⟨rfl,fun _ h=>h⟩,fun _ _ h=>h,fun b=>by simp⟩
theorem It.ow1 {w: aI} {c: dY} (h:It w [c] [v] lo hi):∃ f,dY.ow w c v f/\∀ b,f b->lo<=b/\b<hi:=by
 obtain⟨f,h1,h2⟩:=h;exact⟨f,BO.1 h1,h2⟩
structure Pc (w:aI) (B o:Nat) (vs:List aJ):Prop where
 cell:∀ j,j<vs.length->w.cell? ⟨B,o+j,ak⟩=vs[j]?
 free:∀ j,j<vs.length->w.frozen? ⟨B,o+j,ak⟩=aC
 lt:B<w.heap.size
def iP (w:aI) (B o:Nat) (cs:List dY) (fp:Fp):Prop:=∃ vs,Pc w B o vs/\gB w cs vs fp/\¬ fp B
structure fH (w w':aI) (B o:Nat) (cs:List dY) (fp:Fp):Prop where
 kT:∃ fp',iP w' B o cs fp'/\∀ b,fp' b->fp b\/w.heap.size<=b
 out:∀ j,j<o\/o+cs.length<=j->w'.cell? ⟨B,j,ak⟩=w.cell? ⟨B,j,ak⟩
 frz:∀ j,w'.frozen? ⟨B,j,ak⟩=w.frozen? ⟨B,j,ak⟩
 wrt:eX (fun b=>fp b\/b=B) w w'
theorem Pc.of_block {w w': aI} {o: Nat} {vs: List aJ} (h:Pc w B o vs) (e:w'.heap[B]?=w.heap[B]?) (hs:w.heap.size<=w'.heap.size):Pc w' B o vs :=
 ⟨fun j hj=>by rw[bf (w:=w) e];exact h.cell j hj,fun j hj=>by rw[show w'.frozen? ⟨B,o+j,ak⟩=w.frozen? ⟨B,o+j,ak⟩ from by simp only[World.frozen?,e]];exact h.free j hj,Nat.lt_of_lt_of_le h.lt hs⟩
theorem iP.wrt {w w': aI} {o: Nat} {cs: List dY} {fp f: Fp} (h:iP w B o cs fp) (hw:eX f w w') (hd:∀ b,fp b\/b=B->¬ f b):iP w' B o cs fp:=by
 obtain⟨vs,h1,h2,h3⟩:=h;exact⟨vs,h1.of_block (hw.block B h1.lt (hd B (.inr rfl))) hw.size,iy h2 hw (fun b hb=>hd b (.inl hb)),h3⟩
theorem iP.below {w w': aI} {o: Nat} {cs: List dY} {fp: Fp} (h:iP w B o cs fp) (hb:Below w.heap.size w w'):iP w' B o cs fp:=h.wrt (f:=fun _=>False) (eX.of_below hb) (fun _ _ h=>h)
theorem iP.lt {w:aI} {B o:Nat} {cs:List dY} {fp:Fp} (h:iP w B o cs fp):B<w.heap.size:=by
 obtain⟨vs,h1,_⟩:=h;exact h1.lt
theorem iP.flt {w: aI} {o: Nat} {cs: List dY} {fp: Fp} (h:iP w B o cs fp):∀ b,fp b->b<w.heap.size:=by
 obtain⟨vs,_,h1,_⟩:=h;exact jd h1
theorem iP.nB {w: aI} {o: Nat} {cs: List dY} {fp: Fp} (h:iP w B o cs fp):¬ fp B:=by
 obtain⟨vs,_,_,h1⟩:=h;exact h1
theorem fH.refl {w: aI} {o: Nat} {cs: List dY} {fp: Fp} (h:iP w B o cs fp):fH w w B o cs fp:=⟨⟨fp,h,fun b hb=>.inl hb⟩,fun _ _=>rfl,fun _=>rfl,eX.refl _ _⟩
theorem fH.next {w: aI} {o: Nat} {cs1: List dY} {fp: Fp} (h:fH w w1 B o cs1 fp):∃ gU,iP w1 B o cs1 gU/\(∀ b,gU b->fp b\/w.heap.size<=b)/\∀ w2 cs2,cs2.length=cs1.length->fH w1 w2 B o cs2 gU->fH w w2 B o cs2 fp:=by
 obtain⟨⟨gU,h1,h2⟩,h3,h4,h5⟩:=h;refine⟨gU,h1,h2,fun w2 cs2 hl k=>?_⟩
 obtain⟨⟨fp2,k1,k2⟩,k3,k4,k5⟩:=k;refine⟨⟨fp2,k1,fun b hb=>?_⟩,fun j hj=>(k3 j hj).trans (h3 j (by omega)),fun j=>(k4 j).trans (h4 j),h5.trans k5 (fun b hb hk=>?_)⟩
 ·rcases k2 b hb with hb|hb
  ·exact h2 b hb
  ·exact .inr (bZ h5.size hb)
 ·rcases hk with hk|hk
  ·rcases h2 b hk with hk|hk
   ·exact .inl hk
   ·omega
  ·exact .inr hk
theorem fH.below {w w1 w2:aI} {B o:Nat} {cs:List dY} {fp:Fp} (h:fH w w1 B o cs fp) (hb:Below w1.heap.size w1 w2):fH w w2 B o cs fp:=by
 obtain⟨gU,h1,h2,h3⟩:=h.next;have e:=hb.block B h1.lt;exact h3 w2 cs rfl ⟨⟨gU,h1.below hb,fun b hb=>.inl hb⟩,fun j _=>bf e,fun j=>by simp only[World.frozen?,e],eX.of_below hb⟩
theorem fH.first {w0 w: aI} {o: Nat} {cs: List dY} {fp: Fp} (h:fH w w1 B o cs fp) (hb:Below w0.heap.size w0 w) (hB:B<w0.heap.size) (hl:∀ b,fp b->b<w0.heap.size):fH w0 w1 B o cs fp:=by
 obtain⟨⟨gU,h1,h2⟩,h3,h4,h5⟩:=h;have e:=hb.block B hB;refine⟨⟨gU,h1,fun b hb'=>(h2 b hb').imp id (fun h=>bZ hb.size h)⟩,fun j hj=>(h3 j hj).trans (bf e),fun j=>(h4 j).trans (by simp only[World.frozen?,e]),(eX.of_below (f:=fun b=>fp b\/b=B) hb).trans h5 (fun _ _ h=>h)⟩
theorem iP.at {w:aI} {B o:Nat} {cs:List dY} {fp:Fp} (h:iP w B o cs fp) {j:Nat} {c:dY} (hj:cs[j]?=au c):∃ u f,w.cell? ⟨B,o+j,ak⟩=au u/\w.frozen? ⟨B,o+j,ak⟩=aC/\dY.ow w c u f/\(∀ b,f b->fp b)/\¬ f B /\
  ∀ (w1:aI) (c':dY) (u':aJ) (f':Fp),eX f w w1->dY.ow w1 c' u' f'->(∀ b,f' b->f b\/w.heap.size<=b)->w1.cell? ⟨B,o+j,ak⟩=au u/\w1.frozen? ⟨B,o+j,ak⟩=aC/\fH w (w1.setCell ⟨B,o+j,ak⟩ u') B o (cs.set j c') fp/\(u'=u->fH w w1 B o (cs.set j c') fp):=by
 obtain⟨vs,h1,h2,h3⟩:=h;have hlen:=jO h2
 have hjl:j<cs.length:=by
  rcases Nat.lt_or_ge j cs.length with h|h
  ·exact h
  ·rw[aZ h] at hj;cases hj
 obtain⟨u,f,hu,hc,hs,hp⟩:=zF h2 hj;have hfB:¬ f B:=fun k=>h3 (hs B k)
 have hB:=h1.lt;refine⟨u,f,(h1.cell j (by omega)).trans hu,h1.free j (by omega),hc,hs,hfB,fun w1 c' u' f' hw hc' hf'=>?_⟩
 have e1:=hw.block B hB hfB;have hP1:=h1.of_block e1 hw.size;have hlt:=jd h2;have Bv:¬ f' B:=fun k=>by rcases hf' B k with k|k;exact hfB k;omega
 have hc1:w1.cell? ⟨B,o+j,ak⟩=au u:=(hP1.cell j (by omega)).trans hu
 refine⟨hc1,hP1.free j (by omega),⟨⟨fun b=>f' b\/fp b/\¬ f b,⟨vs.set j u',⟨fun k hk=>?_,fun k hk=>?_,by simp[World.setCell];exact hP1.lt⟩, ?_, ?_⟩, ?_⟩,fun k hk=>?_,fun k=>?_, ?_⟩,fun e=>⟨⟨fun b=>f' b\/fp b/\¬ f b,⟨vs,hP1, ?_, ?_⟩, ?_⟩,fun k hk=>bf e1,fun k=>by simp only[World.frozen?,e1],hw.mono (fun b _ hb=>.inl (hs b hb))⟩⟩
 ·by_cases ek:j=k
  ·subst ek
   rw[World.cell?_setCell_same _ _ _ hc1];simp at hk
   simp[hk]
  ·rw[World.cell?_setCell_other _ _ _ _ (by simp[ek]),hP1.cell k (by simpa using hk)]
   simp[ek]
 ·rw[World.frozen?_setCell];exact hP1.free k (by simpa using hk)
 ·have hw2:=eX.set w1 B (o+j) u'
  exact hp _ c' u' f' (bZ hw.size hw2.size) (dY.lJ hc' hw2 (fun b hb e => Bv (e ▸ hb))) (fun b hb hn => (hw2.block b (Nat.lt_of_lt_of_le (hlt b hb) hw.size) (fun e => h3 (e ▸ hb))).trans (hw.block b (hlt b hb) hn)) (fun b hb hb2 => by
   rcases hf' b hb with k|k
   ·exact k
   ·have:=hlt b hb2;omega)
 ·rintro (k|⟨k,_⟩)
  ·exact Bv k
  ·exact h3 k
 ·rintro b (k|⟨k,_⟩)
  ·exact (hf' b k).imp (hs b) id
  ·exact .inl k
 ·have hk2:=hk
  rw[bQ] at hk2;rw[World.cell?_setCell_other _ _ _ _ (by simp only[ne_eq,Addr.mk.injEq,not_and];omega)]
  exact bf e1
 ·rw[World.frozen?_setCell];simp only[World.frozen?,e1]
 ·exact (hw.mono (fun b _ hb=>Or.inl (hs b hb))).trans (eX.set w1 B (o+j) u') (fun b _ hb=>.inr hb)
 ·subst e
  have := hp w1 c' u' f' hw.size hc' (fun b hb hn => hw.block b (hlt b hb) hn) (fun b hb hb2 => by
   rcases hf' b hb with k|k
   ·exact k
   ·have:=hlt b hb2;omega)
  have e2:vs.set j u'=vs:=by
   apply List.ext_getElem? ;intro i
   by_cases ei:j=i
   ·subst ei;rw[hu,List.getElem?_set_self (by omega)]
   ·simp[ei]
  rwa [e2] at this
 ·rintro (k|⟨k,_⟩)
  ·exact Bv k
  ·exact h3 k
 ·rintro b (k|⟨k,_⟩)
  ·exact (hf' b k).imp (hs b) id
  ·exact .inl k
theorem aE3 {w: aI} {n: Nat} {a: Option dH} {ds: List dY} {fp: Fp} (h:dY.ow w (.sl s n ds) (aj a n c) fp) (hk:k<n) (hs:0<s):∃ g off f,a=au ⟨g,off,ak⟩/\fp g/\(∀ b,f b->fp b)/\iP w g (off+k*s) ((ds.drop (k*s)).take s) f/\g<w.heap.size /\
  ∀ (w1:aI) (es:List dY),es.length=s->fH w w1 g (off+k*s) es f->∃ fp',dY.ow w1 (.sl s n (ds.take (k*s)++es++ds.drop (k*s+s))) (aj a n c) fp'/\(∀ b,fp' b->fp b\/w.heap.size<=b)/\eX fp w w1:=by
 obtain⟨a0,c0,us,G,f0,e0,ho,hl,hG,hf⟩:=h
 cases e0
 rcases ho with ⟨h0,_⟩|⟨g,off,rfl,ho,rfl⟩
 ·omega
 have FX:=ho.len;have hdl:=jO hl
 have hks:k*s+s<=n*s:=by
  have:(k+1)*s<=n*s:=Nat.mul_le_mul_right s hk;rw[Nat.add_mul,Nat.one_mul] at this;exact this
 have e1:ds=ds.take (k*s)++((ds.drop (k*s)).take s++ds.drop (k*s+s)):=by
  rw[<- List.drop_drop,List.take_append_drop,List.take_append_drop]
 rw[e1] at hl;obtain⟨u1,u23,f1,f23,rfl,hl1,NH,hd1,hf1⟩:=mP hl;obtain⟨u2,u3,f2,f3,rfl,hl2,hl3,hd2,hf2⟩:=mP NH;have n1:u1.length=k*s:=by rw[jO hl1,bM];omega
 have n2:u2.length=s:=by rw[jO hl2,bM,List.length_drop];omega
 have hfg:∀ b,f2 b->f0 b:=fun b hb=>(hf1 b).2 (.inr ((hf2 b).2 (.inl hb)))
 have hgn:¬ f0 g:=fun hb=>hG g rfl hb
 have hblk:=ho.blk;have hle:=ho.le;have hcs:=Nat.mul_le_mul_right s hle;refine⟨g,off,f2,rfl,(hf g).2 (.inl rfl),fun b hb=>(hf b).2 (.inr (hfg b hb)),⟨u2,⟨fun j hj=>?_,fun j hj=>?_,hblk⟩,hl2,fun hb=>hgn (hfg g hb)⟩,hblk,fun w1 es hes hb=>?_⟩
 ·have:=ho.cell (k*s+j) (by omega)
  rw[Nat.add_assoc,this,aT (by omega),aU (by omega),n1]
  congr 1
  omega
 ·have:=ho.free (k*s+j) (by omega)
  rw[Nat.add_assoc];exact this
 ·obtain⟨⟨gU,⟨vs,hv1,hv2,hv3⟩,hx⟩,hout,hfr,hw⟩:=hb
  have nv:vs.length=s:=by rw[jO hv2,hes]
  have hlt1:=jd hl1;have hlt3:=jd hl3
  have k1 : gB w1 (ds.take (k * s)) u1 f1 := iy hl1 hw (fun b hb hk => by
   rcases hk with hk|hk
   ·exact hd1 b hb ((hf2 b).2 (.inl hk))
   ·exact hgn (hk ▸ (hf1 b).2 (.inl hb)))
  have k3 : gB w1 (ds.drop (k * s + s)) u3 f3 := iy hl3 hw (fun b hb hk => by
   rcases hk with hk|hk
   ·exact hd2 b hk hb
   ·exact hgn (hk ▸ (hf1 b).2 (.inr ((hf2 b).2 (.inr hb)))))
  have k12 := nN k1 hv2 (fun b hb hb2 => by
   rcases hx b hb2 with hk|hk
   ·exact hd1 b hb ((hf2 b).2 (.inl hk))
   ·have:=hlt1 b hb;omega)
  have YJ := nN k12 k3 (fun b hb hb2 => by
   rcases hb with hb|hb
   ·exact hd1 b hb ((hf2 b).2 (.inr hb2))
   ·rcases hx b hb with hk|hk
    ·exact hd2 b hk hb2
    ·have:=hlt3 b hb2;omega)
  have hin:∀ b,((f1 b\/gU b)\/f3 b)->f0 b\/w.heap.size<=b:=by
   rintro b ((hb|hb)|hb)
   ·exact .inl ((hf1 b).2 (.inl hb))
   ·exact (hx b hb).imp (hfg b) id
   ·exact .inl ((hf1 b).2 (.inr ((hf2 b).2 (.inr hb))))
  refine⟨fun b=>au g=au b\/((f1 b\/gU b)\/f3 b),⟨au ⟨g,off,ak⟩,c,u1++vs++u3,au g,_,rfl,.inr ⟨g,off,rfl,⟨?_,hle,ho.max,Nat.lt_of_lt_of_le hblk hw.size,fun i hi=>?_,fun i hi=>?_,fun i hi=>by rw[hfr];exact ho.free i hi⟩,rfl⟩,YJ,fun b hb hk=>?_,fun b=>Iff.rfl⟩,fun b hb=>?_,hw.mono (fun b _ hb=>?_)⟩
  ·simp only[bD] at FX ⊢;omega
  ·by_cases i1:i<k*s
   ·rw[hout (off+i) (by omega),ho.cell i hi,aU (by omega),List.append_assoc,aU (by omega)]
   ·by_cases i2:i<k*s+s
    ·have:=hv1.cell (i-k*s) (by omega)
     rw[show off+i=off+k*s+(i-k*s) by omega,this,List.append_assoc,aT (by omega),aU (by omega),n1]
    ·rw[hout (off+i) (by omega),ho.cell i hi,aT (by omega),aT (by omega),List.append_assoc,aT (by omega),aT (by omega),n1,n2,nv]
  ·by_cases i1:i<k*s\/k*s+s<=i
   ·rw[hout (off+i) (by omega)];exact ho.some i hi
   ·have:=hv1.cell (i-k*s) (by omega)
    rw[show off+i=off+k*s+(i-k*s) by omega,this,aV (by omega)]
    rfl
  ·cases hb
   rcases hin _ hk with hk|hk
   ·exact hgn hk
   ·omega
  ·rcases hb with hb|hb
   ·cases hb;exact .inl ((hf g).2 (.inl rfl))
   ·exact (hin b hb).imp (fun h=>(hf b).2 (.inr h)) id
  ·rcases hb with hb|hb
   ·exact (hf b).2 (.inr (hfg b hb))
   ·exact (hf b).2 (.inl (by rw[hb]))
theorem yw {α:Type} {F:α->List dY} {s:Nat} (hs:∀ x,(F x).length=s):∀ {L:List α} {k:Nat} {x:α},L[k]?=au x->((L.flatMap F).drop (k*s)).take s=F x
 | [],k,x,h=>by simp at h
 | y::L,0,x,h=>by
  simp at h
  subst h;rw[Nat.zero_mul,List.drop_zero,List.flatMap_cons,List.take_append_of_le_length (by rw[hs];exact cO _),aY (by rw[hs];exact cO _)]
 | y::L,k+1,x,h=>by
  rw[List.flatMap_cons,show (k+1)*s=(F y).length+k*s by rw[hs,Nat.add_mul];omega,List.drop_append]
  simp only[List.getElem?_cons_succ] at h;have:=yw hs h;rw[Nat.add_sub_cancel_left,List.drop_eq_nil_of_le (by omega),List.nil_append]
  exact this
theorem GY {α:Type} {F:α->List dY} {s:Nat} (hs:∀ x,(F x).length=s):∀ {L:List α} {k:Nat} (y:α),k<L.length->(L.flatMap F).take (k*s)++F y++(L.flatMap F).drop (k*s+s)=(L.set k y).flatMap F
 | [],k,y,h=>by simp at h
 | x::L,0,y,h=>by
  rw[Nat.zero_mul,List.take_zero,List.nil_append,Nat.zero_add,List.set_cons_zero,List.flatMap_cons,List.flatMap_cons,List.drop_append,List.drop_eq_nil_of_le (by rw[hs];exact cO _),hs,Nat.sub_self,List.drop_zero,List.nil_append]
 | x::L,k+1,y,h=>by
  have ih:=GY hs (L:=L) (k:=k) y (by simpa using h)
  have e:(k+1)*s=(F x).length+k*s:=by rw[hs,Nat.add_mul];omega
  rw[List.set_cons_succ,List.flatMap_cons,List.flatMap_cons,<- ih,e,List.take_length_add_append,show (F x).length+k*s+s=(F x).length+(k*s+s) by omega,List.drop_length_add_append]
  simp only[List.append_assoc]
def iH {α:Type} (s:Nat) (F:α->List dY) (L:List α):dY:=.sl s L.length (L.flatMap F)
theorem yx {F: α->List dY} (hF:∀ x,(F x).length=s) (hs:0<s) {w: aI} {a: Option dH} {L: List α} {fp: Fp} (h:dY.ow w (iH s F L) (aj a L.length c) fp) {x: α} (hk:L[k]?=au x):∃ g off f,a=au ⟨g,off,ak⟩/\fp g/\(∀ b,f b->fp b)/\iP w g (off+k*s) (F x) f/\g<w.heap.size /\
  ∀ (w1:aI) (y:α),fH w w1 g (off+k*s) (F y) f->∃ fp',dY.ow w1 (iH s F (L.set k y)) (aj a L.length c) fp'/\(∀ b,fp' b->fp b\/w.heap.size<=b)/\eX fp w w1:=by
 have hkl:k<L.length:=by
  rcases Nat.lt_or_ge k L.length with h|h
  ·exact h
  ·rw[aZ h] at hk;cases hk
 obtain⟨g,off,f,h1,h2,h3,h4,h5,h6⟩:=aE3 h hkl hs;rw[yw hF hk] at h4;refine⟨g,off,f,h1,h2,h3,h4,h5,fun w1 y hb=>?_⟩
 have:=h6 w1 (F y) (hF y) hb;rw[GY hF y hkl] at this;unfold iH;rw[bQ];exact this
theorem iP.el {F: α->List dY} (hF:∀ x,(F x).length=s) (hs:0<s) {w: aI} {o: Nat} {cs: List dY} {fp: Fp} (h:iP w B o cs fp) {L: List α} (hj:cs[j]?=au (iH s F L)) {x: α} (hk:L[k]?=au x):∃ g off c f,w.cell? ⟨B,o+j,ak⟩=au (aj (au ⟨g,off,ak⟩) L.length c)/\g≠B/\fp g/\(∀ b,f b->fp b)/\iP w g (off+k*s) (F x) f /\
  ∀ (w1:aI) (y:α),fH w w1 g (off+k*s) (F y) f->fH w w1 B o (cs.set j (iH s F (L.set k y))) fp:=by
 obtain⟨u,fj,hu,hfz,hc,hsub,hnB,hput⟩:=h.at hj;obtain⟨a,c,us,G,f0,rfl,ho⟩:=hc;have hc:dY.ow w (iH s F L) (aj a L.length c) fj:=⟨a,c,us,G,f0,rfl,ho⟩;obtain⟨g,off,f,rfl,h2,h3,h4,h5,h6⟩:=yx hF hs hc hk;refine⟨g,off,c,f,hu,fun e=>hnB (e ▸ h2),hsub g h2,fun b hb=>hsub b (h3 b hb),h4,fun w1 y hb=>?_⟩
 obtain⟨fp',k1,k2,k3⟩:=h6 w1 y hb;have:=(hput w1 (iH s F (L.set k y)) _ fp' k3 k1 k2).2.2.2 rfl;exact this
def seqB (n s i:Int):Bool:=inB n 1 8&&inB s 0 (n-1)&&inB i 0 100000
def zG (n s i:Int):Int:=if seqB n s i then n*i+s else -1
def uZ (n q:Int):Bool:=inB n 1 8&&inB q 0 800000
def GZ (n q:Int):Int:=if uZ n q then q%n else -1
def G6 (n q:Int):Int:=if uZ n q then q/n else -1
theorem iZ {lo hi: Int}:inB x lo hi=aB↔lo<=x/\x<=hi:=by simp[inB]
theorem YK {n s i: Int}:seqB n s i=aB↔(1<=n/\n<=8)/\(0<=s/\s<=n-1)/\0<=i/\i<=100000:=by simp[seqB,iZ,and_assoc]
theorem Em {n: Int}:uZ n q=aB↔(1<=n/\n<=8)/\0<=q/\q<=800000:=by simp[uZ,iZ]
def rZ (cs:List Int):Bool:=okB cs&&cs.all (fun c=>decide (c<=100000))
def bel (cs:List Int) (q:Nat):Prop:=((q/cs.length:Nat):Int)<el cs (q%cs.length)
def FN (cs:List Int) (Z:List Int):Prop:=Z.Pairwise (·<·)/\∀ q:Int,q∈Z↔0<=q/\bel cs q.toNat
theorem DT:∀ {A B:List Int},A.Pairwise (·<·)->B.Pairwise (·<·)->(∀ q,q∈A↔q∈B)->A=B:=by
 intro A
 induction A with
 | nil =>
  intro B _ _ h
  cases B with
  | nil=>rfl
  | cons b B=>exact absurd ((h b).2 (by simp)) (by simp)
 | cons a A ih =>
  intro B hA hB h
  cases B with
  | nil=>exact absurd ((h a).1 (by simp)) (by simp)
  | cons b B =>
   rw[List.pairwise_cons] at hA hB
   have hab:a=b:=by
    have h1:=(h a).1 (by simp)
    have h2:=(h b).2 (by simp)
    rcases bW.1 h1 with e|e
    ·exact e
    ·rcases bW.1 h2 with e'|e'
     ·exact e'.symm
     ·have:=hB.1 a e
      have:=hA.1 b e';omega
   subst hab;rw[ih hA.2 hB.2 (fun q=>?_)]
   constructor
   ·intro hq
    rcases bW.1 ((h q).1 (bC _ hq)) with e|e
    ·have:=hA.1 q hq;omega
    ·exact e
   ·intro hq
    rcases bW.1 ((h q).2 (bC _ hq)) with e|e
    ·have:=hB.1 q hq;omega
    ·exact e
theorem FN.unique {cs Z Y: List Int} (h:FN cs Z) (k:FN cs Y):Z=Y:=DT h.1 k.1 (fun q=>(h.2 q).trans (k.2 q).symm)
def dV (cs:List Int) (k:Nat) (b:Int):Int:=(List.range k).foldl (fun b i=>min b ((cs.length:Int)*el cs i+(i:Int))) b
def row (H:List (List Int)) (i:Nat):List Int:=H.getD i []
def zi (B:Int) (h:List Int):Prop:=(∀ i,i<h.length->0<=el h i/\el h i<=B-1)/\∀ i,i<h.length-1->el h i<el h (i+1)
instance (B:Int) (h:List Int):Decidable (zi B h):=by unfold zi;infer_instance
def ai0 (N B:Int) (H:List (List Int)):Prop:=(1<=N/\N<=12)/\(1<=B/\B<=12)/\(H.length:Int)=N/\((row H 0).length:Int)=B/\∀ i,i<H.length->zi B (row H i)
instance (N B:Int) (H:List (List Int)):Decidable (ai0 N B H):=by unfold ai0;infer_instance
def gV:List Int->Int->List Int
 | [],n=>[n]
 | x::l,n=>if x<n then x::gV l n else if x=n then x::l else n::x::l
theorem nC {n: Int}:q∈gV h n↔q=n\/q∈h:=by
 induction h with
 | nil=>simp[gV]
 | cons x l ih =>
  unfold gV
  split
  ·rw[bW,ih,bW]
   constructor
   ·rintro (h|h|h)
    ·exact .inr (.inl h)
    ·exact .inl h
    ·exact .inr (.inr h)
   ·rintro (h|h|h)
    ·exact .inr (.inl h)
    ·exact .inl h
    ·exact .inr (.inr h)
  ·split
   ·rename_i h1 h2
    subst h2;simp
   ·simp
theorem xE:(∀ i,i<h.length-1->el h i<el h (i+1))↔h.Pairwise (·<·):=by
 rw[List.pairwise_iff_getElem]
 constructor
 ·intro hr i j hi hj hij
  have:∀ d,∀ (hd:i+d+1<h.length),el h i<el h (i+d+1):=by
   intro d
   induction d with
   | zero=>intro hd;exact hr i (by omega)
   | succ d ih=>intro hd;exact Int.lt_trans (ih (by omega)) (hr (i+d+1) (by omega))
  have h2:=this (j-i-1) (by omega)
  rw[show i+(j-i-1)+1=j by omega] at h2
  simpa[el,hi,hj] using h2
 ·intro hr i hi
  have:=hr i (i+1) (by omega) (by omega) (by omega)
  simpa[el,show i<h.length by omega,show i+1<h.length by omega] using this
theorem wG {n: Int} (hr:h.Pairwise (·<·)):(gV h n).Pairwise (·<·):=by
 induction h with
 | nil=>simp[gV]
 | cons x l ih =>
  rw[List.pairwise_cons] at hr;unfold gV
  split
  ·rename_i h1
   rw[List.pairwise_cons];refine⟨fun q hq=>?_,ih hr.2⟩
   rcases nC.1 hq with h|h
   ·rw[h];exact h1
   ·exact hr.1 q h
  ·split
   ·exact List.pairwise_cons.2 hr
   ·rename_i h1 h2
    rw[List.pairwise_cons];refine⟨fun q hq=>?_,List.pairwise_cons.2 hr⟩
    rcases bW.1 hq with h|h
    ·omega
    ·have:=hr.1 q h;omega
abbrev Ps:=Int×Int×Int
def pat (cs:List Ps) (i:Nat):Ps:=cs.getD i (0,0,0)
def YL (N:Int) (H:List (List Int)) (cs:List Ps) (i:Nat):Prop :=
 (0<=(pat cs i).1/\(pat cs i).1<=N-1)/\(0<=(pat cs i).2.1/\(pat cs i).2.1<=N-1)/\(pat cs i).2.2∈row H (pat cs i).1.toNat/\∀ k,k<i->(pat cs k).1≠(pat cs i).1/\(pat cs k).2.1≠(pat cs i).2.1
instance (N:Int) (H:List (List Int)) (cs:List Ps) (i:Nat):Decidable (YL N H cs i):=by unfold YL;infer_instance
def Vs (N:Int) (H:List (List Int)) (cs:List Ps):Prop:=∀ i,i<cs.length->YL N H cs i
instance (N:Int) (H:List (List Int)) (cs:List Ps):Decidable (Vs N H cs):=by unfold Vs;infer_instance
def ai1 (B:Int) (H:List (List Int)):Prop:=∀ i,i<H.length->((row H i).length:Int)=B
instance (B:Int) (H:List (List Int)):Decidable (ai1 B H):=by unfold ai1;infer_instance
structure VV (w:aI) (a:Option dH) (len cap:Nat) (H:List (List Int)):Prop where
 n:H.length=len
 le:len<=cap
 mx:cap<=dD
 row:∀ i,i<len->∃ b off x c,a=au ⟨b,off,ak⟩/\w.cell? ⟨b,off+i,ak⟩=au (aj x (row H i).length c)/\Vec w x (row H i).length (row H i)/\(row H i).length<=c/\c<=dD
theorem G7 {xs: List Int}:x∈xs↔∃ j,j<xs.length/\el xs j=x:=by
 constructor
 ·intro h
  obtain⟨i,hi,rfl⟩:=List.getElem_of_mem h;exact⟨i,hi,by rw[qX hi]⟩
 ·rintro⟨j,hj,rfl⟩
  exact kK hj
def sK (xs:List Int):Bool:=decide (∀ i,i<xs.length-1->el xs i<el xs (i+1))
theorem qL (a:Option dH) (len cap:Nat) (x:Int) (xs:List Int) (w:aI) (hv:Vec w a len xs) (hm:len<=dD) :
  dF dA 113 #[aj a len cap,ah aA x] w fun e w'=>e=aK (aF (decide (x∈xs)))/\w'=w:=by
 unfold dD at hm;have HL:=dP hv.1;have hc:=hv.2.2;clear hv;go_enter Tryz.func113,Tryz.ntmps113
 go_wp2
 go_loop [5] (fun i=>∃ k:Nat,k<=len/\i=ah aA k/\∀ j,j<k->el xs j≠x) (fun i=>len-(dG i).toNat)
 case atStart=>exact⟨0,cZ _,rfl,fun j hj=>by omega⟩
 case round =>
  obtain⟨k,hk,rfl,hno⟩:=hrel;have HN:=dP hno;clear hno;by_cases hlt:k<len
  ·rcases hc with h0|⟨b,off,rfl,hc⟩
   ·omega
   have hck:=hc k hlt;by_cases he:el xs k=x
   ·have hb:(el xs k==x)=aB:=by simpa using he
    have HF:aG (decide (x∈xs)=aB):=by rw[aG,decide_eq_true_eq];exact G7.2 ⟨k,by rw[HL.out];exact hlt,he⟩
    clear he;go_wp2;go_ret
    exact⟨dZ (by rw[HF.out]),rfl⟩
   ·have hb:(el xs k==x)=aC:=by simpa using he
    have HE:=dP he;clear he;go_wp2
    go_round
    case rel => exact ⟨k + 1,by omega,by go_num,fun j hj => by
     rcases aW.1 hj with h|h
     ·exact HN.out j h
     ·rw[h];exact HE.out⟩
    case measure=>simp[dG];omega
  ·have HF:aG (decide (x∈xs)=aC):=by
    rw[aG,decide_eq_false_iff_not,G7];rintro⟨j,hj,e⟩;exact HN.out j (by rw[HL.out] at hj;omega) e
   clear hc;go_wp2;go_ret
   exact⟨dZ (by rw[HF.out]),rfl⟩
theorem FY (a:Option dH) (len cap:Nat) (xs:List Int) (w:aI) (hv:Vec w a len xs) (hm:len<=dD) :
  dF dA 112 #[aj a len cap] w fun e w'=>e=aK (aF (sK xs))/\∃ n,w'=w.drewN n:=by
 unfold dD at hm;have HL:=dP hv.1;have hc:=hv.2.2;clear hv;go_enter Tryz.func112,Tryz.ntmps112
 go_wp2
 go_loopw [3] (fun i wr=>∃ k n:Nat,k<=len/\i=ah aA ((k:Int)+1)/\wr=w.drewN n/\∀ j,j<k->el xs j<el xs (j+1)) (fun i _=>(len+1)-(dG i).toNat)
 case atStart=>exact⟨0,0,cZ _,rfl,rfl,fun j hj=>by omega⟩
 case round =>
  obtain⟨k,n,hk,rfl,rfl,hr⟩:=hrel;have HR:=dP hr;clear hr;by_cases hlt:k+1<len
  ·rcases hc with h0|⟨b,off,rfl,hc⟩
   ·omega
   have c1:=hc (k+1) hlt;have c0:=hc k (by omega)
   have h1:(k:Int)+1<(len:Int):=by omega
   have h2:(k:Int)<len:=by omega
   have h0:(0:Int)<=(k:Int)+1:=by omega
   have h3:(0:Int)<=k:=by omega
   have e1:((k:Int)+1).toNat=k+1:=by omega
   by_cases hx:el xs k<el xs (k+1)
   ·have hd:decide (el xs (k+1)<=el xs k)=aC:=by simp;omega
    have HX:=dP hx;clear hx;go_wp2_with fail
    go_quiet (fail)
    go_wp2;go_roundw
    case rel => exact ⟨k + 1,_,by omega,by go_num,rfl,fun j hj => by
     rcases aW.1 hj with h|h
     ·exact HR.out j h
     ·rw[h];exact HX.out⟩
    case measure=>simp[dG];omega
   ·have hd:decide (el xs (k+1)<=el xs k)=aB:=by simp;omega
    have HF:aG (sK xs=aC):=by
     rw[aG,sK,decide_eq_false_iff_not];intro h;exact hx (h k (by rw[HL.out];omega))
    clear hx;go_wp2_with fail
    go_quiet (fail)
    go_wp2;go_ret
    exact⟨dZ (by rw[HF.out]),n+nq,by simp⟩
  ·have hd:decide ((k:Int)+1<(len:Int))=aC:=by simp;omega
   have HF:aG (sK xs=aB):=by
    rw[aG,sK,decide_eq_true_eq];intro j hj;exact HR.out j (by rw[HL.out] at hj;omega)
   clear hc;go_wp2;go_ret
   exact⟨dZ (by rw[HF.out]),_,rfl⟩
structure Rw where
 ver:Int
 txt:List (List UInt8)
 got:List Int
 dQ:List Int
 wed:Bool
 dV:Bool
 dW:Int
 dU:List Int
def nJ:Rw:=⟨0,[],[],[],aC,aC,0,[]⟩
def lY (l:List Int) (n:Int):Bool:=l.all (fun x=>inB x 0 (n-1))&&sK l
def lG (v:List Int) (n:Int):Bool:=okB v&&(decide ((v.length:Int)=n)&&v.all (fun x=>decide (x<=12)))
def gu (r:Rw) (n:Int):Bool :=
 inB n 1 5 && (inB r.ver 0 1000000 && (decide (r.txt.length <= 12) && (lG r.got n && (lY r.dQ n && (r.txt.all (fun t => decide (t.length <= 20)) &&
  (if r.dV then r.wed&&(inB r.dW 0 (n-1)&&lG r.dU n) else decide (r.dW=0)&&decide (r.dU=[])))))))
def jS (n:Int):Rw:=if inB n 1 5 then ⟨0,[],bV n.toNat 0,[],aC,aC,0,[]⟩ else nJ
def sv (l:List UInt8):ByteArray:=⟨l.toArray⟩
theorem BP (l:List UInt8):(sv l).size=l.length:=by simp[sv,ByteArray.size]
theorem Ri (l:List UInt8):(sv l).toList=l:=by
 have h:=ByteArray.toList_mk l;exact h
theorem Tryz.info5:(Tryz.prog.info? 5).map (fun i=>(i.zero,i.size,i.bytes))=au (au (ah .u8 0),1,1):=by kernel_rfl
section
attribute [local irreducible] sv
end
abbrev Lg:=Int×List (List UInt8)
def au2 (l:Lg):Prop:=(1<=l.1/\l.1<=1000000)/\l.2.length<=40/\∀ i,i<l.2.length->(l.2.getD i []).length<=100
instance (l:Lg):Decidable (au2 l):=by unfold au2;infer_instance
def au3 (l:Lg) (v:Int) (s:List UInt8):Prop:=v=l.1+(l.2.length:Int)/\l.2.length≠40/\s.length<=100
instance (l:Lg) (v:Int) (s:List UInt8):Decidable (au3 l v s):=by unfold au3;infer_instance
def au4 (l:Lg) (v:Int):Prop:=l.1<=v/\v<=l.1+(l.2.length:Int)-1
instance (l:Lg) (v:Int):Decidable (au4 l v):=by unfold au4;infer_instance
section
theorem Tryz.info9:(Tryz.prog.info? 9).map (fun i=>(i.zero,i.size,i.bytes))=au (au (.string ⟨#[]⟩),1,16):=by kernel_rfl
theorem xW {T b: Nat} {z: aJ} (h:(Tryz.prog.info? T).map (fun i=>(i.zero,i.size,i.bytes))=au (au z,s,b)):∃ i,Tryz.prog.info? T=au i/\i.zero=au z/\i.size=s/\i.bytes=b:=by
 cases hq:Tryz.prog.info? T with
 | none=>rw[hq] at h;simp at h
 | some i=>rw[hq] at h;simp at h;exact⟨i,rfl,h.1,h.2.1,h.2.2⟩
def sD (zs:List (List UInt8)):List aJ:=zs.map (fun s=>Value.string (sv s))
theorem ak3 (a b:List (List UInt8)):sD (a++b)=sD a++sD b:=by simp[sD]
theorem ak4 (zs:List (List UInt8)):∀ u∈sD zs,u.oneCell'=aB:=by
 intro u hu;simp only[sD,List.mem_map] at hu;obtain⟨s,_,rfl⟩:=hu
 rfl
def OS (w:aI) (g off n cap:Nat) (zs:List (List UInt8)):Prop:=jE w 1 g off n cap (sD zs)
theorem OS.length {w: aI} {n cap: Nat} {zs: List (List UInt8)} (h:OS w g off n cap zs):zs.length=n:=by have:=h.len;simpa[sD] using this
theorem OS.cellAt {w: aI} {n cap: Nat} {zs: List (List UInt8)} (h:OS w g off n cap zs) (hi:i<n):w.cell? ⟨g,off+i,ak⟩=au (aN (sv (zs.getD i []))):=by
 have hl:=h.length;rw[h.cell i (by omega)]
 simp[sD,show i<zs.length by omega]
attribute [local irreducible] sv
end
section
attribute [local irreducible] sv
end
section
def yA (w:aI) (a:Option dH) (T:List (List UInt8)):Prop:=T.length=0\/∃ b off,a=au ⟨b,off,ak⟩/\∀ i,i<T.length->w.cell? ⟨b,off+i,ak⟩=au (aN (sv (T.getD i [])))
theorem yA.below {w w': aI} {a: Option dH} {T: List (List UInt8)} (h:yA w a T) (hb:Below w.heap.size w w'):yA w' a T:=by
 rcases h with h|⟨b,off,ha,hc⟩
 ·exact .inl h
 ·exact .inr ⟨b,off,ha,fun i hi=>(hb.cell (aX _ _ (hc i hi))).trans (hc i hi)⟩
def pO (T:List (List UInt8)):dY:=.sl 1 T.length (pl (sD T))
theorem Rj (T:List (List UInt8)):(sD T).length=T.length:=by simp[sD]
theorem Rk {T: List (List UInt8)} (h:i<T.length):(sD T)[i]?=au (aN (sv (T.getD i []))):=by simp[sD,h]
theorem uN {w: aI} {T: List (List UInt8)} {fp: Fp}:dY.ow w (pO T) u fp↔∃ a c G,u=aj a T.length c/\iQ w 1 a T.length c (sD T) G/\∀ b,fp b↔G=au b:=by
 constructor
 ·rintro⟨a,c,us,G,f,rfl,ho,hl,hn,hf⟩
  obtain⟨rfl,h0⟩:=rM.1 hl;exact⟨a,c,G,rfl,ho,fun b=>(hf b).trans ⟨fun h=>h.elim id (fun h=>absurd h (h0 b)),.inl⟩⟩
 ·rintro⟨a,c,G,rfl,ho,hf⟩
  exact⟨a,c,_,G,fun _=>False,rfl,ho,rM.2 ⟨rfl,fun _ h=>h⟩,fun _ _ h=>h,fun b=>(hf b).trans ⟨.inl,fun h=>h.elim id False.elim⟩⟩
theorem Vt {w: aI} {T: List (List UInt8)} (h:dY.vw w (pO T) u):∃ a c,u=aj a T.length c/\yA w a T/\T.length<=c/\c<=dD:=by
 obtain⟨a,c,us,rfl,h1,h2,h3,h,hl⟩:=h;have e:=Ej.1 hl;subst e;refine⟨a,c,rfl, ?_,h1,h2⟩;rcases h with h|⟨b,off,ha,hc⟩
 ·exact .inl h
 ·refine .inr ⟨b,off,ha,fun i hi=>?_⟩
  rw[hc i (by omega),Rk hi]
theorem iQ.os {w: aI} {a: Option dH} {T: List (List UInt8)} (h:iQ w 1 a T.length c (sD T) G):(T=[]/\c=0/\G=ak)\/∃ g off,a=au ⟨g,off,ak⟩/\OS w g off T.length c T/\G=au g:=by
 rcases h with ⟨h1,h2,h3,h4,_⟩|h
 ·exact .inl ⟨List.eq_nil_of_length_eq_zero h1,h2,h4⟩
 ·exact .inr h
theorem yA.news {w: aI} {a: Option dH} {T: List (List UInt8)} (h:yA w a T):T.length=0\/∃ ad,a=au ad/\∀ j u,(sD T)[j]?=au u->w.cell? (ad.add j)=au u:=by
 rcases h with h|⟨b,off,rfl,hc⟩
 ·exact .inl h
 ·refine .inr ⟨_,rfl,fun j u hu=>?_⟩
  have hl:=(List.getElem?_eq_some_iff.1 hu).1;rw[Rj] at hl;rw[Rk hl] at hu
  cases hu
  rw[zD];exact hc j hl
def Bz (T:List (List UInt8)):Nat->Nat
 | 0=>0
 | k+1=>Bz T k+(T.getD k []).length
theorem Rl (T:List (List UInt8)):∀ {i k:Nat},i<k->(T.getD i []).length<=Bz T k
 | i,0,h=>by omega
 | i,k+1,h=>by
  rcases aW.1 h with h|rfl
  ·have:=Rl T h
   simp only[Bz];omega
  ·simp only[Bz];omega
attribute [local irreducible] sv
theorem ak5 (w:aI) (n:Nat) (hn:n<=dD):OS (w.alloc (aH (madeCells #[.string ⟨#[]⟩] n) 9)) w.heap.size 0 n n (bV n []):=by
 have h:=Dp w #[.string ⟨#[]⟩] 1 n 9 rfl (by omega) hn
 have e:(bV n (#[Value.string ⟨#[]⟩]:Array aJ).toList).flatten=sD (bV n []):=by
  unfold sD;rw[List.map_replicate];have:sv []=⟨#[]⟩:=by unfold sv;rfl
  rw[this];simp
 rw[e,Nat.mul_one] at h;exact h
theorem Ui (a a':Option dH) (cap cap':Nat) (T:List (List UInt8)) (w:aI) (hz:yA w a T) (hy:yA w a' T) (hm:T.length<=dD) :
  dF dA 66 #[aj a T.length cap,aj a' T.length cap'] w fun e w'=>e=aK (aF aB)/\Grew w w':=by
 unfold dD at hm;have HZ:=dP hz;have HY:=dP hy;have hne:((T.length:Int) != (T.length:Int))=aC:=by simp
 clear hz hy;go_enter Tryz.func66,Tryz.ntmps66
 go_wp2;clear hne
 go_loopw [5] (fun i wr=>∃ j:Nat,j<=T.length/\i=ah aA j/\∃ q,wr=w.drewN q) (fun i _=>T.length-(dG i).toNat)
 case atStart=>exact⟨0,cZ _,rfl,0,rfl⟩
 case round =>
  obtain⟨j,hj,rfl,q,rfl⟩:=hrel;by_cases hlt:j<T.length
  ·rcases HZ.out with h0|⟨b,off,rfl,hc⟩
   ·omega
   rcases HY.out with h0|⟨b',off',rfl,hc'⟩
   ·omega
   have c1:=hc j hlt;have c2:=hc' j hlt;have j1:(j:Int)<T.length:=by omega
   have j0:(0:Int)<=j:=by omega
   generalize T.getD j []=A at *;have hb:((sv A).toList==(sv A).toList)=aB:=by simp
   clear hc hc';go_wp2_with fail
   go_quiet (fail)
   go_wp2;go_roundw
   case rel=>exact⟨j+1,by omega,by go_num,_,rfl⟩
   case measure=>simp[dG];omega
  ·have hjl:j=T.length:=by omega
   subst hjl;go_wp2;go_ret
   exact⟨rfl,(Grew.refl _).drewN _⟩
end
section
theorem Bx.r2 {w: aI} {x y: aJ} (h:Bx w B T #[x,y]):w.cell? ⟨B,0,ak⟩=au x/\w.cell? ⟨B,1,ak⟩=au y:=⟨h.at 0 rfl,h.at 1 rfl⟩
theorem Uj {w: aI} (t ty e:TypeId) (i:TypeInfo) (ht:P.underlying t=au (.slice e)) (hi:P.info? e=au i) (hz:i.zero=au (.string ⟨#[]⟩)) (hsize:i.size=1) (hby:i.bytes=16)
  {a:Option dH} (ha:sH a) {x:Option dH} {c:Nat} {T:List (List UInt8)} (hv:yA w x T) (hm:T.length<=1048576) :
  ∃ a' c' w' fp',(bU #[t,t] ty #[aj a 0 0,aj x T.length c]).run P w=.ok (aj a' T.length c') w'/\dY.ow w' (pO T) (aj a' T.length c') fp'/\eX (fun _=>False) w w'/\∀ b,fp' b->b=w.heap.size:=by
 obtain⟨a',c',G',w',hr,ho',hg,hat⟩:=ny (P:=P) w t ty e i _ 1 16 ht hi hz hsize hby rfl (by omega) a 0 0 [] ak (iQ.nil _ _ ha) x T.length c (sD T) (by rw[Rj];omega) hv.news (ak4 T) (by unfold dD;omega) (by omega)
 simp only[Nat.zero_add,List.nil_append] at hr ho';refine⟨a',c',w',fun b=>G'=au b,hr,uN.2 ⟨a',c',G',rfl,ho',fun b=>Iff.rfl⟩,(eX.lI hg).mono (fun b _ hb=>by cases hb),fun b hb=>?_⟩
 rcases hat with h|h
 ·rw[h] at hb;cases hb
 ·rw[h] at hb;cases hb;rfl
attribute [local irreducible] sv
end
section
def KD (w:aI) (a:Option dH) (c:Nat) (T:List (List UInt8)):Prop:=(T=[]/\c=0/\sH a)\/∃ b off,a=au ⟨b,off,ak⟩/\T.length<=c/\c<=dD/\∀ i,i<T.length->w.cell? ⟨b,off+i,ak⟩=au (aN (sv (T.getD i [])))
theorem KD.Vu {w: aI} {a: Option dH} {T: List (List UInt8)} (h:KD w a c T):yA w a T:=by
 rcases h with ⟨h,_⟩|⟨b,off,h1,h2,h3,h4⟩
 ·exact .inl (by rw[h];rfl)
 ·exact .inr ⟨b,off,h1,h4⟩
theorem KD.below {w w': aI} {a: Option dH} {T: List (List UInt8)} (h:KD w a c T) (hb:Below w.heap.size w w'):KD w' a c T:=by
 rcases h with h|⟨b,off,ha,h1,h2,hc⟩
 ·exact .inl h
 ·exact .inr ⟨b,off,ha,h1,h2,fun i hi=>(hb.cell (aX _ _ (hc i hi))).trans (hc i hi)⟩
theorem iQ.txp {w: aI} {a: Option dH} {T: List (List UInt8)} (h:iQ w 1 a T.length c (sD T) G):KD w a c T:=by
 have hp:=h.plain;rcases h.os with ⟨h1,h2,_⟩|⟨g,off,h1,h2,_⟩
 ·exact .inl ⟨h1,h2,hp⟩
 ·exact .inr ⟨g,off,h1,h2.le,h2.max,fun i hi=>h2.cellAt hi⟩
theorem NI {w: aI} {a: Option dH} {T: List (List UInt8)} {fp: Fp} (h:dY.ow w (pO T) (aj a T.length c) fp):KD w a c T:=by
 obtain⟨a',c',G,e,ho,_⟩:=uN.1 h
 cases e
 exact ho.txp
attribute [local irreducible] sv
end
end Go.Proofs.YtafimeakbdmkjaaGreat