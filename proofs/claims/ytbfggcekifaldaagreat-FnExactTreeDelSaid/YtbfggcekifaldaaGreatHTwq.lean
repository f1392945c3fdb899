import Derived.Test.YtbfggcekifaldaaGreatTks
import Derived.Test.YtbfggcekifaldaaGreatHTve
namespace Go.Proofs.YtbfggcekifaldaaGreat
open Go.RowKit
set_option linter.unusedVariables false
set_option linter.unusedSimpArgs false
set_option maxRecDepth 100000
def QA (Q:Nat->Prop) (a:Option Addr) (n:Nat):Prop:=0<n->∃ b off,a=some ⟨b,off,none⟩∧Q b
theorem QA.mono {Q Q':Nat->Prop} {a:Option Addr} {n:Nat} (h:QA Q a n) (hq:∀ b,Q b->Q' b):QA Q' a n:=fun h0=>by
 obtain⟨b,off,e,hb⟩:=h h0
 exact⟨b,off,e,hq b hb⟩
theorem rows_keepQ {α:Type} {w w':World} {B B' m:Nat} {Q:Nat->Prop} {cs:α->List Value} {fit:α->Prop} {d:α} {a:Option Addr} {n c:Nat} {xs:List α} (h:RowsAt w 0 B m cs fit d a n c xs) (hq:QA Q a n) (hk:∀ b,Q b->b<B->w'.heap[b]?=w.heap[b]?) (hB:B<=B'):RowsAt w' 0 B' m cs fit d a n c xs:=by
 obtain⟨h1,h2,h3,h4,h5⟩:=h
 refine⟨h1,h2,h3,h4,fun hn=>?_⟩
 obtain⟨b,off,rfl,hlt,hc⟩:=h5 hn
 obtain⟨b2,off2,e,hb2⟩:=hq hn
 cases e
 exact⟨b,off,rfl,⟨Nat.zero_le _,Nat.lt_of_lt_of_le hlt.2 hB⟩,fun i hi j hj=>(World.cell?_of_block (w:=w) (a:=⟨b,off+i*m+j,none⟩) (hk b hb2 hlt.2)).trans (hc i hi j hj)⟩
def NodeQ (w:World) (B:Nat) (Q:Nat->Prop):T->List Value->Prop
 | ⟨l,p,k,v,o,y⟩,cs=>∃ (ka:Option Addr) (kn kc:Nat) (va:Option Addr) (vn vc:Nat) (oa:Option Addr) (on oc:Nat) (ya:Option Addr) (yc:Nat) (css:Nat->List Value),cs=[.bool l,.int .i64 p,.slice ka kn kc,.slice va vn vc,.slice oa on oc,.slice ya y.length yc]∧NodeX w 0 B (fun b=>b<B) ⟨l,p,k,v,o,y⟩ ka kn kc va vn vc oa on oc ya yc css∧QA Q ka kn∧QA Q va vn∧QA Q oa on∧QA Q ya y.length∧∀ i,∀ t ∈ y,y[i]?=some t->NodeQ w B Q t (css i)
structure QX (w:World) (B:Nat) (Q:Nat->Prop) (t:T) (ka:Option Addr) (kn kc:Nat) (va:Option Addr) (vn vc:Nat) (oa:Option Addr) (on oc:Nat) (ya:Option Addr) (yc:Nat) (css:Nat->List Value):Prop where
 nx:NodeX w 0 B (fun b=>b<B) t ka kn kc va vn vc oa on oc ya yc css
 qk:QA Q ka kn
 qv:QA Q va vn
 qo:QA Q oa on
 qy:QA Q ya t.kids.length
 kq:∀ i,∀ k ∈ t.kids,t.kids[i]?=some k->NodeQ w B Q k (css i)
theorem NodeQ.out {w:World} {B:Nat} {Q:Nat->Prop} {t:T} {cs:List Value} (h:NodeQ w B Q t cs):∃ ka kn kc va vn vc oa on oc ya yc css,cs=[.bool t.leaf,.int .i64 t.page,.slice ka kn kc,.slice va vn vc,.slice oa on oc,.slice ya t.kids.length yc]∧QX w B Q t ka kn kc va vn vc oa on oc ya yc css:=by
 obtain⟨l,p,k,v,o,y⟩:=t
 rw[NodeQ.eq_def] at h
 obtain⟨ka,kn,kc,va,vn,vc,oa,on,oc,ya,yc,css,e,h1,h2,h3,h4,h5,h6⟩:=h
 exact⟨ka,kn,kc,va,vn,vc,oa,on,oc,ya,yc,css,e,h1,h2,h3,h4,h5,h6⟩
theorem QX.mk' {w:World} {B:Nat} {Q:Nat->Prop} {t:T} {ka:Option Addr} {kn kc:Nat} {va:Option Addr} {vn vc:Nat} {oa:Option Addr} {on oc:Nat} {ya:Option Addr} {yc:Nat} {css:Nat->List Value} (h:QX w B Q t ka kn kc va vn vc oa on oc ya yc css):NodeQ w B Q t [.bool t.leaf,.int .i64 t.page,.slice ka kn kc,.slice va vn vc,.slice oa on oc,.slice ya t.kids.length yc]:=by
 obtain⟨l,p,k,v,o,y⟩:=t
 rw[NodeQ.eq_def]
 exact⟨ka,kn,kc,va,vn,vc,oa,on,oc,ya,yc,css,rfl,h.nx,h.qk,h.qv,h.qo,h.qy,h.kq⟩
theorem NodeQ.is {w:World} {B:Nat} {Q:Nat->Prop} {t:T} {cs:List Value} (h:NodeQ w B Q t cs):NodeC w B t cs:=by
 obtain⟨ka,kn,kc,va,vn,vc,oa,on,oc,ya,yc,css,rfl,hX⟩:=h.out
 exact hX.nx.mk'
theorem strs_qa {α:Type} {w:World} {B m:Nat} {cs:α->List Value} {fit:α->Prop} {d:α} {a:Option Addr} {n c:Nat} {xs:List α} (h:RowsAt w 0 B m cs fit d a n c xs):QA (fun b=>b<B) a n:=fun h0=>by
 obtain⟨b,off,e,hb,_⟩:=h.2.2.2.2 h0
 exact⟨b,off,e,hb.2⟩
theorem NodeC.q {w:World} {B:Nat}:∀ (t:T) (cs:List Value),NodeC w B t cs->NodeQ w B (fun b=>b<B) t cs:=by
 intro t
 induction t using T.ind with
 | h t ih =>
  intro cs h
  obtain⟨ka,kn,kc,va,vn,vc,oa,on,oc,ya,yc,css,rfl,hX⟩:=h.out
  exact QX.mk' (css:=css) ⟨hX,strs_qa hX.keys,strs_qa hX.vals,strs_qa hX.over,(fun h0=>by
   obtain⟨b,off,e,hb,_⟩:=hX.cell h0
   exact⟨b,off,e,hb⟩),fun i k hm hi=>ih k hm _ (hX.kid i k hm hi)⟩
theorem NodeX.q {w:World} {B:Nat} {t:T} {ka:Option Addr} {kn kc:Nat} {va:Option Addr} {vn vc:Nat} {oa:Option Addr} {on oc:Nat} {ya:Option Addr} {yc:Nat} {css:Nat->List Value} (hX:NodeX w 0 B (fun b=>b<B) t ka kn kc va vn vc oa on oc ya yc css):QX w B (fun b=>b<B) t ka kn kc va vn vc oa on oc ya yc css :=
 ⟨hX,strs_qa hX.keys,strs_qa hX.vals,strs_qa hX.over,(fun h0=>by
   obtain⟨b,off,e,hb,_⟩:=hX.cell h0
   exact⟨b,off,e,hb⟩),fun i k hm hi=>NodeC.q k _ (hX.kid i k hm hi)⟩
theorem NodeQ.keep {w w':World} {B B':Nat} {Q Q':Nat->Prop} (hk:∀ b,Q b->b<B->w'.heap[b]?=w.heap[b]?) (hQ:∀ b,Q b->Q' b) (hB:B<=B'):∀ t cs,NodeQ w B Q t cs->NodeQ w' B' Q' t cs:=by
 intro t
 induction t using T.ind with
 | h t ih =>
  intro cs h
  obtain⟨ka,kn,kc,va,vn,vc,oa,on,oc,ya,yc,css,rfl,hX⟩:=h.out
  have hkid:∀ i,∀ k ∈ t.kids,t.kids[i]?=some k->NodeQ w' B' Q' k (css i):=fun i k hm hi=>ih k hm _ (hX.kq i k hm hi)
  refine QX.mk' (css:=css) ⟨⟨hX.nx.page,rows_keepQ hX.nx.keys hX.qk hk hB,rows_keepQ hX.nx.vals hX.qv hk hB,rows_keepQ hX.nx.over hX.qo hk hB,hX.nx.cap,fun hn=>?_,fun i k hm hi=>(hkid i k hm hi).is⟩,hX.qk.mono hQ,hX.qv.mono hQ,hX.qo.mono hQ,hX.qy.mono hQ,hkid⟩
  obtain⟨b,off,e,hb,hc⟩:=hX.nx.cell hn
  obtain⟨b2,off2,e2,hb2⟩:=hX.qy hn
  rw[e] at e2
  cases e2
  exact⟨b,off,e,Nat.lt_of_lt_of_le hb hB,fun i hi j hj=>(World.cell?_of_block (w:=w) (a:=⟨b,off+i*6+j,none⟩) (hk b hb2 hb)).trans (hc i hi j hj)⟩
theorem QX.keep {w w':World} {B B':Nat} {Q Q':Nat->Prop} {t:T} {ka:Option Addr} {kn kc:Nat} {va:Option Addr} {vn vc:Nat} {oa:Option Addr} {on oc:Nat} {ya:Option Addr} {yc:Nat} {css:Nat->List Value} (hX:QX w B Q t ka kn kc va vn vc oa on oc ya yc css) (hk:∀ b,Q b->b<B->w'.heap[b]?=w.heap[b]?) (hQ:∀ b,Q b->Q' b) (hB:B<=B'):QX w' B' Q' t ka kn kc va vn vc oa on oc ya yc css:=by
 have hkid:∀ i,∀ k ∈ t.kids,t.kids[i]?=some k->NodeQ w' B' Q' k (css i):=fun i k hm hi=>NodeQ.keep hk hQ hB k _ (hX.kq i k hm hi)
 refine⟨⟨hX.nx.page,rows_keepQ hX.nx.keys hX.qk hk hB,rows_keepQ hX.nx.vals hX.qv hk hB,rows_keepQ hX.nx.over hX.qo hk hB,hX.nx.cap,fun hn=>?_,fun i k hm hi=>(hkid i k hm hi).is⟩,hX.qk.mono hQ,hX.qv.mono hQ,hX.qo.mono hQ,hX.qy.mono hQ,hkid⟩
 obtain⟨b,off,e,hb,hc⟩:=hX.nx.cell hn
 obtain⟨b2,off2,e2,hb2⟩:=hX.qy hn
 rw[e] at e2
 cases e2
 exact⟨b,off,e,Nat.lt_of_lt_of_le hb hB,fun i hi j hj=>(World.cell?_of_block (w:=w) (a:=⟨b,off+i*6+j,none⟩) (hk b hb2 hb)).trans (hc i hi j hj)⟩
def SN (w:World) (Q:Nat->Prop) (t:T) (v:Value):Prop:=∃ ka kn kc va vn vc oa on oc ya yc css,v=.agg #[.bool t.leaf,.int .i64 t.page,.slice ka kn kc,.slice va vn vc,.slice oa on oc,.slice ya t.kids.length yc]∧QX w w.heap.size Q t ka kn kc va vn vc oa on oc ya yc css
theorem SN.keep {w w':World} {Q Q':Nat->Prop} {t:T} {v:Value} (h:SN w Q t v) (hk:∀ b,Q b->b<w.heap.size->w'.heap[b]?=w.heap[b]?) (hQ:∀ b,Q b->Q' b) (hB:w.heap.size<=w'.heap.size):SN w' Q' t v:=by
 obtain⟨ka,kn,kc,va,vn,vc,oa,on,oc,ya,yc,css,e,hX⟩:=h
 exact⟨ka,kn,kc,va,vn,vc,oa,on,oc,ya,yc,css,e,hX.keep hk hQ hB⟩
theorem SN.below {w w':World} {Q:Nat->Prop} {t:T} {v:Value} (h:SN w Q t v) (hb:Below w.heap.size w w'):SN w' Q t v:=h.keep (fun b _ hlt=>hb.block b hlt) (fun _ h=>h) hb.size
theorem SN.mono {w:World} {Q Q':Nat->Prop} {t:T} {v:Value} (h:SN w Q t v) (hQ:∀ b,Q b->Q' b):SN w Q' t v:=h.keep (fun _ _ _=>rfl) hQ (Nat.le_refl _)
theorem own_qa {w:World} {base e size n c:Nat} {a:Option Addr} {xs:List Value} (h:w.ownsRow base e size (.slice a n c) n xs):QA (fun b=>base<=b) a n:=fun h0=>by
 rcases h.2 with ⟨e1,e2⟩ | ⟨g,cap,cur,e1,hg1,hg2,h1,h2,_⟩
 ·omega
 ·have hlt:=h.lt g (by rw[e1];rfl)
  cases e1
  exact⟨g,0,rfl,hlt.1⟩
theorem nodeC_up {w w':World} {t:T} {cs:List Value} (h:NodeC w w.heap.size t cs) (hb:Below w.heap.size w w'):NodeC w' w'.heap.size t cs :=
 NodeIs.keep (.of_below hb) (fun b h=>hb.block b h) (fun b h=>Nat.lt_of_lt_of_le h hb.size) (Nat.le_refl _) hb.size t cs h
theorem nodeX_up {w w':World} {t:T} {ka:Option Addr} {kn kc:Nat} {va:Option Addr} {vn vc:Nat} {oa:Option Addr} {on oc:Nat} {ya:Option Addr} {yc:Nat} {css:Nat->List Value} (h:NodeX w 0 w.heap.size (fun b=>b<w.heap.size) t ka kn kc va vn vc oa on oc ya yc css) (hb:Below w.heap.size w w'):NodeX w' 0 w'.heap.size (fun b=>b<w'.heap.size) t ka kn kc va vn vc oa on oc ya yc css :=
 ⟨h.page,(h.keys.below hb).up (Nat.le_refl _) hb.size,(h.vals.below hb).up (Nat.le_refl _) hb.size,(h.over.below hb).up (Nat.le_refl _) hb.size,h.cap,fun hn=>by
  obtain⟨b,off,e,hb',hc⟩:=h.cell hn
  exact⟨b,off,e,Nat.lt_of_lt_of_le hb' hb.size,fun i hi j hj=>(World.cell?_of_block (w:=w) (a:=⟨b,off+i*6+j,none⟩) (hb.block b hb')).trans (hc i hi j hj)⟩,fun i k hm hi=>nodeC_up (h.kid i k hm hi) hb⟩
theorem srcRows {α:Type} {w:World} {A B:Nat} {cs:α->List Value} {fit:α->Prop} {d:α} {a:Option Addr} {n c:Nat} {xs:List α} (hc1:∀ x,(cs x).length=1) (h1:∀ u ∈ rowsOf cs xs,u.oneCell'=true) (h:RowsAt w A B 1 cs fit d a n c xs) (hn:n<=1048576):SrcAt w B 1 n (.slice a n c) (rowsOf cs xs):=by
 obtain⟨g1,g2,g3,g4,g5⟩:=h
 have hl:(rowsOf cs xs).length=n:=by rw[rowsOf_length hc1];omega
 refine⟨by omega,hn,h1,a,c,rfl,fun e=>?_,fun h0=>?_,fun x hx j u hj=>?_⟩
 ·rcases Nat.eq_zero_or_pos n with h | h
  ·exact h
  ·obtain⟨b,off,e2,_⟩:=g5 h
   rw[e] at e2;cases e2
 ·obtain⟨b,off,e2,_⟩:=g5 (by omega)
  exact⟨b,off,e2⟩
 ·have hj2:=(List.getElem?_eq_some_iff.1 hj).1
  rw[hl] at hj2
  obtain⟨b,off,e2,hb,hc⟩:=g5 (by omega)
  rw[hx] at e2
  simp only[Option.some.injEq] at e2
  subst e2
  rw[addr_add]
  refine⟨hb.2,?_⟩
  have h9:=hc j hj2 0 (by omega)
  have h8:=rowsOf_get hc1 d xs j 0 (by omega) (by omega)
  simp only[Nat.mul_one,Nat.add_zero] at h9 h8
  rw[h9,<-h8,hj]
def KidCells (t:T) (css:Nat->List Value):Prop:=∀ i,i<t.kids.length->(css i).length=6∧∀ u ∈ css i,u.oneCell'=true
theorem NodeX.cells6 {w:World} {A B:Nat} {P:Nat->Prop} {t:T} {ka:Option Addr} {kn kc:Nat} {va:Option Addr} {vn vc:Nat} {oa:Option Addr} {on oc:Nat} {ya:Option Addr} {yc:Nat} {css:Nat->List Value} (h:NodeX w A B P t ka kn kc va vn vc oa on oc ya yc css):KidCells t css:=by
 intro i hi
 have hk:t.kids[i]?=some t.kids[i]:=List.getElem?_eq_getElem hi
 obtain⟨_,_,_,_,_,_,_,_,_,_,_,_,e,_⟩:=(h.kid i _ (List.getElem_mem hi) hk).out
 rw[e]
 exact⟨rfl,by simp[Value.oneCell']⟩
theorem srcKids {w:World} {A B:Nat} {t:T} {ka:Option Addr} {kn kc:Nat} {va:Option Addr} {vn vc:Nat} {oa:Option Addr} {on oc:Nat} {ya:Option Addr} {yc:Nat} {css:Nat->List Value} (h:NodeX w A B (fun b=>b<B) t ka kn kc va vn vc oa on oc ya yc css) (hn:t.kids.length<=1048576) (hya:ya=none->t.kids.length=0):SrcAt w B 6 t.kids.length (.slice ya t.kids.length yc) (rowsC css t.kids.length):=by
 have h6:=h.cells6
 have hrc:=rowsC_get (css:=css) (m:=t.kids.length) (fun i hi=>(h6 i hi).1)
 refine⟨hrc.1,hn,fun u hu=>?_,ya,yc,rfl,hya,fun h0=>?_,fun x hx j u hj=>?_⟩
 ·obtain⟨i,hi,hu⟩:=List.mem_flatMap.1 hu
  exact (h6 i (List.mem_range.1 hi)).2 u hu
 ·obtain⟨b,off,e,_⟩:=h.cell (by have:=hrc.1;omega)
  exact⟨b,off,e⟩
 ·have hj2:=(List.getElem?_eq_some_iff.1 hj).1
  rw[hrc.1] at hj2
  obtain⟨b,off,e,hb,hc⟩:=h.cell (by omega)
  rw[hx] at e
  simp only[Option.some.injEq] at e
  subst e
  rw[addr_add]
  refine⟨hb,?_⟩
  have h9:=hc (j / 6) (by omega) (j % 6) (by omega)
  have h8:=hrc.2 (j / 6) (j % 6) (by omega) (by omega)
  have e1:j / 6*6+j % 6=j:=by omega
  rw[Nat.add_assoc,e1] at h9
  rw[e1] at h8
  rw[h9,<-h8,hj]
theorem rowsAt_own {α:Type} {w:World} {base e n:Nat} {cs:α->List Value} {fit:α->Prop} {d:α} {v:Value} {xs:List α} (hc1:∀ x,(cs x).length=1) (h:w.ownsRow base e 1 v n (rowsOf cs xs)) (hfit:∀ x ∈ xs,fit x):∃ a c,v=.slice a n c∧RowsAt w 0 w.heap.size 1 cs fit d a n c xs:=by
 have hn:xs.length=n:=by have:=h.1;rw[rowsOf_length hc1] at this;omega
 have hf2:∀ i,i<n->fit (xs.getD i d):=fun i hi=>by
  have:xs.getD i d=xs[i]'(by omega):=by simp[List.getD,show i<xs.length by omega]
  rw[this];exact hfit _ (List.getElem_mem _)
 rcases h.2 with ⟨e1,e2⟩ | ⟨g,cap,cur,e1,hg1,hg2,h1,h2,_⟩
 ·subst e2
  exact⟨none,0,e1,hn,Nat.le_refl _,by unfold maxLen;omega,hf2,fun h0=>absurd h0 (by omega)⟩
 ·have hlt:=h.lt g (by rw[e1];rfl)
  refine⟨_,cap,e1,hn,h1,h2,hf2,fun h0=>⟨g,0,rfl,⟨Nat.zero_le _,hlt.2⟩,fun i hi j hj=>?_⟩⟩
  subst e1
  obtain rfl:j=0:=by omega
  rw[Nat.zero_add,h.cellAt (i*1+0) (by omega)]
  exact rowsOf_get hc1 d xs i 0 (by omega) (by omega)
theorem rowsAt_fits {α:Type} {w:World} {A B:Nat} {cs:α->List Value} {fit:α->Prop} {d:α} {a:Option Addr} {n c:Nat} {xs:List α} (h:RowsAt w A B 1 cs fit d a n c xs):∀ x ∈ xs,fit x:=fun x hx=>by
 obtain⟨i,hi,rfl⟩:=List.mem_iff_getElem.1 hx
 have:=h.2.2.2.1 i (by have:=h.1;omega)
 have e:xs.getD i d=xs[i]:=by simp[List.getD,hi]
 rwa [e] at this
theorem kids_own {w:World} {base n:Nat} {v:Value} {css:Nat->List Value} (h6:∀ i,i<n->(css i).length=6) (h:w.ownsRow base 47 6 v n (rowsC css n)):∃ a c,v=.slice a n c∧n<=c∧c<=maxLen∧(a=none->n=0)∧(0<n->∃ b off,a=some ⟨b,off,none⟩∧b<w.heap.size∧∀ i,i<n->∀ j,j<6->w.cell? ⟨b,off+i*6+j,none⟩=(css i)[j]?):=by
 have hrc:=rowsC_get (css:=css) (m:=n) h6
 rcases h.2 with ⟨e1,e2⟩ | ⟨g,cap,cur,e1,hg1,hg2,h1,h2,_⟩
 ·subst e2
  exact⟨none,0,e1,Nat.le_refl _,by unfold maxLen;omega,fun _=>rfl,fun h0=>absurd h0 (by omega)⟩
 ·have hlt:=h.lt g (by rw[e1];rfl)
  refine⟨_,cap,e1,h1,h2,(fun e=>by cases e),fun h0=>⟨g,0,rfl,hlt.2,fun i hi j hj=>?_⟩⟩
  subst e1
  rw[Nat.zero_add,h.cellAt (i*6+j) (by omega)]
  exact hrc.2 i j hi hj
theorem arr36 (A:Array Value) (h:A.size=36):∃ t0 t1 t2 t3 t4 t5 t6 t7 t8 t9 t10 t11 t12 t13 t14 t15 t16 t17 t18 t19 t20 t21 t22 t23 t24 t25 t26 t27 t28 t29 t30 t31 t32 t33 t34 t35:Value,A=#[t0,t1,t2,t3,t4,t5,t6,t7,t8,t9,t10,t11,t12,t13,t14,t15,t16,t17,t18,t19,t20,t21,t22,t23,t24,t25,t26,t27,t28,t29,t30,t31,t32,t33,t34,t35]:=by
 obtain⟨l⟩:=A
 match l,h with
 | t0::t1::t2::t3::t4::t5::t6::t7::t8::t9::t10::t11::t12::t13::t14::t15::t16::t17::t18::t19::t20::t21::t22::t23::t24::t25::t26::t27::t28::t29::t30::t31::t32::t33::t34::t35::[],_=>exact⟨t0,t1,t2,t3,t4,t5,t6,t7,t8,t9,t10,t11,t12,t13,t14,t15,t16,t17,t18,t19,t20,t21,t22,t23,t24,t25,t26,t27,t28,t29,t30,t31,t32,t33,t34,t35,rfl⟩
theorem wpAnyH_cast {P:Program} {md:Region.Mode} {ops ops':Array Oper} {Q:Exit->Act->World->Prop} {S:World->Prop} {fuel fuel':Nat} {l l':Array Bool} {a:Act} {w:World} (h1:ops=ops') (h2:l=l') (h3:fuel=fuel') (H:wpAnyH P md ops' Q S fuel' l' a w):wpAnyH P md ops Q S fuel l a w:=by subst h1 h2 h3;exact H
def glueT (a b:T):T:=⟨a.leaf,0,a.keys++b.keys,a.vals++b.vals,a.over++b.over,a.kids++b.kids⟩
theorem rowsC_app {cA cB:Nat->List Value} {m n:Nat}:rowsC cA m++rowsC cB n=rowsC (fun i=>if i<m then cA i else cB (i - m)) (m+n):=by
 induction n with
 | zero =>
  rw[Nat.add_zero,rowsC_congr (css:=cA) (fun i hi=>if_pos hi)]
  simp[rowsC]
 | succ n ih =>
  rw[rowsC_succ,<-List.append_assoc,ih,<-Nat.add_assoc,rowsC_succ,if_neg (by omega),show m+n - m=n by omega]
set_option maxHeartbeats 4000000 in
theorem l3Glue_any {w:World} {Q:Nat->Prop} {a b:T} {va' vb':Value} (hA:SN w Q a va') (hB:SN w Q b vb') (la:a.keys.length<=1000∧a.vals.length<=1000∧a.over.length<=1000∧a.kids.length<=1000) (lb:b.keys.length<=1000∧b.vals.length<=1000∧b.over.length<=1000∧b.kids.length<=1000) :
  Calls Tryz.prog 32 #[va',vb'] w fun e w'=>∃ v,e=.returned v∧SN w' (fun g=>Q g∨w.heap.size<=g) (glueT a b) v∧Below w.heap.size w w':=by
 obtain⟨ka,kn,kc,va,vn,vc,oa,on,oc,ya,yc,css,rfl,hXQ⟩:=hA
 have hX:=hXQ.nx
 obtain⟨kb,km,kd,vb,vm,vd,ob,om,od,yb,yd,css2,rfl,hYQ⟩:=hB
 have hY:=hYQ.nx
 have hya:ya=none->a.kids.length=0:=fun e=>by
  rcases Nat.eq_zero_or_pos a.kids.length with h | h
  ·exact h
  ·obtain⟨_,_,e2,_⟩:=hX.cell h;rw[e] at e2;cases e2
 have hyb:yb=none->b.kids.length=0:=fun e=>by
  rcases Nat.eq_zero_or_pos b.kids.length with h | h
  ·exact h
  ·obtain⟨_,_,e2,_⟩:=hY.cell h;rw[e] at e2;cases e2
 have HX:Hid _:=hX
 have HXQ:Hid _:=hXQ
 have HYQ:Hid _:=hYQ
 clear hXQ hYQ
 have HY:Hid _:=hY
 have HLA:Hid ((a.keys.length=kn∧a.vals.length=vn∧a.over.length=on)∧b.keys.length=km∧b.vals.length=vm∧b.over.length=om):=⟨⟨hX.keys.1,hX.vals.1,hX.over.1⟩,hY.keys.1,hY.vals.1,hY.over.1⟩
 obtain⟨N,hN⟩:∃ N,w.heap.size=N:=⟨_,rfl⟩
 obtain⟨W,hW⟩:∃ W,W=((w.alloc (.cells #[.bool a.leaf,.int .i64 a.page,.slice ka kn kc,.slice va vn vc,.slice oa on oc,.slice ya a.kids.length yc] 47)).alloc (.cells #[.bool b.leaf,.int .i64 b.page,.slice kb km kd,.slice vb vm vd,.slice ob om od,.slice yb b.kids.length yd] 47)).alloc (.cells #[.bool false,.int .i64 0,.slice none 0 0,.slice none 0 0,.slice none 0 0,.slice none 0 0] 47):=⟨_,rfl⟩
 have hbw:Below w.heap.size w W:=by rw[hW];exact (((Below.refl _ _).alloc (Nat.le_refl _) _).alloc (by simp) _).alloc (by simp;omega) _
 have sW:W.heap.size=N+3:=by rw[hW];simp[hN]
 have a3:=alloc3 w (.cells #[.bool a.leaf,.int .i64 a.page,.slice ka kn kc,.slice va vn vc,.slice oa on oc,.slice ya a.kids.length yc] 47) (.cells #[.bool b.leaf,.int .i64 b.page,.slice kb km kd,.slice vb vm vd,.slice ob om od,.slice yb b.kids.length yd] 47) (.cells #[.bool false,.int .i64 0,.slice none 0 0,.slice none 0 0,.slice none 0 0,.slice none 0 0] 47)
 rw[<-hW,hN] at a3
 obtain⟨k0,k1,k2⟩:=a3
 have hXW:=nodeX_up hX hbw
 have hYW:=nodeX_up hY hbw
 have HSA:Hid (∀ j,j<4->SrcAt W.drew (N+3) (gS j) (if j=0 then kn else if j=1 then vn else if j=2 then on else a.kids.length) (if j=0 then .slice ka kn kc else if j=1 then .slice va vn vc else if j=2 then .slice oa on oc else .slice ya a.kids.length yc) (if j=0 then rowsOf strCells a.keys else if j=1 then rowsOf strCells a.vals else if j=2 then rowsOf intCells a.over else rowsC css a.kids.length)):=fun j hj=>by
  have h:=HLA.out
  have hj4:j=0∨j=1∨j=2∨j=3:=by omega
  rw[<-sW]
  rcases hj4 with rfl | rfl | rfl | rfl
  ·show SrcAt W.drew W.heap.size 1 kn (.slice ka kn kc) (rowsOf strCells a.keys)
   exact (srcRows sc1 (strs_one _) hXW.keys (by omega)).below ((Below.refl _ W).drew)
  ·show SrcAt W.drew W.heap.size 1 vn (.slice va vn vc) (rowsOf strCells a.vals)
   exact (srcRows sc1 (strs_one _) hXW.vals (by omega)).below ((Below.refl _ W).drew)
  ·show SrcAt W.drew W.heap.size 1 on (.slice oa on oc) (rowsOf intCells a.over)
   exact (srcRows ic1 (ints_one _) hXW.over (by omega)).below ((Below.refl _ W).drew)
  ·show SrcAt W.drew W.heap.size 6 a.kids.length (.slice ya a.kids.length yc) (rowsC css a.kids.length)
   exact (srcKids hXW (by omega) hya).below ((Below.refl _ W).drew)
 have HSB:Hid (∀ j,j<4->SrcAt W.drew (N+3) (gS j) (if j=0 then km else if j=1 then vm else if j=2 then om else b.kids.length) (if j=0 then .slice kb km kd else if j=1 then .slice vb vm vd else if j=2 then .slice ob om od else .slice yb b.kids.length yd) (if j=0 then rowsOf strCells b.keys else if j=1 then rowsOf strCells b.vals else if j=2 then rowsOf intCells b.over else rowsC css2 b.kids.length)):=fun j hj=>by
  have h:=HLA.out
  have hj4:j=0∨j=1∨j=2∨j=3:=by omega
  rw[<-sW]
  rcases hj4 with rfl | rfl | rfl | rfl
  ·show SrcAt W.drew W.heap.size 1 km (.slice kb km kd) (rowsOf strCells b.keys)
   exact (srcRows sc1 (strs_one _) hYW.keys (by omega)).below ((Below.refl _ W).drew)
  ·show SrcAt W.drew W.heap.size 1 vm (.slice vb vm vd) (rowsOf strCells b.vals)
   exact (srcRows sc1 (strs_one _) hYW.vals (by omega)).below ((Below.refl _ W).drew)
  ·show SrcAt W.drew W.heap.size 1 om (.slice ob om od) (rowsOf intCells b.over)
   exact (srcRows ic1 (ints_one _) hYW.over (by omega)).below ((Below.refl _ W).drew)
  ·show SrcAt W.drew W.heap.size 6 b.kids.length (.slice yb b.kids.length yd) (rowsC css2 b.kids.length)
   exact (srcKids hYW (by omega) hyb).below ((Below.refl _ W).drew)
 have SS:Hid (∀ w':World,Fr (fun g=>N+2<=g) W.drew w'->w'.heap[N]?=some (.cells #[.bool a.leaf,.int .i64 a.page,.slice ka kn kc,.slice va vn vc,.slice oa on oc,.slice ya a.kids.length yc] 47)∧w'.heap[N+1]?=some (.cells #[.bool b.leaf,.int .i64 b.page,.slice kb km kd,.slice vb vm vd,.slice ob om od,.slice yb b.kids.length yd] 47)):=fun w' hf=>⟨(hf.block N (by show N<W.heap.size;omega) (by omega)).trans k0,(hf.block (N+1) (by show N+1<W.heap.size;omega) (by omega)).trans k1⟩
 have HFIN:Hid (∀ w' U0 U1 U2 U3,Fr (fun g=>N+3<=g) W.drew w'->w'.ownsRow (N+3) 9 1 U0 (kn+km) (rowsOf strCells a.keys++rowsOf strCells b.keys)->w'.ownsRow (N+3) 9 1 U1 (vn+vm) (rowsOf strCells a.vals++rowsOf strCells b.vals)->w'.ownsRow (N+3) 2 1 U2 (on+om) (rowsOf intCells a.over++rowsOf intCells b.over)->w'.ownsRow (N+3) 47 6 U3 (a.kids.length+b.kids.length) (rowsC css a.kids.length++rowsC css2 b.kids.length) ->
   ∃ x0 y0 x1 y1 x2 y2 x3 y3,U0=.slice x0 (kn+km) y0∧U1=.slice x1 (vn+vm) y1∧U2=.slice x2 (on+om) y2∧U3=.slice x3 (a.kids.length+b.kids.length) y3∧SN (put6T w' (N+2) (.bool a.leaf) (.int .i64 0) U0 U1 U2 U3) (fun g=>Q g∨w.heap.size<=g) (glueT a b) (.agg #[.bool a.leaf,.int .i64 0,U0,U1,U2,U3])∧Below w.heap.size w (put6T w' (N+2) (.bool a.leaf) (.int .i64 0) U0 U1 U2 U3)∧(put6T w' (N+2) (.bool a.leaf) (.int .i64 0) U0 U1 U2 U3).heap[N+2]?=some (.cells #[.bool a.leaf,.int .i64 0,U0,U1,U2,U3] 47)∧w'.heap[N+2]?=some (.cells #[.bool false,.int .i64 0,.slice none 0 0,.slice none 0 0,.slice none 0 0,.slice none 0 0] 47)):=by
  intro w' U0 U1 U2 U3 hf r0 r1 r2 r3
  have hX':=HX.out
  have hY':=HY.out
  have hsz:W.heap.size<=w'.heap.size:=hf.size
  have k2':=(hf.block (N+2) (by show N+2<W.heap.size;omega) (by omega)).trans k2
  have hbx:=put6T_box k2' (.bool a.leaf) (.int .i64 0) U0 U1 U2 U3
  have hp:=put6T_fr w' (N+2) (.bool a.leaf) (.int .i64 0) U0 U1 U2 U3
  have hb1:Below w.heap.size w (put6T w' (N+2) (.bool a.leaf) (.int .i64 0) U0 U1 U2 U3):=by
   rw[hN]
   refine ((by rw[<-hN];exact hbw:Below N w W).trans ?_)
   exact⟨hp.os.trans hf.os,hp.tape.trans hf.tape,hp.output.trans hf.output,Nat.le_trans hsz hp.size,fun k hk=>(hp.block k (by omega) (by omega)).trans (hf.block k (by show k<W.heap.size;omega) (by omega))⟩
  rw[<-rowsOf_append] at r0 r1 r2
  rw[rowsC_app] at r3
  have h6:∀ i,i<a.kids.length+b.kids.length->((fun i=>if i<a.kids.length then css i else css2 (i - a.kids.length)) i).length=6:=fun i hi=>by
   dsimp only
   split
   ·exact (hX'.cells6 i (by omega)).1
   ·exact (hY'.cells6 (i - a.kids.length) (by omega)).1
  have q0:=owns_fr r0 hp (fun g hg e=>by have:=(r0.lt g hg).1;omega)
  have q1:=owns_fr r1 hp (fun g hg e=>by have:=(r1.lt g hg).1;omega)
  have q2:=owns_fr r2 hp (fun g hg e=>by have:=(r2.lt g hg).1;omega)
  have q3:=owns_fr r3 hp (fun g hg e=>by have:=(r3.lt g hg).1;omega)
  obtain⟨x0,y0,rfl,s0⟩:=rowsAt_own (fit:=strFit) (d:=ByteArray.empty) sc1 q0 (fun x hx=>by rcases List.mem_append.1 hx with h | h;exact rowsAt_fits hX'.keys x h;exact rowsAt_fits hY'.keys x h)
  obtain⟨x1,y1,rfl,s1⟩:=rowsAt_own (fit:=strFit) (d:=ByteArray.empty) sc1 q1 (fun x hx=>by rcases List.mem_append.1 hx with h | h;exact rowsAt_fits hX'.vals x h;exact rowsAt_fits hY'.vals x h)
  obtain⟨x2,y2,rfl,s2⟩:=rowsAt_own (fit:=I64) (d:=0) ic1 q2 (fun x hx=>by rcases List.mem_append.1 hx with h | h;exact rowsAt_fits hX'.over x h;exact rowsAt_fits hY'.over x h)
  obtain⟨x3,y3,rfl,c1,c2,c3,c4⟩:=kids_own h6 q3
  have hlen:(glueT a b).kids.length=a.kids.length+b.kids.length:=by simp[glueT]
  refine⟨x0,y0,x1,y1,x2,y2,x3,y3,rfl,rfl,rfl,rfl,⟨x0,kn+km,y0,x1,vn+vm,y1,x2,on+om,y2,x3,y3,(fun i=>if i<a.kids.length then css i else css2 (i - a.kids.length)),?_,?_⟩,hb1,hbx,k2'⟩
  ·rw[hlen];rfl
  ·have hq:∀ {a':Option Addr} {n':Nat},QA (fun g=>N+3<=g) a' n'->QA (fun g=>Q g∨w.heap.size<=g) a' n':=fun h=>h.mono (fun g hg=>.inr (by omega))
   have hkid:∀ i,∀ z ∈ (glueT a b).kids,(glueT a b).kids[i]?=some z->NodeQ (put6T w' (N+2) (.bool a.leaf) (.int .i64 0) (.slice x0 (kn+km) y0) (.slice x1 (vn+vm) y1) (.slice x2 (on+om) y2) (.slice x3 (a.kids.length+b.kids.length) y3)) (put6T w' (N+2) (.bool a.leaf) (.int .i64 0) (.slice x0 (kn+km) y0) (.slice x1 (vn+vm) y1) (.slice x2 (on+om) y2) (.slice x3 (a.kids.length+b.kids.length) y3)).heap.size (fun g=>Q g∨w.heap.size<=g) z ((fun i=>if i<a.kids.length then css i else css2 (i - a.kids.length)) i):=fun i z hz hi=>by
    have hi':(a.kids++b.kids)[i]?=some z:=hi
    by_cases hlt:i<a.kids.length
    ·rw[List.getElem?_append_left hlt] at hi'
     simp only[if_pos hlt]
     exact NodeQ.keep (fun g _ hg=>hb1.block g hg) (fun g hg=>.inl hg) hb1.size z _ (HXQ.out.kq i z (List.mem_of_getElem? hi') hi')
    ·rw[List.getElem?_append_right (by omega)] at hi'
     simp only[if_neg hlt]
     exact NodeQ.keep (fun g _ hg=>hb1.block g hg) (fun g hg=>.inl hg) hb1.size z _ (HYQ.out.kq (i - a.kids.length) z (List.mem_of_getElem? hi') hi')
   refine⟨⟨(show I64 0 from ⟨by decide,by decide⟩),s0,s1,s2,by rw[hlen];exact⟨c1,c2⟩,fun h0=>?_,fun i z hz hi=>(hkid i z hz hi).is⟩,hq (own_qa q0),hq (own_qa q1),hq (own_qa q2),?_,hkid⟩
   ·obtain⟨b',off,e,h1,h2⟩:=c4 (by omega)
    exact⟨b',off,e,h1,fun i hi=>h2 i (by omega)⟩
   ·rw[hlen];exact hq (own_qa q3)
 have hMd:N+3<=W.drew.heap.size:=by show N+3<=W.heap.size;omega
 have hW2:W.heap.size=N+3:=sW
 clear hX hY hXW hYW hbw la lb
 generalize a.leaf=lf at *
 generalize a.page=pg at *
 generalize b.leaf=lf2 at *
 generalize b.page=pg2 at *
 generalize a.kids.length=yn at *
 generalize b.kids.length=ym at *
 have l0:N<W.heap.size:=by omega
 have l1:N+1<W.heap.size:=by omega
 go_enter Tryz.func32,Tryz.ntmps32
 go_upto_region 1 with fail
 rw[<-hW]
 clear hW
 refine wp_region_noPanic ?_
 refine wp_region_held_drew (S:=(fun w':World=>w'.heap[N]?=some (.cells #[.bool lf,.int .i64 pg,.slice ka kn kc,.slice va vn vc,.slice oa on oc,.slice ya yn yc] 47)∧w'.heap[N+1]?=some (.cells #[.bool lf2,.int .i64 pg2,.slice kb km kd,.slice vb vm vd,.slice ob om od,.slice yb ym yd] 47))) (by kernel_rfl) (SS.out W.drew (Fr.refl _ _)) (fun hHeld=>?_)
 refine wpAnyH_take (i:=0) (oi:=⟨some 5,Op.fieldAddr 47 (.tmp 2) 0,0,"l3_tree.go:271",#[],none⟩) (v:=.pointer (some ⟨N,0,none⟩)) rfl (by kernel_rfl) (by kernel_rfl) (by kernel_rfl) (fun _ _ _ h=>h) (Or.inl ⟨by rfl,?_⟩) (by assumption) ?_
 ·intro wq hSw;go_simp
 try simp only[Act.put,q1,q2,q3]
 refine wpAnyH_take (i:=1) (oi:=⟨some 6,Op.load 4 (.tmp 5),4,"l3_tree.go:271",#[⟨0,.data⟩],none⟩) (v:=.bool lf) rfl (by kernel_rfl) (by kernel_rfl) (by kernel_rfl) (fun _ _ _ h=>h) (Or.inl ⟨by rfl,?_⟩) (by assumption) ?_
 ·intro wq hSw;(try dsimp only at hSw);obtain⟨y0,y1,y2,y3,y4,y5⟩:=box6g hSw.1;go_simp
 try simp only[Act.put,q1,q2,q3]
 refine wpAnyH_take (i:=3) (oi:=⟨some 8,Op.fieldAddr 47 (.tmp 2) 2,0,"l3_tree.go:271",#[],none⟩) (v:=.pointer (some ⟨N,2,none⟩)) rfl (by kernel_rfl) (by kernel_rfl) (by kernel_rfl) (fun _ _ _ h=>h) (Or.inl ⟨by rfl,?_⟩) (by assumption) ?_
 ·intro wq hSw;go_simp
 try simp only[Act.put,q1,q2,q3]
 refine wpAnyH_take (i:=4) (oi:=⟨some 9,Op.load 43 (.tmp 8),43,"l3_tree.go:271",#[⟨3,.data⟩],none⟩) (v:=.slice ka kn kc) rfl (by kernel_rfl) (by kernel_rfl) (by kernel_rfl) (fun _ _ _ h=>h) (Or.inl ⟨by rfl,?_⟩) (by assumption) ?_
 ·intro wq hSw;(try dsimp only at hSw);obtain⟨y0,y1,y2,y3,y4,y5⟩:=box6g hSw.1;go_simp
 try simp only[Act.put,q1,q2,q3]
 refine wpAnyH_take (i:=6) (oi:=⟨some 11,Op.fieldAddr 47 (.tmp 3) 2,0,"l3_tree.go:271",#[],none⟩) (v:=.pointer (some ⟨N+1,2,none⟩)) rfl (by kernel_rfl) (by kernel_rfl) (by kernel_rfl) (fun _ _ _ h=>h) (Or.inl ⟨by rfl,?_⟩) (by assumption) ?_
 ·intro wq hSw;go_simp
 try simp only[Act.put,q1,q2,q3]
 refine wpAnyH_take (i:=7) (oi:=⟨some 12,Op.load 43 (.tmp 11),43,"l3_tree.go:271",#[⟨6,.data⟩],none⟩) (v:=.slice kb km kd) rfl (by kernel_rfl) (by kernel_rfl) (by kernel_rfl) (fun _ _ _ h=>h) (Or.inl ⟨by rfl,?_⟩) (by assumption) ?_
 ·intro wq hSw;(try dsimp only at hSw);obtain⟨y0,y1,y2,y3,y4,y5⟩:=box6g hSw.2;go_simp
 try simp only[Act.put,q1,q2,q3]
 refine wpAnyH_take (i:=10) (oi:=⟨some 15,Op.fieldAddr 47 (.tmp 2) 3,0,"l3_tree.go:271",#[],none⟩) (v:=.pointer (some ⟨N,3,none⟩)) rfl (by kernel_rfl) (by kernel_rfl) (by kernel_rfl) (fun _ _ _ h=>h) (Or.inl ⟨by rfl,?_⟩) (by assumption) ?_
 ·intro wq hSw;go_simp
 try simp only[Act.put,q1,q2,q3]
 refine wpAnyH_take (i:=11) (oi:=⟨some 16,Op.load 43 (.tmp 15),43,"l3_tree.go:271",#[⟨10,.data⟩],none⟩) (v:=.slice va vn vc) rfl (by kernel_rfl) (by kernel_rfl) (by kernel_rfl) (fun _ _ _ h=>h) (Or.inl ⟨by rfl,?_⟩) (by assumption) ?_
 ·intro wq hSw;(try dsimp only at hSw);obtain⟨y0,y1,y2,y3,y4,y5⟩:=box6g hSw.1;go_simp
 try simp only[Act.put,q1,q2,q3]
 refine wpAnyH_take (i:=13) (oi:=⟨some 18,Op.fieldAddr 47 (.tmp 3) 3,0,"l3_tree.go:271",#[],none⟩) (v:=.pointer (some ⟨N+1,3,none⟩)) rfl (by kernel_rfl) (by kernel_rfl) (by kernel_rfl) (fun _ _ _ h=>h) (Or.inl ⟨by rfl,?_⟩) (by assumption) ?_
 ·intro wq hSw;go_simp
 try simp only[Act.put,q1,q2,q3]
 refine wpAnyH_take (i:=14) (oi:=⟨some 19,Op.load 43 (.tmp 18),43,"l3_tree.go:271",#[⟨13,.data⟩],none⟩) (v:=.slice vb vm vd) rfl (by kernel_rfl) (by kernel_rfl) (by kernel_rfl) (fun _ _ _ h=>h) (Or.inl ⟨by rfl,?_⟩) (by assumption) ?_
 ·intro wq hSw;(try dsimp only at hSw);obtain⟨y0,y1,y2,y3,y4,y5⟩:=box6g hSw.2;go_simp
 try simp only[Act.put,q1,q2,q3]
 refine wpAnyH_take (i:=17) (oi:=⟨some 22,Op.fieldAddr 47 (.tmp 2) 4,0,"l3_tree.go:271",#[],none⟩) (v:=.pointer (some ⟨N,4,none⟩)) rfl (by kernel_rfl) (by kernel_rfl) (by kernel_rfl) (fun _ _ _ h=>h) (Or.inl ⟨by rfl,?_⟩) (by assumption) ?_
 ·intro wq hSw;go_simp
 try simp only[Act.put,q1,q2,q3]
 refine wpAnyH_take (i:=18) (oi:=⟨some 23,Op.load 44 (.tmp 22),44,"l3_tree.go:271",#[⟨17,.data⟩],none⟩) (v:=.slice oa on oc) rfl (by kernel_rfl) (by kernel_rfl) (by kernel_rfl) (fun _ _ _ h=>h) (Or.inl ⟨by rfl,?_⟩) (by assumption) ?_
 ·intro wq hSw;(try dsimp only at hSw);obtain⟨y0,y1,y2,y3,y4,y5⟩:=box6g hSw.1;go_simp
 try simp only[Act.put,q1,q2,q3]
 refine wpAnyH_take (i:=20) (oi:=⟨some 25,Op.fieldAddr 47 (.tmp 3) 4,0,"l3_tree.go:271",#[],none⟩) (v:=.pointer (some ⟨N+1,4,none⟩)) rfl (by kernel_rfl) (by kernel_rfl) (by kernel_rfl) (fun _ _ _ h=>h) (Or.inl ⟨by rfl,?_⟩) (by assumption) ?_
 ·intro wq hSw;go_simp
 try simp only[Act.put,q1,q2,q3]
 refine wpAnyH_take (i:=21) (oi:=⟨some 26,Op.load 44 (.tmp 25),44,"l3_tree.go:271",#[⟨20,.data⟩],none⟩) (v:=.slice ob om od) rfl (by kernel_rfl) (by kernel_rfl) (by kernel_rfl) (fun _ _ _ h=>h) (Or.inl ⟨by rfl,?_⟩) (by assumption) ?_
 ·intro wq hSw;(try dsimp only at hSw);obtain⟨y0,y1,y2,y3,y4,y5⟩:=box6g hSw.2;go_simp
 try simp only[Act.put,q1,q2,q3]
 refine wpAnyH_take (i:=24) (oi:=⟨some 29,Op.fieldAddr 47 (.tmp 2) 5,0,"l3_tree.go:271",#[],none⟩) (v:=.pointer (some ⟨N,5,none⟩)) rfl (by kernel_rfl) (by kernel_rfl) (by kernel_rfl) (fun _ _ _ h=>h) (Or.inl ⟨by rfl,?_⟩) (by assumption) ?_
 ·intro wq hSw;go_simp
 try simp only[Act.put,q1,q2,q3]
 refine wpAnyH_take (i:=25) (oi:=⟨some 30,Op.load 45 (.tmp 29),45,"l3_tree.go:271",#[⟨24,.data⟩],none⟩) (v:=.slice ya yn yc) rfl (by kernel_rfl) (by kernel_rfl) (by kernel_rfl) (fun _ _ _ h=>h) (Or.inl ⟨by rfl,?_⟩) (by assumption) ?_
 ·intro wq hSw;(try dsimp only at hSw);obtain⟨y0,y1,y2,y3,y4,y5⟩:=box6g hSw.1;go_simp
 try simp only[Act.put,q1,q2,q3]
 refine wpAnyH_take (i:=27) (oi:=⟨some 32,Op.fieldAddr 47 (.tmp 3) 5,0,"l3_tree.go:271",#[],none⟩) (v:=.pointer (some ⟨N+1,5,none⟩)) rfl (by kernel_rfl) (by kernel_rfl) (by kernel_rfl) (fun _ _ _ h=>h) (Or.inl ⟨by rfl,?_⟩) (by assumption) ?_
 ·intro wq hSw;go_simp
 try simp only[Act.put,q1,q2,q3]
 refine wpAnyH_take (i:=28) (oi:=⟨some 33,Op.load 45 (.tmp 32),45,"l3_tree.go:271",#[⟨27,.data⟩],none⟩) (v:=.slice yb ym yd) rfl (by kernel_rfl) (by kernel_rfl) (by kernel_rfl) (fun _ _ _ h=>h) (Or.inl ⟨by rfl,?_⟩) (by assumption) ?_
 ·intro wq hSw;(try dsimp only at hSw);obtain⟨y0,y1,y2,y3,y4,y5⟩:=box6g hSw.2;go_simp
 try simp only[Act.put,q1,q2,q3]
 refine wpAnyH_cast (ops':=glueOps) (l':=glueL 0 0 0 0) (fuel':=12+2) (by kernel_rfl) (by kernel_rfl) rfl ?_
 refine glue_walk (SZ:=36) (M:=N+3) (Wd:=W.drew) hMd (fun w' hf=>SS.out w' (hf.weak (fun g e=>by omega))) (by omega) (fun j=>if j=0 then .slice ka kn kc else if j=1 then .slice va vn vc else if j=2 then .slice oa on oc else .slice ya yn yc) (fun j=>if j=0 then .slice kb km kd else if j=1 then .slice vb vm vd else if j=2 then .slice ob om od else .slice yb ym yd) (fun j=>if j=0 then rowsOf strCells a.keys else if j=1 then rowsOf strCells a.vals else if j=2 then rowsOf intCells a.over else rowsC css yn) (fun j=>if j=0 then rowsOf strCells b.keys else if j=1 then rowsOf strCells b.vals else if j=2 then rowsOf intCells b.over else rowsC css2 ym) (fun j=>if j=0 then kn else if j=1 then vn else if j=2 then on else yn) (fun j=>if j=0 then km else if j=1 then vm else if j=2 then om else ym) [(4,.pointer (some ⟨N+2,0,none⟩)),(6,.bool lf),(9,.slice ka kn kc),(12,.slice kb km kd),(16,.slice va vn vc),(19,.slice vb vm vd),(23,.slice oa on oc),(26,.slice ob om od),(30,.slice ya yn yc),(33,.slice yb ym yd)] ?_ ?_ ?_ HSA.out HSB.out ?_ 12 0 0 0 0 _ _ (by omega) (by omega) (by omega) (by omega) rfl rfl ?_
 ·intro x hx j hj q h1 h2
  unfold gda
  simp only[List.mem_cons,List.not_mem_nil,or_false] at hx
  rcases hx with rfl | rfl | rfl | rfl | rfl | rfl | rfl | rfl | rfl | rfl<;>(dsimp only;omega)
 ·intro j hj
  have hj4:j=0∨j=1∨j=2∨j=3:=by omega
  rcases hj4 with rfl | rfl | rfl | rfl<;>simp
 ·intro j hj
  have hj4:j=0∨j=1∨j=2∨j=3:=by omega
  rcases hj4 with rfl | rfl | rfl | rfl<;>simp
 ·intro a1 w1 hJ
  have r0:w1.ownsRow (N+3) 9 1 (a1.eval (.tmp 13)) (kn+km) (rowsOf strCells a.keys++rowsOf strCells b.keys):=hJ.cur 0 (by omega) (by omega)
  have r1:w1.ownsRow (N+3) 9 1 (a1.eval (.tmp 20)) (vn+vm) (rowsOf strCells a.vals++rowsOf strCells b.vals):=hJ.cur 1 (by omega) (by omega)
  have r2:w1.ownsRow (N+3) 2 1 (a1.eval (.tmp 27)) (on+om) (rowsOf intCells a.over++rowsOf intCells b.over):=hJ.cur 2 (by omega) (by omega)
  have r3:w1.ownsRow (N+3) 47 6 (a1.eval (.tmp 34)) (yn+ym) (rowsC css yn++rowsC css2 ym):=hJ.cur 3 (by omega) (by omega)
  obtain⟨x0,y0,x1,y1,x2,y2,x3,y3,e0,e1,e2,e3,hSN,hBel,hbx,k2'⟩:=HFIN.out w1 _ _ _ _ hJ.fr r0 r1 r2 r3
  rw[e0,e1,e2,e3] at hSN hBel hbx
  have e4:a1.eval (.tmp 4)=.pointer (some ⟨N+2,0,none⟩):=hJ.kp (4,.pointer (some ⟨N+2,0,none⟩)) (by simp)
  have e6:a1.eval (.tmp 6)=.bool lf:=hJ.kp (6,.bool lf) (by simp)
  have hsz:=hJ.sz
  have hdf:=hJ.df
  have hSw1:=SS.out w1 (hJ.fr.weak (fun g e=>by omega))
  obtain⟨z0,z1,z2,z3,z4,z5⟩:=box6g k2'
  have fz:=thawT k2'
  have lz:=(Array.getElem?_eq_some_iff.1 k2').1
  have hp:=put6T_fr w1 (N+2) (.bool lf) (.int .i64 0) (.slice x0 (kn+km) y0) (.slice x1 (vn+vm) y1) (.slice x2 (on+om) y2) (.slice x3 (yn+ym) y3)
  have HF9:Hid _:=hSN
  have HB9:Hid _:=hBel
  clear hJ r0 r1 r2 r3 HFIN HSA HSB hSN hBel
  obtain⟨t0,t1,t2,t3,t4,t5,t6,t7,t8,t9,t10,t11,t12,t13,t14,t15,t16,t17,t18,t19,t20,t21,t22,t23,t24,t25,t26,t27,t28,t29,t30,t31,t32,t33,t34,t35,hA⟩:=arr36 a1.tmps hsz
  obtain⟨tm,df⟩:=a1
  dsimp only at hA hdf hsz
  subst hA hdf
  have g4:t4=_:=e4
  have g6:t6=_:=e6
  have g13:t13=_:=e0
  have g20:t20=_:=e1
  have g27:t27=_:=e2
  have g34:t34=_:=e3
  clear e4 e6 e0 e1 e2 e3 hsz
  subst g4 g6 g13 g20 g27 g34
  refine wpAnyH_take (i:=30) (oi:=⟨some 35,Op.build 47 #[(0,Operand.tmp 6),(2,Operand.tmp 13),(3,Operand.tmp 20),(4,Operand.tmp 27),(5,Operand.tmp 34)],47,"l3_tree.go:271",#[⟨1,.data⟩,⟨8,.data⟩,⟨15,.data⟩,⟨22,.data⟩,⟨29,.data⟩],none⟩) (v:=.agg #[.bool lf,.int .i64 0,.slice x0 (kn+km) y0,.slice x1 (vn+vm) y1,.slice x2 (on+om) y2,.slice x3 (yn+ym) y3]) rfl (by kernel_rfl) (by kernel_rfl) (by kernel_rfl) (fun _ _ _ h=>h) (Or.inl ⟨by rfl,?_⟩) hSw1 ?_
  ·intro wq hSw;go_simp
  try simp only[Act.put,q1,q2,q3]
  refine wpAnyH_ready (rs:=[31]) (by kernel_rfl) (by simp) ?_
  refine AllReadyH.cons (o:=⟨none,Op.store 47 (.tmp 4) (.tmp 35),0,"l3_tree.go:271",#[⟨30,.data⟩,⟨29,.chain⟩,⟨0,.phase⟩,⟨1,.phase⟩,⟨2,.phase⟩,⟨3,.phase⟩,⟨4,.phase⟩,⟨5,.phase⟩,⟨6,.phase⟩,⟨7,.phase⟩,⟨8,.phase⟩,⟨9,.phase⟩,⟨10,.phase⟩,⟨11,.phase⟩,⟨12,.phase⟩,⟨13,.phase⟩,⟨14,.phase⟩,⟨15,.phase⟩,⟨16,.phase⟩,⟨17,.phase⟩,⟨18,.phase⟩,⟨19,.phase⟩,⟨20,.phase⟩,⟨21,.phase⟩,⟨22,.phase⟩,⟨23,.phase⟩,⟨24,.phase⟩,⟨25,.phase⟩,⟨26,.phase⟩,⟨27,.phase⟩,⟨28,.phase⟩,⟨29,.phase⟩,⟨30,.phase⟩],none⟩) rfl (fun K hK=>?_) AllReadyH.nil
  go_simp
  clear z0 z1 z2 z3 z4 z5 fz
  refine hK.out _ _ (⟨(hp.block N (by omega) (by omega)).trans hSw1.1,(hp.block (N+1) (by omega) (by omega)).trans hSw1.2⟩) (fun hHeld=>?_)
  clear hK K
  try simp only[Act.put,q1,q2,q3]
  refine wpAnyH_done (by kernel_rfl) ?_ _
  refine NoPanic.normal ?_
  obtain⟨z0,z1,z2,z3,z4,z5⟩:=box6g hbx
  clear hHeld hSw1 hp
  go_wp2_with fail
  show bodyPost _ _ _ _ _ (put6T w1 (N+2) (.bool lf) (.int .i64 0) (.slice x0 (kn+km) y0) (.slice x1 (vn+vm) y1) (.slice x2 (on+om) y2) (.slice x3 (yn+ym) y3))
  refine bodyPost_ret (v:=.agg #[.bool lf,.int .i64 0,.slice x0 (kn+km) y0,.slice x1 (vn+vm) y1,.slice x2 (on+om) y2,.slice x3 (yn+ym) y3]) (by simp[results,Tryz.results32,go_sem,z0,z1,z2,z3,z4,z5]) rfl ?_
  exact⟨_,rfl,HF9.out,HB9.out⟩
 ·refine⟨rfl,rfl,fun x hx=>?_,fun j hj h0=>?_,fun i j hi hj hne h0=>?_,Fr.refl _ _⟩
  ·simp only[List.mem_cons,List.not_mem_nil,or_false] at hx
   rcases hx with rfl | rfl | rfl | rfl | rfl | rfl | rfl | rfl | rfl | rfl<;>rfl
  ·have hj4:j=0∨j=1∨j=2∨j=3:=by omega
   rcases hj4 with rfl | rfl | rfl | rfl<;>exact absurd h0 (by decide)
  ·have hj4:i=0∨i=1∨i=2∨i=3:=by omega
   rcases hj4 with rfl | rfl | rfl | rfl<;>exact absurd h0 (by decide)
end Go.Proofs.YtbfggcekifaldaaGreat
