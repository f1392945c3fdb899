import Derived.Test.YtkhglgalbifcnaaGreatGAQ
import Derived.Test.YtkhglgalbifcnaaGreatGAZ
namespace Go.Proofs.YtkhglgalbifcnaaGreat
open Go.RowKit
set_option linter.unusedVariables false
set_option linter.unusedSimpArgs false
set_option maxRecDepth 100000
def gE (j:Nat):TypeId:=if j<2 then 9 else if j=2 then 2 else 49
def gS (j:Nat):Nat:=if j<3 then 1 else 6
structure JG (SZ:Nat) (Wd:World) (M:Nat) (da:Nat->Nat->Nat) (con:Nat->Nat->List Value) (len:Nat->Nat->Nat) (keep:List (Nat × Value)) (p:Nat->Nat) (a:Act) (w:World):Prop where
 sz:a.tmps.size=SZ
 df:a.defers=[]
 kp:∀ x ∈ keep,a.eval (.tmp x.1)=x.2
 cur:∀ j,j<4->0<p j->w.ownsRow M (gE j) (gS j) (a.eval (.tmp (da j (p j)))) (len j (p j)) (con j (p j))
 apart:∀ i j,i<4->j<4->i≠j->0<p i->0<p j->∀ g,(a.eval (.tmp (da i (p i)))).ownBlock=some g->(a.eval (.tmp (da j (p j)))).ownBlock≠some g
 fr:Fr (fun g=>M<=g) Wd w
def upP (p:Nat->Nat) (j q:Nat):Nat->Nat:=fun i=>if i=j then q else p i
theorem emptyE (w:World) (e size M:Nat) (h:M<=w.heap.size):(w.alloc (.cells #[] e)).ownsRow M e size (.slice (some ⟨w.heap.size,0,none⟩) 0 0) 0 []:=by
 have:=World.ownsRow_made w #[] (base:=w.heap.size) (e:=e) (size:=size) 0 (by simp) (by unfold maxLen;omega) (by simp)
 have h2:(w.alloc (.cells #[] e)).ownsRow w.heap.size e size (.slice (some ⟨w.heap.size,0,none⟩) 0 0) 0 []:=by simpa using this
 exact own_lowerT h2 h
theorem run_append_noneS {P:Program} {w:World} (base:Nat) (t ty e:TypeId) (i:TypeInfo) (size c:Nat) (ht:P.underlying t=some (.slice e)) (hi:P.info? e=some i) (v:Value) (n:Nat) (xs:List Value) (hown:w.ownsRow base e size v n xs):(Builtin.append_ #[t,t] ty #[v,.slice none 0 c]).run P w=.ok v w:=by
 rcases hown.2 with ⟨rfl,rfl⟩ | ⟨g,cap,cur,rfl,_,_,hnc,_⟩
 ·simp[Builtin.append_,run_underlying ht,sizeOf,typeInfo,hi,Builtin.lenOf,Builtin.firstCells]
 ·simp[Builtin.append_,run_underlying ht,sizeOf,typeInfo,hi,Builtin.lenOf,Builtin.firstCells,hnc,storeCells]
def SrcAt (w:World) (B size m:Nat) (v:Value) (xs:List Value):Prop:=xs.length=m*size∧m<=1048576∧(∀ u ∈ xs,u.oneCell'=true)∧∃ ad c,v=.slice ad m c∧(ad=none->m=0)∧(0<xs.length->∃ b off,ad=some ⟨b,off,none⟩)∧∀ x,ad=some x->∀ j u,xs[j]?=some u->(x.add j).block<B∧w.cell? (x.add j)=some u
theorem step_append_S {P:Program} {ops:Array Oper} {o:Oper} {a:Act} {w:World} {K:Act->World->Prop} {Q:Exit->Act->World->Prop} {E:Prop}
  (hgd:o.guard=none) (s x:Operand) (t:TypeId) (ho:o.op=.call { callee:=.builtin .append,args:=#[s,x],argTypes:=#[t,t] })
  (base:Nat) (e:TypeId) (i:TypeInfo) (z:Value) (size bytes:Nat) (ht:P.underlying t=some (.slice e)) (hi:P.info? e=some i) (hz:i.zero=some z)
  (hsize:i.size=size) (hby:i.bytes=bytes) (hzs:z.cells.size=size) (hsz:0<size) (hbb:bytes<=1000)
  (v:Value) (n:Nat) (xs:List Value) (hs:a.eval s=v) (hown:w.ownsRow base e size v n xs) (hn:n<=1048576)
  (u:Value) (B m:Nat) (news:List Value) (hx:a.eval x=u) (hsrc:SrcAt w B size m u news) (hbase:base<=w.heap.size)
  (h:∀ v' w',w'.ownsRow base e size v' (n+m) (xs++news)->w.grownBy w' v.ownBlock->(v'.ownBlock=v.ownBlock∨∀ g,v'.ownBlock=some g->w.heap.size<=g)->K (a.put o.dst v') w') :
  if Region.wanted o (yielded ops a.tmps)=true then Oper.wp P o a w K Q else E:=by
 obtain⟨h1,h2,h3,ad,c,rfl,h4,h6,h5⟩:=hsrc
 have hbt:(n+m)*bytes<=140737488355328:=Nat.le_trans (Nat.mul_le_mul_left _ hbb) (by omega)
 cases ad with
 | some y=>exact step_append_G hgd s x t ho base e i z size bytes ht hi hz hsize hby hzs hsz v n xs hs hown y m c news hx h1 (fun j u hj=>(h5 y rfl j u hj).2) h3 (by unfold maxLen;omega) hbt hbase h
 | none =>
  have hm:=h4 rfl
  subst hm
  obtain rfl:news=[]:=List.length_eq_zero_iff.1 (by rw[h1];simp)
  rw[if_pos (by simp[Region.wanted,hgd])]
  have hr:=run_append_noneS (P:=P) base t o.type e i size c ht hi v n xs hown
  unfold Oper.wp execOp
  simp only[ho,resolve,invoke,builtin,Sem.run_bind,Sem.run_pure,Result.andThen_ok,List.map_toArray,List.map_cons,List.map_nil,hs,hx,hr]
  exact h v w (by simpa using hown) ⟨rfl,rfl,rfl,Nat.le_refl _,fun _ _ _=>rfl⟩ (.inl rfl)
theorem wpList_append_S {P:Program} (w:World) {ops:Array Oper} {rest:List Oper} {o:Oper} {a:Act} {Q:Exit->Act->World->Prop} (hgd:o.guard=none) (s x:Operand) (t:TypeId)
  (ho:o.op=.call { callee:=.builtin .append,args:=#[s,x],argTypes:=#[t,t] })
  (base:Nat) (e:TypeId) (i:TypeInfo) (z:Value) (size bytes:Nat) (ht:P.underlying t=some (.slice e)) (hi:P.info? e=some i) (hz:i.zero=some z)
  (hsize:i.size=size) (hby:i.bytes=bytes) (hzs:z.cells.size=size) (hsz:0<size) (hbb:bytes<=1000)
  (v:Value) (n:Nat) (xs:List Value) (hs:a.eval s=v) (hown:w.ownsRow base e size v n xs) (hn:n<=1048576)
  (u:Value) (B m:Nat) (news:List Value) (hx:a.eval x=u) (hsrc:SrcAt w B size m u news) (hbase:base<=w.heap.size)
  (h:∀ v' w',w'.ownsRow base e size v' (n+m) (xs++news)->w.grownBy w' v.ownBlock->(v'.ownBlock=v.ownBlock∨∀ g,v'.ownBlock=some g->w.heap.size<=g)->wpList P ops Q rest (a.put o.dst v') w'):wpList P ops Q (o::rest) a w:=by
 refine wpList_plain hgd fun K hK=>?_
 have hst:=step_append_S (P:=P) (ops:=ops) (o:=o) (a:=a) (w:=w) (K:=K) (Q:=Q) (E:=True) hgd s x t ho base e i z size bytes ht hi hz hsize hby hzs hsz hbb v n xs hs hown hn u B m news hx hsrc hbase (fun v' w' g1 g2 g3=>hK _ _ (h v' w' g1 g2 g3))
 rw[if_pos (by simp[Region.wanted,hgd])] at hst
 exact hst
def glueOps:Array Oper:=#[
 ⟨some 5,Op.fieldAddr 49 (.tmp 2) 0,0,"l3_tree.go:271",#[],none⟩,
 ⟨some 6,Op.load 4 (.tmp 5),4,"l3_tree.go:271",#[⟨0,.data⟩],none⟩,
 ⟨some 7,Op.buildSlice 46 0 #[],46,"l3_tree.go:271",#[],none⟩,
 ⟨some 8,Op.fieldAddr 49 (.tmp 2) 2,0,"l3_tree.go:271",#[],none⟩,
 ⟨some 9,Op.load 46 (.tmp 8),46,"l3_tree.go:271",#[⟨3,.data⟩],none⟩,
 ⟨some 10,Op.call { callee:=Callee.builtin Builtin.append,args:=#[Operand.tmp 7,Operand.tmp 9],argTypes:=#[46,46] },46,"l3_tree.go:271",#[⟨2,.data⟩,⟨4,.data⟩],none⟩,
 ⟨some 11,Op.fieldAddr 49 (.tmp 3) 2,0,"l3_tree.go:271",#[],none⟩,
 ⟨some 12,Op.load 46 (.tmp 11),46,"l3_tree.go:271",#[⟨6,.data⟩],none⟩,
 ⟨some 13,Op.call { callee:=Callee.builtin Builtin.append,args:=#[Operand.tmp 10,Operand.tmp 12],argTypes:=#[46,46] },46,"l3_tree.go:271",#[⟨5,.data⟩,⟨7,.data⟩,⟨5,.chain⟩],none⟩,
 ⟨some 14,Op.buildSlice 46 0 #[],46,"l3_tree.go:271",#[],none⟩,
 ⟨some 15,Op.fieldAddr 49 (.tmp 2) 3,0,"l3_tree.go:271",#[],none⟩,
 ⟨some 16,Op.load 46 (.tmp 15),46,"l3_tree.go:271",#[⟨10,.data⟩],none⟩,
 ⟨some 17,Op.call { callee:=Callee.builtin Builtin.append,args:=#[Operand.tmp 14,Operand.tmp 16],argTypes:=#[46,46] },46,"l3_tree.go:271",#[⟨9,.data⟩,⟨11,.data⟩,⟨8,.chain⟩],none⟩,
 ⟨some 18,Op.fieldAddr 49 (.tmp 3) 3,0,"l3_tree.go:271",#[],none⟩,
 ⟨some 19,Op.load 46 (.tmp 18),46,"l3_tree.go:271",#[⟨13,.data⟩],none⟩,
 ⟨some 20,Op.call { callee:=Callee.builtin Builtin.append,args:=#[Operand.tmp 17,Operand.tmp 19],argTypes:=#[46,46] },46,"l3_tree.go:271",#[⟨12,.data⟩,⟨14,.data⟩,⟨12,.chain⟩],none⟩,
 ⟨some 21,Op.buildSlice 25 0 #[],25,"l3_tree.go:271",#[],none⟩,
 ⟨some 22,Op.fieldAddr 49 (.tmp 2) 4,0,"l3_tree.go:271",#[],none⟩,
 ⟨some 23,Op.load 25 (.tmp 22),25,"l3_tree.go:271",#[⟨17,.data⟩],none⟩,
 ⟨some 24,Op.call { callee:=Callee.builtin Builtin.append,args:=#[Operand.tmp 21,Operand.tmp 23],argTypes:=#[25,25] },25,"l3_tree.go:271",#[⟨16,.data⟩,⟨18,.data⟩,⟨15,.chain⟩],none⟩,
 ⟨some 25,Op.fieldAddr 49 (.tmp 3) 4,0,"l3_tree.go:271",#[],none⟩,
 ⟨some 26,Op.load 25 (.tmp 25),25,"l3_tree.go:271",#[⟨20,.data⟩],none⟩,
 ⟨some 27,Op.call { callee:=Callee.builtin Builtin.append,args:=#[Operand.tmp 24,Operand.tmp 26],argTypes:=#[25,25] },25,"l3_tree.go:271",#[⟨19,.data⟩,⟨21,.data⟩,⟨19,.chain⟩],none⟩,
 ⟨some 28,Op.buildSlice 47 0 #[],47,"l3_tree.go:271",#[],none⟩,
 ⟨some 29,Op.fieldAddr 49 (.tmp 2) 5,0,"l3_tree.go:271",#[],none⟩,
 ⟨some 30,Op.load 47 (.tmp 29),47,"l3_tree.go:271",#[⟨24,.data⟩],none⟩,
 ⟨some 31,Op.call { callee:=Callee.builtin Builtin.append,args:=#[Operand.tmp 28,Operand.tmp 30],argTypes:=#[47,47] },47,"l3_tree.go:271",#[⟨23,.data⟩,⟨25,.data⟩,⟨22,.chain⟩],none⟩,
 ⟨some 32,Op.fieldAddr 49 (.tmp 3) 5,0,"l3_tree.go:271",#[],none⟩,
 ⟨some 33,Op.load 47 (.tmp 32),47,"l3_tree.go:271",#[⟨27,.data⟩],none⟩,
 ⟨some 34,Op.call { callee:=Callee.builtin Builtin.append,args:=#[Operand.tmp 31,Operand.tmp 33],argTypes:=#[47,47] },47,"l3_tree.go:271",#[⟨26,.data⟩,⟨28,.data⟩,⟨26,.chain⟩],none⟩,
 ⟨some 35,Op.build 49 #[(0,Operand.tmp 6),(2,Operand.tmp 13),(3,Operand.tmp 20),(4,Operand.tmp 27),(5,Operand.tmp 34)],49,"l3_tree.go:271",#[⟨1,.data⟩,⟨8,.data⟩,⟨15,.data⟩,⟨22,.data⟩,⟨29,.data⟩],none⟩,
 ⟨none,Op.store 49 (.tmp 4) (.tmp 35),0,"l3_tree.go:271",#[⟨30,.data⟩,⟨29,.chain⟩,⟨0,.phase⟩,⟨1,.phase⟩,⟨2,.phase⟩,⟨3,.phase⟩,⟨4,.phase⟩,⟨5,.phase⟩,⟨6,.phase⟩,⟨7,.phase⟩,⟨8,.phase⟩,⟨9,.phase⟩,⟨10,.phase⟩,⟨11,.phase⟩,⟨12,.phase⟩,⟨13,.phase⟩,⟨14,.phase⟩,⟨15,.phase⟩,⟨16,.phase⟩,⟨17,.phase⟩,⟨18,.phase⟩,⟨19,.phase⟩,⟨20,.phase⟩,⟨21,.phase⟩,⟨22,.phase⟩,⟨23,.phase⟩,⟨24,.phase⟩,⟨25,.phase⟩,⟨26,.phase⟩,⟨27,.phase⟩,⟨28,.phase⟩,⟨29,.phase⟩,⟨30,.phase⟩],none⟩]
def glueL (p0 p1 p2 p3:Nat):Array Bool:=#[true,true,decide (1<=p0),true,true,decide (2<=p0),true,true,decide (3<=p0),decide (1<=p1),true,true,decide (2<=p1),true,true,decide (3<=p1),decide (1<=p2),true,true,decide (2<=p2),true,true,decide (3<=p2),decide (1<=p3),true,true,decide (2<=p3),true,true,decide (3<=p3),false,false]
def glueC (p0 p1 p2 p3:Nat):Bool:=(decide (p1<=1) || decide (p0=3)) && (decide (p2<=1) || decide (p1=3)) && (decide (p3<=1) || decide (p2=3))
def glueK (p0 p1 p2 p3 i:Nat):Bool:=(i == 2 && p0 == 0) || (i == 9 && p1 == 0) || (i == 16 && p2 == 0) || (i == 23 && p3 == 0) || (i == 5 && p0 == 1) || (i == 8 && p0 == 2) || (i == 12 && p1 == 1 && p0 == 3) || (i == 15 && p1 == 2) || (i == 19 && p2 == 1 && p1 == 3) || (i == 22 && p2 == 2) || (i == 26 && p3 == 1 && p2 == 3) || (i == 29 && p3 == 2)
def glueAll:Bool:=(List.range 4).all fun p0=>(List.range 4).all fun p1=>(List.range 4).all fun p2=>(List.range 4).all fun p3=>!(glueC p0 p1 p2 p3) || (p0 == 3 && p1 == 3 && p2 == 3 && p3 == 3) || (!((Region.ready .any glueOps (glueL p0 p1 p2 p3)).isEmpty) && (Region.ready .any glueOps (glueL p0 p1 p2 p3)).all (fun i=>glueK p0 p1 p2 p3 i))
def gda (j q:Nat):Nat:=4+3*q+7*j
def gcon (xA xB:Nat->List Value) (j q:Nat):List Value:=if q=1 then [] else if q=2 then xA j else xA j++xB j
def glen (nA nB:Nat->Nat) (j q:Nat):Nat:=if q=1 then 0 else if q=2 then nA j else nA j+nB j
def p4 (p0 p1 p2 p3:Nat):Nat->Nat:=fun j=>if j=0 then p0 else if j=1 then p1 else if j=2 then p2 else p3
def QA (Q:Nat->Prop) (a:Option Addr) (n:Nat):Prop:=0<n->∃ b off,a=some ⟨b,off,none⟩∧Q b
theorem QA.mono {Q Q':Nat->Prop} {a:Option Addr} {n:Nat} (h:QA Q a n) (hq:∀ b,Q b->Q' b):QA Q' a n:=fun h0=>by
 obtain⟨b,off,e,hb⟩:=h h0
 exact⟨b,off,e,hq b hb⟩
theorem rows_keepQ {α:Type} {w w':World} {B B' m:Nat} {Q:Nat->Prop} {cs:α->List Value} {fit:α->Prop} {d:α} {a:Option Addr} {n c:Nat} {xs:List α} (h:RowsAt w 0 B m cs fit d a n c xs) (hq:QA Q a n) (hk:∀ b,Q b->b<B->w'.heap[b]?=w.heap[b]?) (hB:B<=B'):RowsAt w' 0 B' m cs fit d a n c xs:=by
 obtain⟨h1,h2,h3,h4,h5⟩:=h
 refine⟨h1,h2,h3,h4,fun hn=>?_⟩
 obtain⟨b,off,rfl,hlt,hc⟩:=h5 hn
 obtain⟨b2,off2,e,hb2⟩:=hq hn
 cases e
 exact⟨b,off,rfl,⟨Nat.zero_le _,Nat.lt_of_lt_of_le hlt.2 hB⟩,fun i hi j hj=>(World.cell?_of_block (w:=w) (a:=⟨b,off+i*m+j,none⟩) (hk b hb2 hlt.2)).trans (hc i hi j hj)⟩
def NodeQ (w:World) (B:Nat) (Q:Nat->Prop):T->List Value->Prop
 | ⟨l,p,k,v,o,y⟩,cs=>∃ (ka:Option Addr) (kn kc:Nat) (va:Option Addr) (vn vc:Nat) (oa:Option Addr) (on oc:Nat) (ya:Option Addr) (yc:Nat) (css:Nat->List Value),cs=[.bool l,.int .i64 p,.slice ka kn kc,.slice va vn vc,.slice oa on oc,.slice ya y.length yc]∧NodeX w 0 B (fun b=>b<B) ⟨l,p,k,v,o,y⟩ ka kn kc va vn vc oa on oc ya yc css∧QA Q ka kn∧QA Q va vn∧QA Q oa on∧QA Q ya y.length∧∀ i,∀ t ∈ y,y[i]?=some t->NodeQ w B Q t (css i)
structure QX (w:World) (B:Nat) (Q:Nat->Prop) (t:T) (ka:Option Addr) (kn kc:Nat) (va:Option Addr) (vn vc:Nat) (oa:Option Addr) (on oc:Nat) (ya:Option Addr) (yc:Nat) (css:Nat->List Value):Prop where
 nx:NodeX w 0 B (fun b=>b<B) t ka kn kc va vn vc oa on oc ya yc css
 qk:QA Q ka kn
 qv:QA Q va vn
 qo:QA Q oa on
 qy:QA Q ya t.kids.length
 kq:∀ i,∀ k ∈ t.kids,t.kids[i]?=some k->NodeQ w B Q k (css i)
theorem NodeQ.out {w:World} {B:Nat} {Q:Nat->Prop} {t:T} {cs:List Value} (h:NodeQ w B Q t cs):∃ ka kn kc va vn vc oa on oc ya yc css,cs=[.bool t.leaf,.int .i64 t.page,.slice ka kn kc,.slice va vn vc,.slice oa on oc,.slice ya t.kids.length yc]∧QX w B Q t ka kn kc va vn vc oa on oc ya yc css:=by
 obtain⟨l,p,k,v,o,y⟩:=t
 rw[NodeQ.eq_def] at h
 obtain⟨ka,kn,kc,va,vn,vc,oa,on,oc,ya,yc,css,e,h1,h2,h3,h4,h5,h6⟩:=h
 exact⟨ka,kn,kc,va,vn,vc,oa,on,oc,ya,yc,css,e,h1,h2,h3,h4,h5,h6⟩
theorem QX.mk' {w:World} {B:Nat} {Q:Nat->Prop} {t:T} {ka:Option Addr} {kn kc:Nat} {va:Option Addr} {vn vc:Nat} {oa:Option Addr} {on oc:Nat} {ya:Option Addr} {yc:Nat} {css:Nat->List Value} (h:QX w B Q t ka kn kc va vn vc oa on oc ya yc css):NodeQ w B Q t [.bool t.leaf,.int .i64 t.page,.slice ka kn kc,.slice va vn vc,.slice oa on oc,.slice ya t.kids.length yc]:=by
 obtain⟨l,p,k,v,o,y⟩:=t
 rw[NodeQ.eq_def]
 exact⟨ka,kn,kc,va,vn,vc,oa,on,oc,ya,yc,css,rfl,h.nx,h.qk,h.qv,h.qo,h.qy,h.kq⟩
theorem NodeQ.is {w:World} {B:Nat} {Q:Nat->Prop} {t:T} {cs:List Value} (h:NodeQ w B Q t cs):NodeC w B t cs:=by
 obtain⟨ka,kn,kc,va,vn,vc,oa,on,oc,ya,yc,css,rfl,hX⟩:=h.out
 exact hX.nx.mk'
theorem strs_qa {α:Type} {w:World} {B m:Nat} {cs:α->List Value} {fit:α->Prop} {d:α} {a:Option Addr} {n c:Nat} {xs:List α} (h:RowsAt w 0 B m cs fit d a n c xs):QA (fun b=>b<B) a n:=fun h0=>by
 obtain⟨b,off,e,hb,_⟩:=h.2.2.2.2 h0
 exact⟨b,off,e,hb.2⟩
theorem NodeC.q {w:World} {B:Nat}:∀ (t:T) (cs:List Value),NodeC w B t cs->NodeQ w B (fun b=>b<B) t cs:=by
 intro t
 induction t using T.ind with
 | h t ih =>
  intro cs h
  obtain⟨ka,kn,kc,va,vn,vc,oa,on,oc,ya,yc,css,rfl,hX⟩:=h.out
  exact QX.mk' (css:=css) ⟨hX,strs_qa hX.keys,strs_qa hX.vals,strs_qa hX.over,(fun h0=>by
   obtain⟨b,off,e,hb,_⟩:=hX.cell h0
   exact⟨b,off,e,hb⟩),fun i k hm hi=>ih k hm _ (hX.kid i k hm hi)⟩
theorem NodeX.q {w:World} {B:Nat} {t:T} {ka:Option Addr} {kn kc:Nat} {va:Option Addr} {vn vc:Nat} {oa:Option Addr} {on oc:Nat} {ya:Option Addr} {yc:Nat} {css:Nat->List Value} (hX:NodeX w 0 B (fun b=>b<B) t ka kn kc va vn vc oa on oc ya yc css):QX w B (fun b=>b<B) t ka kn kc va vn vc oa on oc ya yc css :=
 ⟨hX,strs_qa hX.keys,strs_qa hX.vals,strs_qa hX.over,(fun h0=>by
   obtain⟨b,off,e,hb,_⟩:=hX.cell h0
   exact⟨b,off,e,hb⟩),fun i k hm hi=>NodeC.q k _ (hX.kid i k hm hi)⟩
theorem NodeQ.keep {w w':World} {B B':Nat} {Q Q':Nat->Prop} (hk:∀ b,Q b->b<B->w'.heap[b]?=w.heap[b]?) (hQ:∀ b,Q b->Q' b) (hB:B<=B'):∀ t cs,NodeQ w B Q t cs->NodeQ w' B' Q' t cs:=by
 intro t
 induction t using T.ind with
 | h t ih =>
  intro cs h
  obtain⟨ka,kn,kc,va,vn,vc,oa,on,oc,ya,yc,css,rfl,hX⟩:=h.out
  have hkid:∀ i,∀ k ∈ t.kids,t.kids[i]?=some k->NodeQ w' B' Q' k (css i):=fun i k hm hi=>ih k hm _ (hX.kq i k hm hi)
  refine QX.mk' (css:=css) ⟨⟨hX.nx.page,rows_keepQ hX.nx.keys hX.qk hk hB,rows_keepQ hX.nx.vals hX.qv hk hB,rows_keepQ hX.nx.over hX.qo hk hB,hX.nx.cap,fun hn=>?_,fun i k hm hi=>(hkid i k hm hi).is⟩,hX.qk.mono hQ,hX.qv.mono hQ,hX.qo.mono hQ,hX.qy.mono hQ,hkid⟩
  obtain⟨b,off,e,hb,hc⟩:=hX.nx.cell hn
  obtain⟨b2,off2,e2,hb2⟩:=hX.qy hn
  rw[e] at e2
  cases e2
  exact⟨b,off,e,Nat.lt_of_lt_of_le hb hB,fun i hi j hj=>(World.cell?_of_block (w:=w) (a:=⟨b,off+i*6+j,none⟩) (hk b hb2 hb)).trans (hc i hi j hj)⟩
theorem QX.keep {w w':World} {B B':Nat} {Q Q':Nat->Prop} {t:T} {ka:Option Addr} {kn kc:Nat} {va:Option Addr} {vn vc:Nat} {oa:Option Addr} {on oc:Nat} {ya:Option Addr} {yc:Nat} {css:Nat->List Value} (hX:QX w B Q t ka kn kc va vn vc oa on oc ya yc css) (hk:∀ b,Q b->b<B->w'.heap[b]?=w.heap[b]?) (hQ:∀ b,Q b->Q' b) (hB:B<=B'):QX w' B' Q' t ka kn kc va vn vc oa on oc ya yc css:=by
 have hkid:∀ i,∀ k ∈ t.kids,t.kids[i]?=some k->NodeQ w' B' Q' k (css i):=fun i k hm hi=>NodeQ.keep hk hQ hB k _ (hX.kq i k hm hi)
 refine⟨⟨hX.nx.page,rows_keepQ hX.nx.keys hX.qk hk hB,rows_keepQ hX.nx.vals hX.qv hk hB,rows_keepQ hX.nx.over hX.qo hk hB,hX.nx.cap,fun hn=>?_,fun i k hm hi=>(hkid i k hm hi).is⟩,hX.qk.mono hQ,hX.qv.mono hQ,hX.qo.mono hQ,hX.qy.mono hQ,hkid⟩
 obtain⟨b,off,e,hb,hc⟩:=hX.nx.cell hn
 obtain⟨b2,off2,e2,hb2⟩:=hX.qy hn
 rw[e] at e2
 cases e2
 exact⟨b,off,e,Nat.lt_of_lt_of_le hb hB,fun i hi j hj=>(World.cell?_of_block (w:=w) (a:=⟨b,off+i*6+j,none⟩) (hk b hb2 hb)).trans (hc i hi j hj)⟩
def SN (w:World) (Q:Nat->Prop) (t:T) (v:Value):Prop:=∃ ka kn kc va vn vc oa on oc ya yc css,v=.agg #[.bool t.leaf,.int .i64 t.page,.slice ka kn kc,.slice va vn vc,.slice oa on oc,.slice ya t.kids.length yc]∧QX w w.heap.size Q t ka kn kc va vn vc oa on oc ya yc css
theorem SN.keep {w w':World} {Q Q':Nat->Prop} {t:T} {v:Value} (h:SN w Q t v) (hk:∀ b,Q b->b<w.heap.size->w'.heap[b]?=w.heap[b]?) (hQ:∀ b,Q b->Q' b) (hB:w.heap.size<=w'.heap.size):SN w' Q' t v:=by
 obtain⟨ka,kn,kc,va,vn,vc,oa,on,oc,ya,yc,css,e,hX⟩:=h
 exact⟨ka,kn,kc,va,vn,vc,oa,on,oc,ya,yc,css,e,hX.keep hk hQ hB⟩
theorem SN.below {w w':World} {Q:Nat->Prop} {t:T} {v:Value} (h:SN w Q t v) (hb:Below w.heap.size w w'):SN w' Q t v:=h.keep (fun b _ hlt=>hb.block b hlt) (fun _ h=>h) hb.size
theorem srcRows {α:Type} {w:World} {A B:Nat} {cs:α->List Value} {fit:α->Prop} {d:α} {a:Option Addr} {n c:Nat} {xs:List α} (hc1:∀ x,(cs x).length=1) (h1:∀ u ∈ rowsOf cs xs,u.oneCell'=true) (h:RowsAt w A B 1 cs fit d a n c xs) (hn:n<=1048576):SrcAt w B 1 n (.slice a n c) (rowsOf cs xs):=by
 obtain⟨g1,g2,g3,g4,g5⟩:=h
 have hl:(rowsOf cs xs).length=n:=by rw[rowsOf_length hc1];omega
 refine⟨by omega,hn,h1,a,c,rfl,fun e=>?_,fun h0=>?_,fun x hx j u hj=>?_⟩
 ·rcases Nat.eq_zero_or_pos n with h | h
  ·exact h
  ·obtain⟨b,off,e2,_⟩:=g5 h
   rw[e] at e2;cases e2
 ·obtain⟨b,off,e2,_⟩:=g5 (by omega)
  exact⟨b,off,e2⟩
 ·have hj2:=(List.getElem?_eq_some_iff.1 hj).1
  rw[hl] at hj2
  obtain⟨b,off,e2,hb,hc⟩:=g5 (by omega)
  rw[hx] at e2
  simp only[Option.some.injEq] at e2
  subst e2
  rw[addr_add]
  refine⟨hb.2,?_⟩
  have h9:=hc j hj2 0 (by omega)
  have h8:=rowsOf_get hc1 d xs j 0 (by omega) (by omega)
  simp only[Nat.mul_one,Nat.add_zero] at h9 h8
  rw[h9,<-h8,hj]
def KidCells (t:T) (css:Nat->List Value):Prop:=∀ i,i<t.kids.length->(css i).length=6∧∀ u ∈ css i,u.oneCell'=true
theorem rowsAt_own {α:Type} {w:World} {base e n:Nat} {cs:α->List Value} {fit:α->Prop} {d:α} {v:Value} {xs:List α} (hc1:∀ x,(cs x).length=1) (h:w.ownsRow base e 1 v n (rowsOf cs xs)) (hfit:∀ x ∈ xs,fit x):∃ a c,v=.slice a n c∧RowsAt w 0 w.heap.size 1 cs fit d a n c xs:=by
 have hn:xs.length=n:=by have:=h.1;rw[rowsOf_length hc1] at this;omega
 have hf2:∀ i,i<n->fit (xs.getD i d):=fun i hi=>by
  have:xs.getD i d=xs[i]'(by omega):=by simp[List.getD,show i<xs.length by omega]
  rw[this];exact hfit _ (List.getElem_mem _)
 rcases h.2 with ⟨e1,e2⟩ | ⟨g,cap,cur,e1,hg1,hg2,h1,h2,_⟩
 ·subst e2
  exact⟨none,0,e1,hn,Nat.le_refl _,by unfold maxLen;omega,hf2,fun h0=>absurd h0 (by omega)⟩
 ·have hlt:=h.lt g (by rw[e1];rfl)
  refine⟨_,cap,e1,hn,h1,h2,hf2,fun h0=>⟨g,0,rfl,⟨Nat.zero_le _,hlt.2⟩,fun i hi j hj=>?_⟩⟩
  subst e1
  obtain rfl:j=0:=by omega
  rw[Nat.zero_add,h.cellAt (i*1+0) (by omega)]
  exact rowsOf_get hc1 d xs i 0 (by omega) (by omega)
theorem rowsAt_fits {α:Type} {w:World} {A B:Nat} {cs:α->List Value} {fit:α->Prop} {d:α} {a:Option Addr} {n c:Nat} {xs:List α} (h:RowsAt w A B 1 cs fit d a n c xs):∀ x ∈ xs,fit x:=fun x hx=>by
 obtain⟨i,hi,rfl⟩:=List.mem_iff_getElem.1 hx
 have:=h.2.2.2.1 i (by have:=h.1;omega)
 have e:xs.getD i d=xs[i]:=by simp[List.getD,hi]
 rwa [e] at this
theorem kids_own {w:World} {base n:Nat} {v:Value} {css:Nat->List Value} (h6:∀ i,i<n->(css i).length=6) (h:w.ownsRow base 49 6 v n (rowsC css n)):∃ a c,v=.slice a n c∧n<=c∧c<=maxLen∧(a=none->n=0)∧(0<n->∃ b off,a=some ⟨b,off,none⟩∧b<w.heap.size∧∀ i,i<n->∀ j,j<6->w.cell? ⟨b,off+i*6+j,none⟩=(css i)[j]?):=by
 have hrc:=rowsC_get (css:=css) (m:=n) h6
 rcases h.2 with ⟨e1,e2⟩ | ⟨g,cap,cur,e1,hg1,hg2,h1,h2,_⟩
 ·subst e2
  exact⟨none,0,e1,Nat.le_refl _,by unfold maxLen;omega,fun _=>rfl,fun h0=>absurd h0 (by omega)⟩
 ·have hlt:=h.lt g (by rw[e1];rfl)
  refine⟨_,cap,e1,h1,h2,(fun e=>by cases e),fun h0=>⟨g,0,rfl,hlt.2,fun i hi j hj=>?_⟩⟩
  subst e1
  rw[Nat.zero_add,h.cellAt (i*6+j) (by omega)]
  exact hrc.2 i j hi hj
def glueT (a b:T):T:=⟨a.leaf,0,a.keys++b.keys,a.vals++b.vals,a.over++b.over,a.kids++b.kids⟩
end Go.Proofs.YtkhglgalbifcnaaGreat
