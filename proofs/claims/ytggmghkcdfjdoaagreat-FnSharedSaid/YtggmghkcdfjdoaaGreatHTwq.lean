import Derived.Test.YtggmghkcdfjdoaaGreatHTks
import Derived.Test.YtggmghkcdfjdoaaGreatHTvc
namespace Go.Proofs.YtggmghkcdfjdoaaGreat
open Go.RowKit Tryz
set_option linter.unusedVariables false
set_option linter.unusedSimpArgs false
set_option maxRecDepth 100000
variable {A B B' base c kc kn m n oc on vc vn yc:Nat} {Q Q':Nat->Prop} {a ka oa va ya:Option Addr} {cs:List Value} {css:Nat->List Value} {t:T} {v:Value} {w w':World}
def QA (Q:Nat->Prop) (a:Option Addr) (n:Nat):Prop:=0<n->∃ b off,a=some ⟨b,off,none⟩∧Q b
theorem QA.mono (h:QA Q a n) (c:∀ b,Q b->Q' b):QA Q' a n:=fun d=>by
 obtain⟨b,e,f,g⟩:=h d
 exact⟨b,e,f,c b g⟩
theorem dy {e:Type} {cs:e->List Value} {fit:e->Prop} {d:e} {f:List e} (h:aR w 0 B m cs fit d a n c f) (o:QA Q a n) (p:∀ b,Q b->b<B->w'.heap[b]?=w.heap[b]?) (q:B<=B'):aR w' 0 B' m cs fit d a n c f:=by
 obtain⟨r,s,t,u,v⟩:=h;refine⟨r,s,t,u,fun g=>?_⟩;obtain⟨b,i,rfl,j,x⟩:=v g;obtain⟨D,E,y,z⟩:=o g;cases y;exact⟨b,i,rfl,⟨En _,Er j.2 q⟩,fun k A l C=>(Ep (w:=w) (a:=⟨b,i+k*m+l,none⟩) (p b z j.2)).trans (x k A l C)⟩
def aL (w:World) (B:Nat) (Q:Nat->Prop):T->List Value->Prop
 | ⟨l,p,k,v,o,y⟩,cs=>∃ (ka:Option Addr) (kn kc:Nat) (va:Option Addr) (vn vc:Nat) (oa:Option Addr) (on oc:Nat) (ya:Option Addr) (yc:Nat) (css:Nat->List Value),cs=[.bool l,.int .i64 p,.slice ka kn kc,.slice va vn vc,.slice oa on oc,.slice ya y.length yc]∧bz w 0 B (fun b=>b<B) ⟨l,p,k,v,o,y⟩ ka kn kc va vn vc oa on oc ya yc css∧QA Q ka kn∧QA Q va vn∧QA Q oa on∧QA Q ya y.length∧∀ i,∀ t ∈ y,y[i]?=some t->aL w B Q t (css i)
structure QX (w:World) (B:Nat) (Q:Nat->Prop) (t:T) (ka:Option Addr) (kn kc:Nat) (va:Option Addr) (vn vc:Nat) (oa:Option Addr) (on oc:Nat) (ya:Option Addr) (yc:Nat) (css:Nat->List Value):Prop where
 nx:bz w 0 B (fun b=>b<B) t ka kn kc va vn vc oa on oc ya yc css
 qk:QA Q ka kn
 qv:QA Q va vn
 qo:QA Q oa on
 qy:QA Q ya t.kids.length
 kq:∀ i,∀ k ∈ t.kids,t.kids[i]?=some k->aL w B Q k (css i)
theorem aL.out (h:aL w B Q t cs):∃ ka kn kc va vn vc oa on oc ya yc css,cs=[.bool t.leaf,.int .i64 t.page,.slice ka kn kc,.slice va vn vc,.slice oa on oc,.slice ya t.kids.length yc]∧QX w B Q t ka kn kc va vn vc oa on oc ya yc css:=by
 obtain⟨i,j,k,v,l,m⟩:=t;rw[aL.eq_def] at h;obtain⟨ka,kn,kc,va,vn,vc,oa,on,oc,ya,yc,css,a,b,c,d,e,f,g⟩:=h;exact⟨ka,kn,kc,va,vn,vc,oa,on,oc,ya,yc,css,a,b,c,d,e,f,g⟩
theorem QX.mk' (h:QX w B Q t ka kn kc va vn vc oa on oc ya yc css):aL w B Q t [.bool t.leaf,.int .i64 t.page,.slice ka kn kc,.slice va vn vc,.slice oa on oc,.slice ya t.kids.length yc]:=by
 obtain⟨a,b,c,v,d,e⟩:=t;rw[aL.eq_def];exact⟨ka,kn,kc,va,vn,vc,oa,on,oc,ya,yc,css,rfl,h.nx,h.qk,h.qv,h.qo,h.qy,h.kq⟩
theorem aL.is (h:aL w B Q t cs):lu w B t cs:=by
 obtain⟨ka,kn,kc,va,vn,vc,oa,on,oc,ya,yc,css,rfl,a⟩:=h.out;exact a.nx.mk'
theorem jm {b:Type} {cs:b->List Value} {fit:b->Prop} {d:b} {f:List b} (h:aR w 0 B m cs fit d a n c f):QA (fun e=>e<B) a n:=fun g=>by
 obtain⟨e,i,j,k,_⟩:=h.2.2.2.2 g
 exact⟨e,i,j,k.2⟩
theorem lu.q:∀ (t:T) (cs:List Value),lu w B t cs->aL w B (fun b=>b<B) t cs:=by
 intro t
 induction t using T.ind with
 |h t e=>intro cs f;obtain⟨ka,kn,kc,va,vn,vc,oa,on,oc,ya,yc,css,rfl,a⟩:=f.out;exact QX.mk' (css:=css) ⟨a,jm a.keys,jm a.vals,jm a.over,(fun g=>by obtain⟨b,i,j,k,_⟩:=a.cell g;exact⟨b,i,j,k⟩),fun l c d m=>e c d _ (a.kid l c d m)⟩
theorem bz.q (a:bz w 0 B (fun b=>b<B) t ka kn kc va vn vc oa on oc ya yc css):QX w B (fun b=>b<B) t ka kn kc va vn vc oa on oc ya yc css :=
 ⟨a,jm a.keys,jm a.vals,jm a.over,(fun d=>by
   obtain⟨b,e,f,g,_⟩:=a.cell d
   exact⟨b,e,f,g⟩),fun h c i j=>lu.q c _ (a.kid h c i j)⟩
theorem aL.keep (g:∀ c,Q c->c<B->w'.heap[c]?=w.heap[c]?) (i:∀ c,Q c->Q' c) (j:B<=B'):∀ t cs,aL w B Q t cs->aL w' B' Q' t cs:=by
 intro t
 induction t using T.ind with
 |h t s=>intro cs u;obtain⟨ka,kn,kc,va,vn,vc,oa,on,oc,ya,yc,css,rfl,b⟩:=u.out;have l:∀ d,∀ e ∈ t.kids,t.kids[d]?=some e->aL w' B' Q' e (css d):=fun d e k f=>s e k _ (b.kq d e k f);refine QX.mk' (css:=css) ⟨⟨b.nx.page,dy b.nx.keys b.qk g j,dy b.nx.vals b.qv g j,dy b.nx.over b.qo g j,b.nx.cap,fun m=>?_,fun d e k f=>(l d e k f).is⟩,b.qk.mono i,b.qv.mono i,b.qo.mono i,b.qy.mono i,l⟩;obtain⟨c,n,o,p,v⟩:=b.nx.cell m;obtain⟨z,A,q,x⟩:=b.qy m;rw[o] at q;cases q;exact⟨c,n,o,Er p j,fun d f r y=>(Ep (w:=w) (a:=⟨c,n+d*6+r,none⟩) (g c x p)).trans (v d f r y)⟩
theorem QX.keep (b:QX w B Q t ka kn kc va vn vc oa on oc ya yc css) (f:∀ c,Q c->c<B->w'.heap[c]?=w.heap[c]?) (g:∀ c,Q c->Q' c) (h:B<=B'):QX w' B' Q' t ka kn kc va vn vc oa on oc ya yc css:=by
 have k:∀ d,∀ e ∈ t.kids,t.kids[d]?=some e->aL w' B' Q' e (css d):=fun d e j i=>aL.keep f g h e _ (b.kq d e j i);refine⟨⟨b.nx.page,dy b.nx.keys b.qk f h,dy b.nx.vals b.qv f h,dy b.nx.over b.qo f h,b.nx.cap,fun l=>?_,fun d e j i=>(k d e j i).is⟩,b.qk.mono g,b.qv.mono g,b.qo.mono g,b.qy.mono g,k⟩;obtain⟨c,m,n,o,r⟩:=b.nx.cell l;obtain⟨v,x,p,s⟩:=b.qy l;rw[n] at p;cases p;exact⟨c,m,n,Er o h,fun d i q u=>(Ep (w:=w) (a:=⟨c,m+d*6+q,none⟩) (f c s o)).trans (r d i q u)⟩
def SN (w:World) (Q:Nat->Prop) (t:T) (v:Value):Prop:=∃ ka kn kc va vn vc oa on oc ya yc css,v=.agg (Zs t.leaf t.page ka kn kc va vn vc oa on oc ya t.kids.length yc)∧QX w w.heap.size Q t ka kn kc va vn vc oa on oc ya yc css
theorem SN.keep (h:SN w Q t v) (a:∀ b,Q b->b<w.heap.size->w'.heap[b]?=w.heap[b]?) (c:∀ b,Q b->Q' b) (d:w.heap.size<=w'.heap.size):SN w' Q' t v:=by
 obtain⟨ka,kn,kc,va,vn,vc,oa,on,oc,ya,yc,css,e,f⟩:=h;exact⟨ka,kn,kc,va,vn,vc,oa,on,oc,ya,yc,css,e,f.keep a c d⟩
theorem SN.below (h:SN w Q t v) (a:Below w.heap.size w w'):SN w' Q t v:=h.keep (fun b _ c=>a.block b c) (fun _ h=>h) a.size
theorem SN.mono (h:SN w Q t v) (a:∀ b,Q b->Q' b):SN w Q' t v:=h.keep (fun _ _ _=>rfl) a (Ek _)
theorem eD {e size:Nat} {f:List Value} (h:w.ownsRow base e size (.slice a n c) n f):QA (fun g=>base<=g) a n:=fun j=>by
 rcases h.2 with ⟨b,k⟩ | ⟨d,l,m,b,o,p,q,r,_⟩
 ·omega
 ·have i:=h.lt d (by rw[b];rfl)
  cases b
  exact⟨d,0,rfl,i.1⟩
theorem Ao (h:lu w w.heap.size t cs) (a:Below w.heap.size w w'):lu w' w'.heap.size t cs :=
 cN.keep (.of_below a) (fun b h=>a.block b h) (fun b h=>Er h a.size) (Ek _) a.size t cs h
theorem pH (h:bz w 0 w.heap.size (fun c=>c<w.heap.size) t ka kn kc va vn vc oa on oc ya yc css) (b:Below w.heap.size w w'):bz w' 0 w'.heap.size (fun c=>c<w'.heap.size) t ka kn kc va vn vc oa on oc ya yc css :=
 ⟨h.page,(h.keys.below b).up (Ek _) b.size,(h.vals.below b).up (Ek _) b.size,(h.over.below b).up (Ek _) b.size,h.cap,fun j=>by
  obtain⟨c,f,k,g,l⟩:=h.cell j
  exact⟨c,f,k,Er g b.size,fun d e i m=>(Ep (w:=w) (a:=⟨c,f+d*6+i,none⟩) (b.block c g)).trans (l d e i m)⟩,fun d n o e=>Ao (h.kid d n o e) b⟩
theorem dF {f:Type} {cs:f->List Value} {fit:f->Prop} {d:f} {e:List f} (k:∀ l,(cs l).length=1) (t:∀ m ∈ aa cs e,m.oneCell'=true) (h:aR w A B 1 cs fit d a n c e) (u:n<=1048576):bi w B 1 n (.slice a n c) (aa cs e):=by
 obtain⟨D,E,F,G,g⟩:=h;have v:(aa cs e).length=n:=by rw[ay k];omega
 refine⟨by omega,u,t,a,c,rfl,fun x=>?_,fun H=>?_,fun l y o m p=>?_⟩
 ·rcases Fo n with h | h;·exact h
  ·obtain⟨i,j,b,_⟩:=g h;rw[x] at b;cases b
 ·obtain⟨i,j,b,_⟩:=g (by omega);exact⟨i,j,b⟩
 ·have q:=Zc p;rw[v] at q;obtain⟨i,j,b,z,C⟩:=g (by omega);rw[y] at b;simp only[Option.some.injEq] at b;subst b;rw[gy];refine⟨z.2,?_⟩;have r:=C o q 0 (by omega);have s:=bI k d e o 0 (by omega) (by omega);simp only[Fv,Fu] at r s;rw[r,<-s,p]
def Ap (t:T) (css:Nat->List Value):Prop:=∀ i,i<t.kids.length->(css i).length=6∧∀ u ∈ css i,u.oneCell'=true
theorem bz.cells6 {P:Nat->Prop} (h:bz w A B P t ka kn kc va vn vc oa on oc ya yc css):Ap t css:=by
 intro b a;have c:=Eh a;obtain⟨_,_,_,_,_,_,_,_,_,_,_,_,d,_⟩:=(h.kid b _ (E4 a) c).out;rw[d];exact⟨rfl,by simp[Value.oneCell']⟩
theorem kg (h:bz w A B (fun c=>c<B) t ka kn kc va vn vc oa on oc ya yc css) (q:t.kids.length<=1048576) (r:ya=none->t.kids.length=0):bi w B 6 t.kids.length (.slice ya t.kids.length yc) (az css t.kids.length):=by
 have i:=h.cells6;have d:=cu (css:=css) (m:=t.kids.length) (fun e f=>(i e f).1);refine⟨d.1,q,fun j g=>?_,ya,yc,rfl,r,fun y=>?_,fun z s a j k=>?_⟩;·obtain⟨e,f,g⟩:=List.mem_flatMap.1 g;exact (i e (List.mem_range.1 f)).2 j g
 ·obtain⟨c,l,b,_⟩:=h.cell (by have:=d.1;omega);exact⟨c,l,b⟩
 ·have u:=Zc k;rw[d.1] at u;obtain⟨c,l,b,v,x⟩:=h.cell (by omega);rw[s] at b;simp only[Option.some.injEq] at b;subst b;rw[gy];refine⟨v,?_⟩;have n:=x (a / 6) (by omega) (a % 6) (by omega);have o:=d.2 (a / 6) (a % 6) (by omega) (by omega);have p:a / 6*6+a % 6=a:=(by omega);rw[Fx,p] at n;rw[p] at o;rw[n,<-o,k]
theorem cm {i:Type} {e:Nat} {cs:i->List Value} {fit:i->Prop} {d:i} {b:List i} (j:∀ x,(cs x).length=1) (h:w.ownsRow base e 1 v n (aa cs b)) (p:∀ x ∈ b,fit x):∃ a c,v=.slice a n c∧aR w 0 w.heap.size 1 cs fit d a n c b:=by
 have k:b.length=n:=by have:=h.1;rw[ay j] at this;omega
 have l:∀ f,f<n->fit (b.getD f d):=fun f q=>by have:b.getD f d=b[f]'(by omega):=(by simp[List.getD,show f<b.length by omega]);rw[this];exact p _ (E4 _)
 rcases h.2 with ⟨g,r⟩ | ⟨m,s,A,g,B,C,t,u,_⟩;·subst r;exact⟨none,0,g,k,Ek _,by unfold maxLen;omega,l,fun o=>absurd o (by omega)⟩
 ·have y:=h.lt m (by rw[g];rfl);refine⟨_,s,g,k,t,u,l,fun o=>⟨m,0,rfl,⟨En _,y.2⟩,fun f q z D=>?_⟩⟩;subst g;obtain rfl:z=0:=(by omega);rw[EK,h.cellAt (f*1+0) (by omega)];exact bI j d b f 0 (by omega) (by omega)
theorem aT {b:Type} {cs:b->List Value} {fit:b->Prop} {d:b} {e:List b} (h:aR w A B 1 cs fit d a n c e):∀ g ∈ e,fit g:=fun g i=>by
 obtain⟨f,j,rfl⟩:=List.mem_iff_getElem.1 i
 have:=h.2.2.2.1 f (by have:=h.1;omega)
 have k:e.getD f d=e[f]:=by simp[List.getD,j]
 rwa [k] at this
theorem jQ (k:∀ b,b<n->(css b).length=6) (h:w.ownsRow base 57 6 v n (az css n)):∃ a c,v=.slice a n c∧n<=c∧c<=maxLen∧(a=none->n=0)∧(0<n->∃ f g,a=some ⟨f,g,none⟩∧f<w.heap.size∧∀ b,b<n->∀ d,d<6->w.cell? ⟨f,g+b*6+d,none⟩=(css b)[d]?):=by
 have l:=cu (css:=css) (m:=n) k;rcases h.2 with ⟨e,o⟩ | ⟨i,p,y,e,z,A,q,r,_⟩;·subst o;exact⟨none,0,e,Ek _,by unfold maxLen;omega,fun _=>rfl,fun j=>absurd j (by omega)⟩
 ·have s:=h.lt i (by rw[e];rfl);refine⟨_,p,e,q,r,(fun t=>by cases t),fun j=>⟨i,0,rfl,s.2,fun b u d x=>?_⟩⟩;subst e;rw[EK,h.cellAt (b*6+d) (by omega)];exact l.2 b d u x
theorem CW (A:Array Value) (h:A.size=36):∃ a b c d e f g i j k l m n o p q r s t u v w x y z B C D E F G H I J K L:Value,A=#[a,b,c,d,e,f,g,i,j,k,l,m,n,o,p,q,r,s,t,u,v,w,x,y,z,B,C,D,E,F,G,H,I,J,K,L]:=by
 obtain⟨M⟩:=A
 match M,h with
 | a::b::c::d::e::f::g::i::j::k::l::m::n::o::p::q::r::s::t::u::v::w::x::y::z::B::C::D::E::F::G::H::I::J::K::L::[],_=>exact⟨a,b,c,d,e,f,g,i,j,k,l,m,n,o,p,q,r,s,t,u,v,w,x,y,z,B,C,D,E,F,G,H,I,J,K,L,rfl⟩
theorem ou {P:Program} {b:Region.Mode} {ops ops':Array Oper} {Q:Exit->Act->World->Prop} {S:World->Prop} {c fuel':Nat} {l l':Array Bool} {a:Act} (d:ops=ops') (e:l=l') (f:c=fuel') (g:wpAnyH P b ops' Q S fuel' l' a w):wpAnyH P b ops Q S c l a w:=by subst d e f;exact g
def ag (a b:T):T:=⟨a.leaf,0,a.keys++b.keys,a.vals++b.vals,a.over++b.over,a.kids++b.kids⟩
theorem ef {cA cB:Nat->List Value}:az cA m++az cB n=az (fun a=>if a<m then cA a else cB (a - m)) (m+n):=by
 induction n with
 |zero=>rw[Fu,cZ (css:=cA) (fun a b=>if_pos b)];simp[az]
 |succ n c=>rw[dv,<-EA,c,<-Fx,dv,if_neg (by omega),show m+n - m=n by omega]
set_option maxHeartbeats 4000000 in
theorem cI {a b:T} {ba bb:Value} (aH:SN w Q a ba) (bw:SN w Q b bb) (bx:a.keys.length<=1000∧a.vals.length<=1000∧a.over.length<=1000∧a.kids.length<=1000) (bz:b.keys.length<=1000∧b.vals.length<=1000∧b.over.length<=1000∧b.kids.length<=1000) :
  Calls prog 69 #[ba,bb] w fun x w'=>∃ v,x=.returned v∧SN w' (fun j=>Q j∨w.heap.size<=j) (ag a b) v∧Below w.heap.size w w':=by
 obtain⟨ka,kn,kc,va,vn,vc,oa,on,oc,ya,yc,css,rfl,aR⟩:=aH;have al:=aR.nx;obtain⟨S,l,U,V,m,W,X,n,Y,O,Z,af,rfl,aS⟩:=bw;have an:=aS.nx;have bA:ya=none->a.kids.length=0:=fun x=>by
  rcases Fo a.kids.length with e | e;·exact e
  ·obtain⟨_,_,ab,_⟩:=al.cell e;rw[x] at ab;cases ab
 have bB:O=none->b.kids.length=0:=fun x=>by
  rcases Fo b.kids.length with e | e;·exact e
  ·obtain⟨_,_,ab,_⟩:=an.cell e;rw[x] at ab;cases ab
 have bC:Hid _:=al;have bD:Hid _:=aR;have bE:Hid _:=aS;clear aR aS;have bF:Hid _:=an;have bc:Hid ((a.keys.length=kn∧a.vals.length=vn∧a.over.length=on)∧b.keys.length=l∧b.vals.length=m∧b.over.length=n):=⟨⟨al.keys.1,al.vals.1,al.over.1⟩,an.keys.1,an.vals.1,an.over.1⟩;obtain⟨f,aI⟩:=Zn w.heap.size;obtain⟨g,aB⟩:∃ g,g=((w.alloc (.cells (Zs a.leaf a.page ka kn kc va vn vc oa on oc ya a.kids.length yc) 57)).alloc (.cells (Zs b.leaf b.page S l U V m W X n Y O b.kids.length Z) 57)).alloc (.cells (Z0 false 0) 57):=⟨_,rfl⟩;have aJ:Below w.heap.size w g:=by rw[aB];exact ((Zb _ _).alloc (by simp) _).alloc (by simp;omega) _
 have aU:g.heap.size=f+3:=by rw[aB];simp[aI]
 have bd:=nm w (.cells (Zs a.leaf a.page ka kn kc va vn vc oa on oc ya a.kids.length yc) 57) (.cells (Zs b.leaf b.page S l U V m W X n Y O b.kids.length Z) 57) (.cells (Z0 false 0) 57);rw[<-aB,aI] at bd;obtain⟨bG,bH,bI⟩:=bd;have aC:=pH al aJ;have aE:=pH an aJ;have be:Hid (∀ c,c<4->bi g.drew (f+3) (gS c) (if c=0 then kn else if c=1 then vn else if c=2 then on else a.kids.length) (if c=0 then .slice ka kn kc else if c=1 then .slice va vn vc else if c=2 then .slice oa on oc else .slice ya a.kids.length yc) (if c=0 then aa ae a.keys else if c=1 then aa ae a.vals else if c=2 then aa ac a.over else az css a.kids.length)):=fun c ao=>by
  have e:=bc.out;have B:c=0∨c=1∨c=2∨c=3:=(by omega);rw[<-aU];rcases B with rfl | rfl | rfl | rfl;·show bi g.drew g.heap.size 1 kn (.slice ka kn kc) (aa ae a.keys);exact (dF jb (eW _) aC.keys (by omega)).below ((Ev _ g).drew)
  ·show bi g.drew g.heap.size 1 vn (.slice va vn vc) (aa ae a.vals);exact (dF jb (eW _) aC.vals (by omega)).below ((Ev _ g).drew)
  ·show bi g.drew g.heap.size 1 on (.slice oa on oc) (aa ac a.over);exact (dF lh (gX _) aC.over (by omega)).below ((Ev _ g).drew)
  ·show bi g.drew g.heap.size 6 a.kids.length (.slice ya a.kids.length yc) (az css a.kids.length);exact (kg aC (by omega) bA).below ((Ev _ g).drew)
 have bf:Hid (∀ c,c<4->bi g.drew (f+3) (gS c) (if c=0 then l else if c=1 then m else if c=2 then n else b.kids.length) (if c=0 then .slice S l U else if c=1 then .slice V m W else if c=2 then .slice X n Y else .slice O b.kids.length Z) (if c=0 then aa ae b.keys else if c=1 then aa ae b.vals else if c=2 then aa ac b.over else az af b.kids.length)):=fun c ao=>by
  have e:=bc.out;have B:c=0∨c=1∨c=2∨c=3:=(by omega);rw[<-aU];rcases B with rfl | rfl | rfl | rfl;·show bi g.drew g.heap.size 1 l (.slice S l U) (aa ae b.keys);exact (dF jb (eW _) aE.keys (by omega)).below ((Ev _ g).drew)
  ·show bi g.drew g.heap.size 1 m (.slice V m W) (aa ae b.vals);exact (dF jb (eW _) aE.vals (by omega)).below ((Ev _ g).drew)
  ·show bi g.drew g.heap.size 1 n (.slice X n Y) (aa ac b.over);exact (dF lh (gX _) aE.over (by omega)).below ((Ev _ g).drew)
  ·show bi g.drew g.heap.size 6 b.kids.length (.slice O b.kids.length Z) (az af b.kids.length);exact (kg aE (by omega) bB).below ((Ev _ g).drew)
 have aW:Hid (∀ w':World,Fr (fun j=>f+2<=j) g.drew w'->w'.heap[f]?=some (.cells (Zs a.leaf a.page ka kn kc va vn vc oa on oc ya a.kids.length yc) 57)∧w'.heap[f+1]?=some (.cells (Zs b.leaf b.page S l U V m W X n Y O b.kids.length Z) 57)):=fun w' C=>⟨(C.block f (by show f<g.heap.size;omega) (by omega)).trans bG,(C.block (f+1) (by show f+1<g.heap.size;omega) (by omega)).trans bH⟩
 have bh:Hid (∀ w' D E F G,Fr (fun j=>f+3<=j) g.drew w'->w'.ownsRow (f+3) 9 1 D (kn+l) (aa ae a.keys++aa ae b.keys)->w'.ownsRow (f+3) 9 1 E (vn+m) (aa ae a.vals++aa ae b.vals)->w'.ownsRow (f+3) 2 1 F (on+n) (aa ac a.over++aa ac b.over)->w'.ownsRow (f+3) 57 6 G (a.kids.length+b.kids.length) (az css a.kids.length++az af b.kids.length) ->
   ∃ H p I q J r K s,D=.slice H (kn+l) p∧E=.slice I (vn+m) q∧F=.slice J (on+n) r∧G=.slice K (a.kids.length+b.kids.length) s∧SN (bg w' (f+2) (.bool a.leaf) (.int .i64 0) D E F G) (fun j=>Q j∨w.heap.size<=j) (ag a b) (.agg #[.bool a.leaf,.int .i64 0,D,E,F,G])∧Below w.heap.size w (bg w' (f+2) (.bool a.leaf) (.int .i64 0) D E F G)∧(bg w' (f+2) (.bool a.leaf) (.int .i64 0) D E F G).heap[f+2]?=some (.cells #[.bool a.leaf,.int .i64 0,D,E,F,G] 57)∧w'.heap[f+2]?=some (.cells (Z0 false 0) 57)):=by
  intro w' D E F G C ap au av aw;have aK:=bC.out;have aM:=bF.out;have aF:g.heap.size<=w'.heap.size:=C.size;have ax:=(C.block (f+2) (by show f+2<g.heap.size;omega) (by omega)).trans bI;have aN:=aV ax (.bool a.leaf) (.int .i64 0) D E F G;have y:=bk w' (f+2) (.bool a.leaf) (.int .i64 0) D E F G;have aG:Below w.heap.size w (bg w' (f+2) (.bool a.leaf) (.int .i64 0) D E F G):=(by rw[aI];refine ((by rw[<-aI];exact aJ:Below f w g).trans ?_);exact⟨y.os.trans C.os,y.tape.trans C.tape,y.output.trans C.output,Eo aF y.size,fun aX cb=>(y.block aX (by omega) (by omega)).trans (C.block aX (by show aX<g.heap.size;omega) (by omega))⟩);rw[<-aD] at ap au av;rw[ef] at aw;have bJ:∀ k,k<a.kids.length+b.kids.length->((fun k=>if k<a.kids.length then css k else af (k - a.kids.length)) k).length=6:=fun k ay=>by
   dsimp only;split;·exact (aK.cells6 k (by omega)).1
   ·exact (aM.cells6 (k - a.kids.length) (by omega)).1
  have bj:=am ap y (fun j u x=>by have:=(ap.lt j u).1;omega);have q1:=am au y (fun j u x=>by have:=(au.lt j u).1;omega);have q2:=am av y (fun j u x=>by have:=(av.lt j u).1;omega);have q3:=am aw y (fun j u x=>by have:=(aw.lt j u).1;omega);obtain⟨H,p,rfl,bK⟩:=cm (fit:=dm) (d:=ByteArray.empty) jb bj (fun P L=>by rcases EG.1 L with e | e;exact aT aK.keys P e;exact aT aM.keys P e);obtain⟨I,q,rfl,bL⟩:=cm (fit:=dm) (d:=ByteArray.empty) jb q1 (fun P L=>by rcases EG.1 L with e | e;exact aT aK.vals P e;exact aT aM.vals P e);obtain⟨J,r,rfl,bM⟩:=cm (fit:=ga) (d:=0) lh q2 (fun P L=>by rcases EG.1 L with e | e;exact aT aK.over P e;exact aT aM.over P e);obtain⟨K,s,rfl,bN,bO,cc,bP⟩:=jQ bJ q3;have aY:(ag a b).kids.length=a.kids.length+b.kids.length:=(by simp[ag]);refine⟨H,p,I,q,J,r,K,s,rfl,rfl,rfl,rfl,⟨H,kn+l,p,I,vn+m,q,J,on+n,r,K,s,(fun k=>if k<a.kids.length then css k else af (k - a.kids.length)),?_,?_⟩,aG,aN,ax⟩;·rw[aY];rfl
  ·have aO:∀ {bl:Option Addr} {bm:Nat},QA (fun j=>f+3<=j) bl bm->QA (fun j=>Q j∨w.heap.size<=j) bl bm:=fun e=>e.mono (fun j u=>.inr (by omega));have bn:∀ k,∀ R ∈ (ag a b).kids,(ag a b).kids[k]?=some R->aL (bg w' (f+2) (.bool a.leaf) (.int .i64 0) (.slice H (kn+l) p) (.slice I (vn+m) q) (.slice J (on+n) r) (.slice K (a.kids.length+b.kids.length) s)) (bg w' (f+2) (.bool a.leaf) (.int .i64 0) (.slice H (kn+l) p) (.slice I (vn+m) q) (.slice J (on+n) r) (.slice K (a.kids.length+b.kids.length) s)).heap.size (fun j=>Q j∨w.heap.size<=j) R ((fun k=>if k<a.kids.length then css k else af (k - a.kids.length)) k):=fun k R bo ay=>by
    have aA:(a.kids++b.kids)[k]?=some R:=ay;by_cases aZ:k<a.kids.length;·rw[EE aZ] at aA;simp only[if_pos aZ];exact aL.keep (fun j _ u=>aG.block j u) (fun j u=>.inl u) aG.size R _ (bD.out.kq k R (Ew aA) aA)
    ·rw[EB (by omega)] at aA;simp only[if_neg aZ];exact aL.keep (fun j _ u=>aG.block j u) (fun j u=>.inl u) aG.size R _ (bE.out.kq (k - a.kids.length) R (Ew aA) aA)
   refine⟨⟨(show ga 0 from ⟨by decide,by decide⟩),bK,bL,bM,by rw[aY];exact⟨bN,bO⟩,fun aP=>?_,fun k R bo ay=>(bn k R bo ay).is⟩,aO (eD bj),aO (eD q1),aO (eD q2),?_,bn⟩;·obtain⟨bQ,bR,x,bp,bq⟩:=bP (by omega);exact⟨bQ,bR,x,bp,fun k ay=>bq k (by omega)⟩
   ·rw[aY];exact aO (eD q3)
 have bS:f+3<=g.drew.heap.size:=by show f+3<=g.heap.size;omega
 have cd:=aU;clear al an aC aE aJ bx bz;generalize a.leaf=ad at *;generalize a.page=bT at *;generalize b.leaf=bU at *;generalize b.page=bV at *;generalize a.kids.length=z at *;generalize b.kids.length=A at *;have ce:f<g.heap.size:=by omega
 have cf:f+1<g.heap.size:=by omega
 go_enter func69,ntmps69;go_upto_region 1 with fail
 rw[<-aB];clear aB;refine Zg (fun w':World=>w'.heap[f]?=some (.cells (Zs ad bT ka kn kc va vn vc oa on oc ya z yc) 57)∧w'.heap[f+1]?=some (.cells (Zs bU bV S l U V m W X n Y O A Z) 57)) (aW.out g.drew (Fr.refl _ _)) (fun br=>?_);refine wpAnyH_take (i:=0) (oi:=⟨some 5,Op.fieldAddr 57 (.tmp 2) 0,0,"l3_tree.go:271",#[],none⟩) (v:=.pointer (some ⟨f,0,none⟩)) rfl (by kernel_rfl) (by kernel_rfl) (by kernel_rfl) (fun _ _ _ e=>e) (Fq ⟨by rfl,?_⟩) (by assumption) ?_;·intro t h;go_simp
 try simp only[Zq]
 refine wpAnyH_take (i:=1) (oi:=⟨some 6,Op.load 4 (.tmp 5),4,"l3_tree.go:271",#[⟨0,.data⟩],none⟩) (v:=.bool ad) rfl (by kernel_rfl) (by kernel_rfl) (by kernel_rfl) (fun _ _ _ e=>e) (Fq ⟨by rfl,?_⟩) (by assumption) ?_;·intro t h;(try dsimp only at h);obtain⟨p,q,r,s,ah,ai⟩:=aq h.1;go_simp
 try simp only[Zq]
 refine wpAnyH_take (i:=3) (oi:=⟨some 8,Op.fieldAddr 57 (.tmp 2) 2,0,"l3_tree.go:271",#[],none⟩) (v:=.pointer (some ⟨f,2,none⟩)) rfl (by kernel_rfl) (by kernel_rfl) (by kernel_rfl) (fun _ _ _ e=>e) (Fq ⟨by rfl,?_⟩) (by assumption) ?_;·intro t h;go_simp
 try simp only[Zq]
 refine wpAnyH_take (i:=4) (oi:=⟨some 9,Op.load 42 (.tmp 8),42,"l3_tree.go:271",#[⟨3,.data⟩],none⟩) (v:=.slice ka kn kc) rfl (by kernel_rfl) (by kernel_rfl) (by kernel_rfl) (fun _ _ _ e=>e) (Fq ⟨by rfl,?_⟩) (by assumption) ?_;·intro t h;(try dsimp only at h);obtain⟨p,q,r,s,ah,ai⟩:=aq h.1;go_simp
 try simp only[Zq]
 refine wpAnyH_take (i:=6) (oi:=⟨some 11,Op.fieldAddr 57 (.tmp 3) 2,0,"l3_tree.go:271",#[],none⟩) (v:=.pointer (some ⟨f+1,2,none⟩)) rfl (by kernel_rfl) (by kernel_rfl) (by kernel_rfl) (fun _ _ _ e=>e) (Fq ⟨by rfl,?_⟩) (by assumption) ?_;·intro t h;go_simp
 try simp only[Zq]
 refine wpAnyH_take (i:=7) (oi:=⟨some 12,Op.load 42 (.tmp 11),42,"l3_tree.go:271",#[⟨6,.data⟩],none⟩) (v:=.slice S l U) rfl (by kernel_rfl) (by kernel_rfl) (by kernel_rfl) (fun _ _ _ e=>e) (Fq ⟨by rfl,?_⟩) (by assumption) ?_;·intro t h;(try dsimp only at h);obtain⟨p,q,r,s,ah,ai⟩:=aq h.2;go_simp
 try simp only[Zq]
 refine wpAnyH_take (i:=10) (oi:=⟨some 15,Op.fieldAddr 57 (.tmp 2) 3,0,"l3_tree.go:271",#[],none⟩) (v:=.pointer (some ⟨f,3,none⟩)) rfl (by kernel_rfl) (by kernel_rfl) (by kernel_rfl) (fun _ _ _ e=>e) (Fq ⟨by rfl,?_⟩) (by assumption) ?_;·intro t h;go_simp
 try simp only[Zq]
 refine wpAnyH_take (i:=11) (oi:=⟨some 16,Op.load 42 (.tmp 15),42,"l3_tree.go:271",#[⟨10,.data⟩],none⟩) (v:=.slice va vn vc) rfl (by kernel_rfl) (by kernel_rfl) (by kernel_rfl) (fun _ _ _ e=>e) (Fq ⟨by rfl,?_⟩) (by assumption) ?_;·intro t h;(try dsimp only at h);obtain⟨p,q,r,s,ah,ai⟩:=aq h.1;go_simp
 try simp only[Zq]
 refine wpAnyH_take (i:=13) (oi:=⟨some 18,Op.fieldAddr 57 (.tmp 3) 3,0,"l3_tree.go:271",#[],none⟩) (v:=.pointer (some ⟨f+1,3,none⟩)) rfl (by kernel_rfl) (by kernel_rfl) (by kernel_rfl) (fun _ _ _ e=>e) (Fq ⟨by rfl,?_⟩) (by assumption) ?_;·intro t h;go_simp
 try simp only[Zq]
 refine wpAnyH_take (i:=14) (oi:=⟨some 19,Op.load 42 (.tmp 18),42,"l3_tree.go:271",#[⟨13,.data⟩],none⟩) (v:=.slice V m W) rfl (by kernel_rfl) (by kernel_rfl) (by kernel_rfl) (fun _ _ _ e=>e) (Fq ⟨by rfl,?_⟩) (by assumption) ?_;·intro t h;(try dsimp only at h);obtain⟨p,q,r,s,ah,ai⟩:=aq h.2;go_simp
 try simp only[Zq]
 refine wpAnyH_take (i:=17) (oi:=⟨some 22,Op.fieldAddr 57 (.tmp 2) 4,0,"l3_tree.go:271",#[],none⟩) (v:=.pointer (some ⟨f,4,none⟩)) rfl (by kernel_rfl) (by kernel_rfl) (by kernel_rfl) (fun _ _ _ e=>e) (Fq ⟨by rfl,?_⟩) (by assumption) ?_;·intro t h;go_simp
 try simp only[Zq]
 refine wpAnyH_take (i:=18) (oi:=⟨some 23,Op.load 29 (.tmp 22),29,"l3_tree.go:271",#[⟨17,.data⟩],none⟩) (v:=.slice oa on oc) rfl (by kernel_rfl) (by kernel_rfl) (by kernel_rfl) (fun _ _ _ e=>e) (Fq ⟨by rfl,?_⟩) (by assumption) ?_;·intro t h;(try dsimp only at h);obtain⟨p,q,r,s,ah,ai⟩:=aq h.1;go_simp
 try simp only[Zq]
 refine wpAnyH_take (i:=20) (oi:=⟨some 25,Op.fieldAddr 57 (.tmp 3) 4,0,"l3_tree.go:271",#[],none⟩) (v:=.pointer (some ⟨f+1,4,none⟩)) rfl (by kernel_rfl) (by kernel_rfl) (by kernel_rfl) (fun _ _ _ e=>e) (Fq ⟨by rfl,?_⟩) (by assumption) ?_;·intro t h;go_simp
 try simp only[Zq]
 refine wpAnyH_take (i:=21) (oi:=⟨some 26,Op.load 29 (.tmp 25),29,"l3_tree.go:271",#[⟨20,.data⟩],none⟩) (v:=.slice X n Y) rfl (by kernel_rfl) (by kernel_rfl) (by kernel_rfl) (fun _ _ _ e=>e) (Fq ⟨by rfl,?_⟩) (by assumption) ?_;·intro t h;(try dsimp only at h);obtain⟨p,q,r,s,ah,ai⟩:=aq h.2;go_simp
 try simp only[Zq]
 refine wpAnyH_take (i:=24) (oi:=⟨some 29,Op.fieldAddr 57 (.tmp 2) 5,0,"l3_tree.go:271",#[],none⟩) (v:=.pointer (some ⟨f,5,none⟩)) rfl (by kernel_rfl) (by kernel_rfl) (by kernel_rfl) (fun _ _ _ e=>e) (Fq ⟨by rfl,?_⟩) (by assumption) ?_;·intro t h;go_simp
 try simp only[Zq]
 refine wpAnyH_take (i:=25) (oi:=⟨some 30,Op.load 55 (.tmp 29),55,"l3_tree.go:271",#[⟨24,.data⟩],none⟩) (v:=.slice ya z yc) rfl (by kernel_rfl) (by kernel_rfl) (by kernel_rfl) (fun _ _ _ e=>e) (Fq ⟨by rfl,?_⟩) (by assumption) ?_;·intro t h;(try dsimp only at h);obtain⟨p,q,r,s,ah,ai⟩:=aq h.1;go_simp
 try simp only[Zq]
 refine wpAnyH_take (i:=27) (oi:=⟨some 32,Op.fieldAddr 57 (.tmp 3) 5,0,"l3_tree.go:271",#[],none⟩) (v:=.pointer (some ⟨f+1,5,none⟩)) rfl (by kernel_rfl) (by kernel_rfl) (by kernel_rfl) (fun _ _ _ e=>e) (Fq ⟨by rfl,?_⟩) (by assumption) ?_;·intro t h;go_simp
 try simp only[Zq]
 refine wpAnyH_take (i:=28) (oi:=⟨some 33,Op.load 55 (.tmp 32),55,"l3_tree.go:271",#[⟨27,.data⟩],none⟩) (v:=.slice O A Z) rfl (by kernel_rfl) (by kernel_rfl) (by kernel_rfl) (fun _ _ _ e=>e) (Fq ⟨by rfl,?_⟩) (by assumption) ?_;·intro t h;(try dsimp only at h);obtain⟨p,q,r,s,ah,ai⟩:=aq h.2;go_simp
 try simp only[Zq]
 refine ou (ops':=cT) (l':=pG 0 0 0 0) (fuel':=12+2) (by kernel_rfl) (by kernel_rfl) rfl ?_;refine yT (SZ:=36) (M:=f+3) (Wd:=g.drew) bS (fun w' C=>aW.out w' (C.weak (fun j x=>by omega))) (by omega) (fun c=>if c=0 then .slice ka kn kc else if c=1 then .slice va vn vc else if c=2 then .slice oa on oc else .slice ya z yc) (fun c=>if c=0 then .slice S l U else if c=1 then .slice V m W else if c=2 then .slice X n Y else .slice O A Z) (fun c=>if c=0 then aa ae a.keys else if c=1 then aa ae a.vals else if c=2 then aa ac a.over else az css z) (fun c=>if c=0 then aa ae b.keys else if c=1 then aa ae b.vals else if c=2 then aa ac b.over else az af A) (fun c=>if c=0 then kn else if c=1 then vn else if c=2 then on else z) (fun c=>if c=0 then l else if c=1 then m else if c=2 then n else A) [(4,.pointer (some ⟨f+2,0,none⟩)),(6,.bool ad),(9,.slice ka kn kc),(12,.slice S l U),(16,.slice va vn vc),(19,.slice V m W),(23,.slice oa on oc),(26,.slice X n Y),(30,.slice ya z yc),(33,.slice O A Z)] ?_ ?_ ?_ be.out bf.out ?_ 12 0 0 0 0 _ _ (by omega) (by omega) (by omega) (by omega) rfl rfl ?_;·intro P L c ao cg bp bq;unfold wi;simp only[EL,Fy,or_false] at L;rcases L with rfl | rfl | rfl | rfl | rfl | rfl | rfl | rfl | rfl | rfl<;>(dsimp only;omega)
 ·intro c ao;have B:c=0∨c=1∨c=2∨c=3:=(by omega);rcases B with rfl | rfl | rfl | rfl<;>simp
 ·intro c ao;have B:c=0∨c=1∨c=2∨c=3:=(by omega);rcases B with rfl | rfl | rfl | rfl<;>simp
 ·intro aj ak N;have ap:ak.ownsRow (f+3) 9 1 (aj.eval (.tmp 13)) (kn+l) (aa ae a.keys++aa ae b.keys):=N.cur 0 (by omega) (by omega);have au:ak.ownsRow (f+3) 9 1 (aj.eval (.tmp 20)) (vn+m) (aa ae a.vals++aa ae b.vals):=N.cur 1 (by omega) (by omega);have av:ak.ownsRow (f+3) 2 1 (aj.eval (.tmp 27)) (on+n) (aa ac a.over++aa ac b.over):=N.cur 2 (by omega) (by omega);have aw:ak.ownsRow (f+3) 57 6 (aj.eval (.tmp 34)) (z+A) (az css z++az af A):=N.cur 3 (by omega) (by omega);obtain⟨H,p,I,q,J,r,K,s,a0,a1,ab,a2,a3,a4,aN,ax⟩:=bh.out ak _ _ _ _ N.fr ap au av aw;rw[a0,a1,ab,a2] at a3 a4 aN;have bs:aj.eval (.tmp 4)=.pointer (some ⟨f+2,0,none⟩):=N.kp (4,.pointer (some ⟨f+2,0,none⟩)) (by simp);have bt:aj.eval (.tmp 6)=.bool ad:=N.kp (6,.bool ad) (by simp);have aF:=N.sz;have bu:=N.df;have aQ:=aW.out ak (N.fr.weak (fun j x=>by omega));obtain⟨a5,a6,a7,a8,a9,a'⟩:=aq ax;have bW:=ar ax;have ch:=Za ax;have y:=bk ak (f+2) (.bool ad) (.int .i64 0) (.slice H (kn+l) p) (.slice I (vn+m) q) (.slice J (on+n) r) (.slice K (z+A) s);have bX:Hid _:=a3;have bY:Hid _:=a4;clear N ap au av aw bh be bf a3 a4;obtain⟨ci,cj,ck,cl,bZ,cn,b0,co,cp,cq,cr,cs,ct,b1,cu,cv,cw,cx,cy,cz,b2,cA,cB,cC,cD,cE,cF,b3,cG,cH,cJ,cK,cL,cM,b4,cN,aH⟩:=CW aj.tmps aF;obtain⟨cO,cP⟩:=aj;dsimp only at aH bu aF;subst aH bu;have b5:bZ=_:=bs;have b6:b0=_:=bt;have b7:b1=_:=a0;have b8:b2=_:=a1;have b9:b3=_:=ab;have b':b4=_:=a2;clear bs bt a0 a1 ab a2 aF;subst b5 b6 b7 b8 b9 b';refine wpAnyH_take (i:=30) (oi:=⟨some 35,Op.build 57 #[(0,Operand.tmp 6),(2,Operand.tmp 13),(3,Operand.tmp 20),(4,Operand.tmp 27),(5,Operand.tmp 34)],57,"l3_tree.go:271",#[⟨1,.data⟩,⟨8,.data⟩,⟨15,.data⟩,⟨22,.data⟩,⟨29,.data⟩],none⟩) (v:=.agg (Zs ad 0 H (kn+l) p I (vn+m) q J (on+n) r K (z+A) s)) rfl (by kernel_rfl) (by kernel_rfl) (by kernel_rfl) (fun _ _ _ e=>e) (Fq ⟨by rfl,?_⟩) aQ ?_;·intro t h;go_simp
  try simp only[Zq]
  refine Zr [31] ?_;refine AllReadyH.cons (o:=⟨none,Op.store 57 (.tmp 4) (.tmp 35),0,"l3_tree.go:271",#[⟨30,.data⟩,⟨29,.chain⟩,⟨0,.phase⟩,⟨1,.phase⟩,⟨2,.phase⟩,⟨3,.phase⟩,⟨4,.phase⟩,⟨5,.phase⟩,⟨6,.phase⟩,⟨7,.phase⟩,⟨8,.phase⟩,⟨9,.phase⟩,⟨10,.phase⟩,⟨11,.phase⟩,⟨12,.phase⟩,⟨13,.phase⟩,⟨14,.phase⟩,⟨15,.phase⟩,⟨16,.phase⟩,⟨17,.phase⟩,⟨18,.phase⟩,⟨19,.phase⟩,⟨20,.phase⟩,⟨21,.phase⟩,⟨22,.phase⟩,⟨23,.phase⟩,⟨24,.phase⟩,⟨25,.phase⟩,⟨26,.phase⟩,⟨27,.phase⟩,⟨28,.phase⟩,⟨29,.phase⟩,⟨30,.phase⟩],none⟩) rfl (fun ca bv=>?_) Ei;go_simp;clear a5 a6 a7 a8 a9 a' bW;refine bv.out _ _ (⟨(y.block f (by omega) (by omega)).trans aQ.1,(y.block (f+1) (by omega) (by omega)).trans aQ.2⟩) (fun br=>?_);clear bv ca;try simp only[Zq]
  refine Zd ?_;obtain⟨a5,a6,a7,a8,a9,a'⟩:=aq aN;clear br aQ y;go_wp2_with fail
  show bodyPost _ _ _ _ _ (bg ak (f+2) (.bool ad) (.int .i64 0) (.slice H (kn+l) p) (.slice I (vn+m) q) (.slice J (on+n) r) (.slice K (z+A) s));refine bodyPost_ret (v:=.agg (Zs ad 0 H (kn+l) p I (vn+m) q J (on+n) r K (z+A) s)) (by simp[results,results69,go_sem,a5,a6,a7,a8,a9,a']) rfl ?_;exact⟨_,rfl,bX.out,bY.out⟩
 ·refine⟨rfl,rfl,fun P L=>?_,fun c ao aP=>?_,fun k c ay ao cQ aP=>?_,Fr.refl _ _⟩;·simp only[EL,Fy,or_false] at L;rcases L with rfl | rfl | rfl | rfl | rfl | rfl | rfl | rfl | rfl | rfl<;>rfl
  ·have B:c=0∨c=1∨c=2∨c=3:=(by omega);rcases B with rfl | rfl | rfl | rfl<;>exact absurd aP (by decide)
  ·have B:k=0∨k=1∨k=2∨k=3:=(by omega);rcases B with rfl | rfl | rfl | rfl<;>exact absurd aP (by decide)
end Go.Proofs.YtggmghkcdfjdoaaGreat
