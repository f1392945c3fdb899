import Derived.Test.YtggmghkcdfjdoaaGreatHTks
import Derived.Test.YtggmghkcdfjdoaaGreatHTgf
import Derived.Test.YtggmghkcdfjdoaaGreatHTwg
import Derived.Test.YtggmghkcdfjdoaaGreatHTxg
namespace Go.Proofs.YtggmghkcdfjdoaaGreat
open Go.RowKit Tryz
set_option linter.unusedVariables false
set_option linter.unusedSimpArgs false
set_option maxRecDepth 100000
variable {Q Q':Nat->Prop} {b base c:Nat} {css:Nat->List Value} {w w':World} {x:T} {ys:List T}
theorem iL {g n e size:Nat}:∀ (d:List Value) (a:Nat) (w:World) (b:List Value),w.ownsRow base e size (.slice (some ⟨g,0,none⟩) n c) n b->a+d.length<=b.length->(w.setCells g a d).ownsRow base e size (.slice (some ⟨g,0,none⟩) n c) n (b.take a++d++b.drop (a+d.length))∧Fr (fun x=>x=g) w (w.setCells g a d)
 | [],a,w,b,h,_=>⟨by rw[show b.take a++[]++b.drop (a+([]:List Value).length)=b by simp];exact h,Fr.refl _ _⟩
 | v::r,a,w,b,h,hl=>by
  simp only[EU] at hl
  obtain⟨i,j⟩:=h.stored a v
  obtain⟨f,k⟩:=iL r (a+1) (w.setCell ⟨g,a,none⟩ v) _ i (by rw[EP];omega)
  refine⟨?_,(Fr.of_grown j (fun x e=>by cases e;rfl)).trans k⟩
  have l:(b.set a v).take (a+1)=b.take a++[v]:=by
   rw[List.set_eq_take_append_cons_drop,if_pos (by omega),List.take_append,Ey (by simp;omega)];simp[show min a b.length=a by omega]
  have m:(b.set a v).drop (a+1+r.length)=b.drop (a+(r.length+1)):=by
   rw[List.drop_set_of_lt (by omega)]
   congr 1
   omega
  rw[l,m] at f;have o:b.take a++v::r++b.drop (a+(v::r).length)=b.take a++[v]++r++b.drop (a+(r.length+1)):=(by simp);rw[o];exact f
structure OL (w:World) (base:Nat) (Q:Nat->Prop) (ys:List T) (b c:Nat) (css:Nat->List Value):Prop where
 row:w.ownsRow base 57 6 (.slice (some ⟨b,0,none⟩) ys.length c) ys.length (az css ys.length)
 kid:∀ (i:Nat) z,ys[i]?=some z->aL w w.heap.size Q z (css i)
 off:¬ Q b
theorem aL.six {B:Nat} {z:T} {cs:List Value} (h:aL w B Q z cs):cs.length=6:=by
 obtain⟨_,_,_,_,_,_,_,_,_,_,_,_,a,_⟩:=h.out;rw[a];rfl
theorem OL.six (h:OL w base Q ys b c css):∀ a,a<ys.length->(css a).length=6:=fun a d=>(h.kid a _ (Eh d)).six
theorem OL.lt (h:OL w base Q ys b c css):base<=b∧b<w.heap.size:=h.row.lt b rfl
theorem OL.keep (h:OL w base Q ys b c css) (e:∀ a,Q a->a<w.heap.size->w'.heap[a]?=w.heap[a]?) (f:w'.heap[b]?=w.heap[b]?) (g:∀ a,Q a->Q' a) (i:¬ Q' b) (j:w.heap.size<=w'.heap.size):OL w' base Q' ys b c css :=
 ⟨aM h.row (fun a k=>by cases k;exact f),fun l d m=>aL.keep e g j d _ (h.kid l d m),i⟩
theorem OL.below (h:OL w base Q ys b c css) (d:Below w.heap.size w w') (e:∀ a,Q a->Q' a) (f:¬ Q' b):OL w' base Q' ys b c css:=h.keep (fun a _ g=>d.block a g) (d.block b h.lt.2) e f d.size
theorem SN.letters {t:T} {v:Value} (h:SN w Q t v):∃ l m a b c d e f g on i j n k,v=.agg (Zs l m a b c d e f g on i j n k):=by
 obtain⟨a,b,c,d,e,f,g,on,i,j,k,o⟩:=h.shape;exact⟨_,_,a,b,c,d,e,f,g,on,i,j,_,k,o⟩
theorem iF {t:T} {v:Value} (h:SN w Q t v) (a:World):Calls prog 53 #[v] a fun b w'=>b=.returned (.int .i64 t.size)∧Below a.heap.size a w':=by
 obtain⟨c,d,e,f,g,i,j,on,k,l,m,css,rfl,n⟩:=h;exact fV t c d e f g i j on k l m a n.nx.keys.1
def qC (w:World) (b o:Nat) (lf:Bool) (pg:Int) (ka:Option Addr) (kn kc:Nat) (va:Option Addr) (vn vc:Nat) (oa:Option Addr) (on oc:Nat) (ya:Option Addr) (yn yc:Nat):Prop:=w.cell? ⟨b,o,none⟩=some (.bool lf)∧w.cell? ⟨b,o+1,none⟩=some (.int .i64 pg)∧w.cell? ⟨b,o+2,none⟩=some (.slice ka kn kc)∧w.cell? ⟨b,o+3,none⟩=some (.slice va vn vc)∧w.cell? ⟨b,o+4,none⟩=some (.slice oa on oc)∧w.cell? ⟨b,o+5,none⟩=some (.slice ya yn yc)
theorem qC.keep {o:Nat} {d:Bool} {e:Int} {f:Option Addr} {g i:Nat} {j:Option Addr} {k l:Nat} {m:Option Addr} {on n:Nat} {p:Option Addr} {q r:Nat} (h:qC w b o d e f g i j k l m on n p q r) (s:w'.heap[b]?=w.heap[b]?):qC w' b o d e f g i j k l m on n p q r:=by
 have c:∀ x,w'.cell? ⟨b,x,none⟩=w.cell? ⟨b,x,none⟩:=fun x=>Ep (a:=⟨b,x,none⟩) s;obtain⟨t,u,v,y,z,A⟩:=h;exact⟨(c _).trans t,(c _).trans u,(c _).trans v,(c _).trans y,(c _).trans z,(c _).trans A⟩
theorem OL.at (h:OL w base Q ys b c css) {i:Nat} {z:T} (q:ys[i]?=some z):∃ r s e f g j k l m on n o t p,SN w Q z (.agg (Zs r s e f g j k l m on n o t p))∧qC w b (i*6) r s e f g j k l m on n o t p:=by
 have u:=Zc q;obtain⟨e,f,g,j,k,l,m,on,n,o,p,B,v,x⟩:=(h.kid i z q).out;have y:=cu h.six;have a:∀ d,d<6->w.cell? ⟨b,i*6+d,none⟩=(css i)[d]?:=fun d A=>by rw[h.row.cellAt _ (by omega)];exact y.2 i d u A
 rw[v] at a;exact⟨_,_,e,f,g,j,k,l,m,on,n,o,_,p,⟨_,_,_,_,_,_,_,_,_,_,_,_,rfl,x⟩,by simpa using a 0 (by omega),by simpa using a 1 (by omega),by simpa using a 2 (by omega),by simpa using a 3 (by omega),by simpa using a 4 (by omega),by simpa using a 5 (by omega)⟩
theorem OL.thaw (h:OL w base Q ys b c css) (j:Nat):w.frozen? ⟨b,j,none⟩=false:=h.row.frozenAt j
def aK (w:World) (b o:Nat) (u0 u1 u2 u3 u4 u5:Value):World:=(((((w.setCell ⟨b,o,none⟩ u0).setCell ⟨b,o+1,none⟩ u1).setCell ⟨b,o+2,none⟩ u2).setCell ⟨b,o+3,none⟩ u3).setCell ⟨b,o+4,none⟩ u4).setCell ⟨b,o+5,none⟩ u5
theorem OL.set (h:OL w base Q ys b c css) {i:Nat} (I:i<ys.length) {z:T} {a d u2 e f g:Value} (t:SN w Q z (.agg #[a,d,u2,e,f,g])):(∃ u,OL (aK w b (i*6) a d u2 e f g) base Q (ys.set i z) b c u)∧Fr (fun n=>n=b) w (aK w b (i*6) a d u2 e f g):=by
 have o:=h.six;have v:=cu o;obtain⟨p,l⟩:=iL [a,d,u2,e,f,g] (i*6) w _ h.row (by rw[v.1];simp;omega);have q:w.setCells b (i*6) [a,d,u2,e,f,g]=aK w b (i*6) a d u2 e f g:=rfl;rw[q] at p l;have x:=dj o (k:=i) (by omega);have y:=dj o (k:=i+1) (by omega);have A:[a,d,u2,e,f,g]=az (fun _=>[a,d,u2,e,f,g]) 1:=by simp[az]
 rw[show i*6+[a,d,u2,e,f,g].length=(i+1)*6 by simp;omega,x.1,y.2,A,ef,ef,show i+1+(ys.length - (i+1))=ys.length by omega] at p;have B:=l.size;have r:∀ (z:T) m,aL w w.heap.size Q z m->aL (aK w b (i*6) a d u2 e f g) (aK w b (i*6) a d u2 e f g).heap.size Q z m:=fun z m C=>aL.keep (fun n D E=>l.block n E (fun q=>h.off (q ▸ D))) (fun _ h=>h) B z m C;refine⟨⟨_,⟨by rw[EP];exact p,fun j F G=>?_,h.off⟩⟩,l⟩;rcases mL G with ⟨rfl,rfl,_⟩ | ⟨J,s⟩;·simp only[Fs,EO,Nat.lt_succ_self,if_true];exact r _ _ t.nodeQ
 ·have K:=Zc s;have:(if j<i+1 then (if j<i then css j else [a,d,u2,e,f,g]) else css (j - (i+1)+(i+1)))=css j:=by
   by_cases H:j<i;·rw[if_pos (by omega),if_pos H]
   ·rw[if_neg (by omega),show j - (i+1)+(i+1)=j by omega]
  rw[this];exact r _ _ (h.kid j F s)
theorem OL.sl (h:OL w base Q ys b c css) (e:∀ g,Q g->Q' g) (f:∀ g,base<=g->Q' g):SL w Q' ys (.slice (some ⟨b,0,none⟩) ys.length c):=by
 obtain⟨l,m,a,i⟩:=tN (Q:=Q') h.row f (fun j d k=>aL.keep (fun _ _ _=>rfl) e (Ek _) d _ (h.kid j d k));simp only[Value.slice.injEq] at a;obtain⟨rfl,_,rfl⟩:=a;exact⟨_,_,_,rfl,i⟩
theorem eY (h:eQ x) (a:x.size<=900):x.keys.length<=1000∧x.vals.length<=1000∧x.over.length<=1000∧x.kids.length<=1000:=by
 unfold T.size at a;cases b:x.leaf;·obtain⟨c,d,e⟩:=h.2 b;rw[b] at a;simp only[EC,EO] at a;rw[c,d,e];exact⟨by simp,by simp,by simp,by omega⟩
 ·obtain⟨c,d,e⟩:=h.1 b;rw[b] at a;simp only[if_true] at a;rw[c,d,e];exact⟨by omega,by omega,by omega,by simp⟩
theorem eQ.slim (h:eQ x):ml x:=⟨fun a=>⟨(h.1 a).2.2,(h.1 a).1,(h.1 a).2.1⟩,h.2⟩
theorem eQ.rest (h:eQ x) (k:Nat):eQ (x.rest k):=by
 unfold T.rest;refine⟨fun a=>?_,fun a=>?_⟩;·obtain⟨b,c,d⟩:=h.1 a;exact⟨by simp[b],by simp[c],by simp[d]⟩
 ·obtain⟨b,c,d⟩:=h.2 a;exact⟨by simp[b],by simp[c],by simp[d]⟩
theorem eQ.fore (h:eQ x) (k:Nat):eQ (x.fore k):=by
 unfold T.fore;refine⟨fun a=>?_,fun a=>?_⟩;·obtain⟨b,c,d⟩:=h.1 a;exact⟨by simp[b],by simp[c],by simp[d]⟩
 ·obtain⟨b,c,d⟩:=h.2 a;exact⟨by simp[b],by simp[c],by simp[d]⟩
theorem nR (k:Nat):(x.rest k).size<=x.size∧(x.fore k).size<=x.size:=by
 unfold T.size T.rest T.fore;cases x.leaf<;>simp<;>omega
theorem yw {N:Nat} {t:TypeId} {a:Bool} {b:Int} {c:Option Addr} {d e:Nat} {f:Option Addr} {g i:Nat} {j:Option Addr} {on k:Nat} {l:Option Addr} {m n:Nat} (h:w.heap[N]?=some (.cells (Zs a b c d e f g i j on k l m n) t)):qC w N 0 a b c d e f g i j on k l m n:=by
 simp[qC,World.cell?,h]
theorem i9 (w:World) (b o:Nat) (a c u2 d e f:Value):(((((w.setCell ⟨b,o,none⟩ a).setCell ⟨b,o+1,none⟩ c).setCell ⟨b,o+2,none⟩ u2).setCell ⟨b,o+3,none⟩ d).setCell ⟨b,o+4,none⟩ e).setCell ⟨b,o+5,none⟩ f=aK w b o a c u2 d e f:=rfl
def tR (V wx:World) (Q:Nat->Prop) (x1 x2:T) (α β:Nat):Prop:=∃ lf1 pg1 ka1 kn1 kc1 va1 vn1 vc1 oa1 on1 oc1 ya1 yn1 yc1 lf2 pg2 ka2 kn2 iq va2 vn2 vc2 oa2 on2 oc2 ya2 yn2 yc2,V.heap.size<=α∧wx.heap[α]?=some (.cells (Zs lf1 pg1 ka1 kn1 kc1 va1 vn1 vc1 oa1 on1 oc1 ya1 yn1 yc1) 57)∧V.heap.size<=β∧wx.heap[β]?=some (.cells (Zs lf2 pg2 ka2 kn2 iq va2 vn2 vc2 oa2 on2 oc2 ya2 yn2 yc2) 57)∧SN wx (fun g=>Q g∨V.heap.size<=g) x1 (.agg (Zs lf1 pg1 ka1 kn1 kc1 va1 vn1 vc1 oa1 on1 oc1 ya1 yn1 yc1))∧SN wx (fun g=>Q g∨V.heap.size<=g) x2 (.agg (Zs lf2 pg2 ka2 kn2 iq va2 vn2 vc2 oa2 on2 oc2 ya2 yn2 yc2))∧Below V.heap.size V wx
theorem By {c f e:World} {O P:T} {u b d:Nat} {g:Bool} {h:Int} {i:Option Addr} {j k:Nat} {l:Option Addr} {m n:Nat} {o:Option Addr} {p q:Nat} {r:Option Addr} {s t:Nat} {v:Bool} {w:Int} {x:Option Addr} {y iq:Nat} {z:Option Addr} {A B:Nat} {C:Option Addr} {D E:Nat} {F:Option Addr} {G H:Nat} (an:∀ a,Q a->a<c.heap.size) (ao:c.heap.size<=u) (af:SN f (fun a=>Q a∨u<=a) O (.agg (Zs g h i j k l m n o p q r s t))) (ag:SN f (fun a=>Q a∨u<=a) P (.agg (Zs v w x y iq z A B C D E F G H))) (R:Below f.heap.size f e) (S:Below c.heap.size c e) (U:e.heap[b]?=some (.cells (Z0 false 0) 57)) (V:e.heap[d]?=some (.cells (Z0 false 0) 57)) (ah:c.heap.size<=b) (ai:c.heap.size<=d) (W:b≠d) (aj:∀ a,(Q a∨u<=a)->a<f.heap.size->a≠b) (ak:∀ a,(Q a∨u<=a)->a<f.heap.size->a≠d) :
  (bg e b (.bool g) (.int .i64 h) (.slice i j k) (.slice l m n) (.slice o p q) (.slice r s t)).heap[d]?=some (.cells (Z0 false 0) 57)∧Below c.heap.size c (bg e b (.bool g) (.int .i64 h) (.slice i j k) (.slice l m n) (.slice o p q) (.slice r s t))∧tR c (bg (bg e b (.bool g) (.int .i64 h) (.slice i j k) (.slice l m n) (.slice o p q) (.slice r s t)) d (.bool v) (.int .i64 w) (.slice x y iq) (.slice z A B) (.slice C D E) (.slice F G H)) Q O P b d:=by
 have I:=bk e b (.bool g) (.int .i64 h) (.slice i j k) (.slice l m n) (.slice o p q) (.slice r s t);have X:=aV U (.bool g) (.int .i64 h) (.slice i j k) (.slice l m n) (.slice o p q) (.slice r s t);have al:=Za V;have ap:=Za U;have L:=(I.block d al (fun J=>W J.symm)).trans V;generalize bg e b (.bool g) (.int .i64 h) (.slice i j k) (.slice l m n) (.slice o p q) (.slice r s t)=Y at I X L ⊢;have K:=bk Y d (.bool v) (.int .i64 w) (.slice x y iq) (.slice z A B) (.slice C D E) (.slice F G H);have Z:=aV L (.bool v) (.int .i64 w) (.slice x y iq) (.slice z A B) (.slice C D E) (.slice F G H);have aq:=I.size;have M:=S.trans (I.below S.size (fun a J=>by omega));refine⟨L,M,?_⟩;have aa:=(K.block b (by omega) (fun J=>W J)).trans X;generalize bg Y d (.bool v) (.int .i64 w) (.slice x y iq) (.slice z A B) (.slice C D E) (.slice F G H)=am at K Z aa ⊢;have ar:=K.size;have au:=R.size;have ab:∀ a,(Q a∨u<=a)->a<f.heap.size->am.heap[a]?=f.heap[a]?:=fun a ac N=>((K.block a (by omega) (ak a ac N)).trans (I.block a (by omega) (aj a ac N))).trans (R.block a N);have ad:∀ a,(Q a∨u<=a)->(Q a∨c.heap.size<=a):=fun a ae=>ae.imp id (fun ae=>by omega);exact⟨g,h,i,j,k,l,m,n,o,p,q,r,s,t,v,w,x,y,iq,z,A,B,C,D,E,F,G,H,ah,aa,ai,Z,af.keep ab ad (by omega),ag.keep ab ad (by omega),M.trans (K.below M.size (fun a J=>by omega))⟩
set_option maxHeartbeats 8000000 in
theorem Cs {j s:Nat} {d:T} (h:OL w base Q ys b c css) (co:base<=w.heap.size) (bX:∀ a,Q a->a<w.heap.size) (cp:ys.length<=1000) (aS:ys[j]?=some x) (aT:ys[j+1]?=some d) (aU:x.size=s+1) (aw:2<=s) (da:s<=400) (bY:d.size<=400) (bZ:eQ x) (b0:eQ d) :
  Calls prog 71 #[.slice (some ⟨b,0,none⟩) ys.length c,.int .i64 ((j:Int)+1)] w fun l w'=>∃ b1,l=.returned b1∧SL w' (fun a=>Q a∨base<=a) ((ys.set j (x.fore s)).set (j+1) (ag (x.rest s) d)) b1∧Below base w w':=by
 obtain⟨ax,aV⟩:=Zn ys.length;have aW:=hidI aV;have db:j+1<ax:=by have:=Zc aT;omega
 have aX:ax<=c∧c<=maxLen:=by
  rcases h.row.2 with ⟨l,dc⟩ | ⟨a,dd,de,l,_,_,df,cq,_⟩;·cases l
  ·simp only[Value.slice.injEq] at l;obtain⟨_,_,rfl⟩:=l;exact⟨by omega,cq⟩
 have dg:=aX.1;have cr:=aX.2;unfold maxLen at cr;obtain⟨aY,aZ,a0,a1,a2,a3,a4,a5,a6,a7,a8,a9,a',ba,bb,cs⟩:=h.at aS;have ae:=h.lt.2;have bc:=iF bb w;rw[aU] at bc;have bd:=hidI h;have ak:Hid (ys[j]?=some x∧ys[j+1]?=some d∧eQ x∧eQ d∧x.size=s+1∧d.size<=400):=⟨aS,aT,bZ,b0,aU,bY⟩;have b2:=hidI bX;have dh:(2:Int)<((s+1:Nat):Int):=by omega
 rw[aV];obtain⟨b3,b4,b5,b6,p4,b7⟩:=cs;have b8:Hid (qC w b (j*6) aY aZ a0 a1 a2 a3 a4 a5 a6 a7 a8 a9 a' ba):=⟨b3,b4,b5,b6,p4,b7⟩;have b9:=hidI bb;clear h aS aT aU bY bZ b0 bX cp aV aX bb;go_enter func71,ntmps71;go_wp2_with fail
 refine bc.mono ?_;rintro l q ⟨rfl,al⟩;have di:=al.size;have be:=hidI (bd.out.below al (fun _ h=>h) bd.out.off);have bf:=hidI (b8.out.keep (al.block b ae));have b':=hidI (b9.out.below al);have bh:Hid (∀ a,Q a->a<q.heap.size):=fun a aa=>by have:=b2.out a aa;omega
 have ct:=hidI al;have cu:base<=q.heap.size:=by omega
 have dj:=ae;replace ae:b<q.heap.size:=by omega
 clear bc b3 b4 b5 b6 p4 b7 b8 b9 al b2 bd;have ca:Hid (∀ Y,Calls prog 53 #[.agg (Zs aY aZ a0 a1 a2 a3 a4 a5 a6 a7 a8 a9 a' ba)] Y fun l w'=>l=.returned (.int .i64 ((s+1:Nat):Int))∧Below Y.heap.size Y w'):=fun Y=>by have:=iF b'.out Y;rw[ak.out.2.2.2.2.1] at this;exact this
 have cb:Hid (∀ Y,Below q.heap.size q Y->Calls prog 68 #[.agg (Zs aY aZ a0 a1 a2 a3 a4 a5 a6 a7 a8 a9 a' ba),.int .i64 s] Y fun l w'=>ye Y Q x s l w'):=fun Y cv=>cJ (b'.out.below cv) ak.out.2.2.1.slim s (by have:=ak.out.2.2.2.2.1;omega) (by have:=ak.out.2.2.2.2.1;omega);go_upto_region 4 with fail
 go_cut [6,7] (fun cw cx cy=>∃ (r g:Nat),cw=.pointer (some ⟨r,0,none⟩)∧cx=.pointer (some ⟨g,0,none⟩)∧Hid (tR q cy Q (x.fore s) (x.rest s) r g))
 case first =>
  go_wp2_with fail
  have m:Below q.heap.size q q.drew:=(Ev _ _).drew;refine Zg (fun w':World=>Below q.heap.size q w') (m) (fun v=>?_);clear v;generalize q.drew=n at m ⊢;have v:=m;refine Zx .a0 ?_;refine Zx .a4 ?_;refine Zx .a1 ?_;refine Zx .a5 ?_;try simp only[Zq]
  refine Zw (.pointer (some ⟨b,j*6,none⟩)) .a2 ?_ ?_;·intro ab t;go_simp;intro bi;omega
  refine Zw (.pointer (some ⟨b,j*6,none⟩)) .a6 ?_ ?_;·intro ab t;go_simp;intro bi;omega
  refine Zy .a3 (fun ab t=>by (try dsimp only at t);obtain⟨O,P,R,S,U,V⟩:=bf.out.keep (t.block b ae);have cz:b<ab.heap.size:=Er ae t.size;go_simp;rfl) ?_;refine Zy .a7 (fun ab t=>by (try dsimp only at t);obtain⟨O,P,R,S,U,V⟩:=bf.out.keep (t.block b ae);have cz:b<ab.heap.size:=Er ae t.size;go_simp;rfl) ?_;try simp only[Zq]
  iterate 4 all_goals
   first
   | have:=mkd8;have:=mkd10;have:=mkd14;refine Zr [15] (rdB .nil (.t .a5) (fun f e k=>?_))
   | have:=mkd8;have:=mkd10;have:=mkd15;refine Zr [14] (rdB .nil (.t .a4) (fun f e k=>?_))
   | have:=mkd8;have:=mkd14;have:=mkd15;refine Zr [10] (rdB .nil (.t .a0) (fun f e k=>?_))
   | have:=mkd8;have:=mkd10;refine Zr [14,15] (rdB (rdB .nil (.t .a5) (fun f e k=>?_)) (.t .a4) (fun f e k=>?_))
   | have:=mkd8;have:=mkd14;refine Zr [10,15] (rdB (rdB .nil (.t .a5) (fun f e k=>?_)) (.t .a0) (fun f e k=>?_))
   | have:=mkd8;have:=mkd15;refine Zr [10,14] (rdB (rdB .nil (.t .a4) (fun f e k=>?_)) (.t .a0) (fun f e k=>?_))
   | have:=mkd14;have:=mkd15;refine Zr [8] (rdB .nil .a8 (fun f e k=>?_))
   | have:=mkd8;refine Zr [10,14,15] (rdB (rdB (rdB .nil (.t .a5) (fun f e k=>?_)) (.t .a4) (fun f e k=>?_)) (.t .a0) (fun f e k=>?_))
   | have:=mkd14;refine Zr [8,15] (rdB (rdB .nil (.t .a5) (fun f e k=>?_)) .a8 (fun f e k=>?_))
   | have:=mkd15;refine Zr [8,14] (rdB (rdB .nil (.t .a4) (fun f e k=>?_)) .a8 (fun f e k=>?_))
   | refine Zr [8,14,15] (rdB (rdB (rdB .nil (.t .a5) (fun f e k=>?_)) (.t .a4) (fun f e k=>?_)) .a8 (fun f e k=>?_))
   all_goals first
   |
    have mkd8:Mk 8:=k;clear k;go_simp;refine (ca.out n).mono ?_;rintro l n ⟨rfl,ao⟩;(go_wp2_with fail);(try replace o:=(ao.block r (Za o)).trans o);(try replace p:=(ao.block g (Za p)).trans p);(try replace u:=u.trans (ao.mono u.size));replace m:=m.trans (ao.mono m.size);clear ao;refine e.out _ _ (m) (fun v=>?_);clear e f;refine Zw (.int .i64 (s:Int)) .a9 ?_ ?_;·intro ab t;go_simp;rw[Fa];omega
    try simp only[Zq]
   |
    have mkd10:Mk 10:=k;clear k;go_simp;refine (cb.out n m).mono ?_;rintro l Z ⟨dk,dl,rfl,ai,aj,ay⟩;obtain⟨bj,bk,bl,bm,bn,bo,bp,bq,br,bs,bt,bu,bv,bw,rfl⟩:=ai.letters;obtain⟨az,aA,aB,aC,iq,aD,aE,aF,aG,aH,aI,aJ,aL,aM,rfl⟩:=aj.letters;(go_wp2_with fail);obtain⟨ap,bx⟩:=Zn n.heap.size;have cA:q.heap.size<=ap:=(by rw[<-bx];exact m.size);rw[bx] at ai aj;(try have cc:=Za o);(try have bz:∀ a,(Q a∨ap<=a)->a<Z.heap.size->a≠r:=fun a W aw=>by rcases W with W | W;(have:=bh.out a W;omega);omega);(try replace o:=(ay.block r cc).trans o);(try have cB:=Za p);(try have bA:∀ a,(Q a∨ap<=a)->a<Z.heap.size->a≠g:=fun a W aw=>by rcases W with W | W;(have:=bh.out a W;omega);omega);(try replace p:=(ay.block g cB).trans p);replace m:=m.trans (ay.mono m.size);have u:Below Z.heap.size Z Z:=Ev _ _;have cC:=hidI ai;have cE:=hidI aj;clear ay ai aj bx;obtain⟨n,ac⟩:∃ n,n=Z:=⟨_,rfl⟩;rw[<-ac] at m ⊢;(try rw[<-ac] at o);(try rw[<-ac] at p);replace u:Below Z.heap.size Z n:=ac ▸ u;clear ac;refine e.out _ _ (m) (fun v=>?_);clear e f;refine Zx (.t .a1) ?_;refine Zx (.t .a2) ?_;refine Zx (.t .a3) ?_;try simp only[Zq]
   |
    have mkd14:Mk 14:=k;clear k;go_simp;have o:=Ej n (.cells (Z0 false 0) 57);have X:Below n.heap.size n (n.alloc (.cells (Z0 false 0) 57)):=Zb _ _;have cd:=m.size;obtain⟨r,au⟩:∃ r,r=n.heap.size:=⟨_,rfl⟩;rw[<-au] at o cd ⊢;(try have bz:∀ a,(Q a∨ap<=a)->a<Z.heap.size->a≠r:=fun a W aw=>by have:=u.size;omega);(try have bB:g≠r:=by have:=Za p;omega);generalize n.alloc (.cells (Z0 false 0) 57)=n at o X ⊢;(try replace p:=(X.block g (Za p)).trans p);(try replace u:=u.trans (X.mono u.size));replace m:=m.trans (X.mono m.size);clear au X;refine e.out _ _ (m) (fun v=>?_);clear e f;try simp only[Zq]
   |
    have mkd15:Mk 15:=k;clear k;go_simp;have p:=Ej n (.cells (Z0 false 0) 57);have X:Below n.heap.size n (n.alloc (.cells (Z0 false 0) 57)):=Zb _ _;have ce:=m.size;obtain⟨g,au⟩:∃ g,g=n.heap.size:=⟨_,rfl⟩;rw[<-au] at p ce ⊢;(try have bA:∀ a,(Q a∨ap<=a)->a<Z.heap.size->a≠g:=fun a W aw=>by have:=u.size;omega);(try have bB:r≠g:=by have:=Za o;omega);generalize n.alloc (.cells (Z0 false 0) 57)=n at p X ⊢;(try replace o:=(X.block r (Za o)).trans o);(try replace u:=u.trans (X.mono u.size));replace m:=m.trans (X.mono m.size);clear au X;refine e.out _ _ (m) (fun v=>?_);clear e f;try simp only[Zq]
  all_goals
   refine Zr [16] ?_;refine rdA (.t .a6) (fun f e=>?_) Ei;have cF:r≠g:=(by first | exact bB | exact bB.symm);obtain⟨af,am,av⟩:=By bh.out cA cC.out cE.out u m o p cd ce cF bz bA;have ah:Hid (tR q _ Q (x.fore s) (x.rest s) r g):=av;have dm:=ar o;obtain⟨O,P,R,S,U,V⟩:=aq o;have dn:=Za o;go_simp;clear O P R S U V;rw[cD];generalize cG:bg n r (.bool bj) (.int .i64 bk) (.slice bl bm bn) (.slice bo bp bq) (.slice br bs bt) (.slice bu bv bw)=cH at af am ah ⊢;clear cG;refine e.out _ _ (am) (fun v=>?_);clear e f;try simp only[Zq]
   refine Zr [17] ?_;refine rdA (.t .a7) (fun f e=>?_) Ei;have dp:=ar af;obtain⟨O,P,R,S,U,V⟩:=aq af;have dq:=Za af;go_simp;clear O P R S U V;rw[cD];generalize bg cH g (.bool az) (.int .i64 aA) (.slice aB aC iq) (.slice aD aE aF) (.slice aG aH aI) (.slice aJ aL aM)=dr at ah ⊢;refine e.out _ _ (by obtain⟨_,_,_,_,_,_,_,_,_,_,_,_,_,_,_,_,_,_,_,_,_,_,_,_,_,_,_,_,_,_,_,_,_,_,cK⟩:=ah.out;exact cK) (fun v=>?_);clear e f;try simp only[Zq]
   refine Zd ?_;clear v af am o p m u bz bA;go_wp2_with fail
   go_meet
   exact⟨r,g,rfl,rfl,ah⟩
 case rest =>
  obtain⟨r,g,rfl,rfl,cf⟩:=hcut;obtain⟨bj,bk,bl,bm,bn,bo,bp,bq,br,bs,bt,bu,bv,bw,az,aA,aB,aC,iq,aD,aE,aF,aG,aH,aI,aJ,aL,aM,ds,o,dt,p,ai,aj,aN⟩:=cf.out;have du:=aN.size;have dv:=be.out.lt.1;have bC:¬ (Q b∨q.heap.size<=b):=fun l=>l.elim be.out.off (fun l=>by omega);have bD:OL wc base (fun a=>Q a∨q.heap.size<=a) ys b c css:=be.out.below aN (fun a h=>.inl h) bC;obtain⟨⟨dw,aO⟩,an⟩:=bD.set (i:=j) (by rw[aW.out];omega) ai;obtain⟨cL,cM,cN,cO,cP,cQ⟩:=aq o;have cc:=Za o;have dx:b<wc.heap.size:=(by omega);obtain⟨cR,cS,cT,cU,cV,cW⟩:=bf.out.keep (aN.block b ae);have cX:=bD.thaw;clear cf ca cb;go_upto_region 6 with fail
  rw[i9];clear cL cM cN cO cP cQ cR cS cT cU cV cW cX;have cg:=an.size;have bE:=(an.block g (Za p) (fun l=>by omega)).trans p;have bF:SN _ (fun a=>Q a∨q.heap.size<=a) (x.rest s) (.agg (Zs az aA aB aC iq aD aE aF aG aH aI aJ aL aM)):=aj.keep (fun a aa cY=>an.block a cY (fun l=>bC (l ▸ aa))) (fun _ h=>h) cg;have ch:=(ct.out.mono co).trans (aN.mono cu);have aP:=ch.trans (an.below (by omega) (fun a l=>by omega));generalize aK wc b (j*6) (.bool bj) (.int .i64 bk) (.slice bl bm bn) (.slice bo bp bq) (.slice br bs bt) (.slice bu bv bw)=z at aO an cg bE bF aP ⊢;have cZ:(ys.set j (x.fore s))[j+1]?=some d:=(by rw[Fl (by omega)];exact ak.out.2.1);obtain⟨bG,bH,bI,bJ,bK,bL,bM,bN,bO,bP,bQ,bR,bS,bT,ci,bU⟩:=aO.at cZ;have c0:Hid (qC z.drew b ((j+1)*6) bG bH bI bJ bK bL bM bN bO bP bQ bR bS bT):=bU.keep rfl;have aQ:=Za bE;have cj:b<z.heap.size:=(by omega);have ac:=ak.out;have aR:Below z.heap.size z z.drew:=(Ev _ _).drew;have ck:=cI (bF.below aR) (ci.below aR) (eY (ac.2.2.1.rest s) (by have:=(nR (x:=x) s).1;omega)) (eY ac.2.2.2.1 (by omega));have c1:Hid (Calls prog 69 #[.agg (Zs az aA aB aC iq aD aE aF aG aH aI aJ aL aM),.agg (Zs bG bH bI bJ bK bL bM bN bO bP bQ bR bS bT)] z.drew fun l y=>∃ A B C D E F G H I J K L M N,l=.returned (.agg (Zs A B C D E F G H I J K L M N))∧Below z.heap.size z y∧b<y.heap.size∧(qC y b ((j+1)*6) bG bH bI bJ bK bL bM bN bO bP bQ bR bS bT∧∀ c2,y.frozen? ⟨b,c2,none⟩=false)∧Hid (SL (aK y b ((j+1)*6) (.bool A) (.int .i64 B) (.slice C D E) (.slice F G H) (.slice I J K) (.slice L M N)) (fun a=>Q a∨base<=a) ((ys.set j (x.fore s)).set (j+1) (ag (x.rest s) d)) (.slice (some ⟨b,0,none⟩) ax c)∧Below base w (aK y b ((j+1)*6) (.bool A) (.int .i64 B) (.slice C D E) (.slice F G H) (.slice I J K) (.slice L M N))∧(aK y b ((j+1)*6) (.bool A) (.int .i64 B) (.slice C D E) (.slice F G H) (.slice I J K) (.slice L M N)).heap[g]?=z.heap[g]?∧g<(aK y b ((j+1)*6) (.bool A) (.int .i64 B) (.slice C D E) (.slice F G H) (.slice I J K) (.slice L M N)).heap.size)):=(by refine ck.mono ?_;rintro l y ⟨dy,rfl,cl,c3⟩;have ad:=aR.trans c3;obtain⟨A,B,C,D,E,F,G,H,I,J,K,L,M,N,rfl⟩:=cl.letters;have c4:=ad.size;have cm:=aO.below ad (fun _ h=>h) bC;have c5:SN y (fun a=>Q a∨q.heap.size<=a) (ag (x.rest s) d) (.agg (Zs A B C D E F G H I J K L M N)):=cl.mono (fun a aa=>aa.elim id (fun h=>.inr (by have dz:z.heap.size<=a:=h;omega)));obtain⟨⟨dA,c6⟩,bV⟩:=cm.set (i:=j+1) (by rw[EP,aW.out];omega) c5;have dB:=bV.size;have cn:=c6.sl (Q':=fun a=>Q a∨base<=a) (fun a aa=>aa.imp id (fun h=>by omega)) (fun a aa=>.inr aa);rw[EP,EP,aW.out] at cn;exact⟨A,B,C,D,E,F,G,H,I,J,K,L,M,N,rfl,ad,by omega,⟨bU.keep (ad.block b cj),cm.thaw⟩,cn,(aP.trans (ad.mono (by have:=aP.size;omega))).trans (bV.below (by omega) (fun a l=>by omega)),(bV.block g (by omega) (fun l=>by omega)).trans (ad.block g aQ),by omega⟩);clear ck ci bU aO an aj bF ai bD o ac aR ch aP p;refine Zg (fun w':World=>w'.heap[g]?=z.heap[g]?∧g<w'.heap.size) (⟨rfl,aQ⟩) (fun v=>?_);refine Zx .a0 ?_;refine Zx .a1 ?_;refine Zy .a2 (fun ab t=>by (try dsimp only at t);obtain⟨O,P,R,S,U,V⟩:=(yw bE).keep t.1;have dC:=t.2;(try simp only[EK] at O P R S U V);go_simp;rfl) ?_;refine Zx .a3 ?_;try simp only[Zq]
  refine Zx .a4 ?_;refine Zw (.pointer (some ⟨b,(j+1)*6,none⟩)) .a5 ?_ ?_;·intro ab t;go_simp;intro bi;omega
  try simp only[Zq]
  refine Zr [6] ?_;refine rdA .a6 (fun f e=>?_) Ei;obtain⟨O,P,R,S,U,V⟩:=c0.out;have c7:b<z.drew.heap.size:=cj;go_simp;clear O P R S U V c7;refine e.out _ _ (⟨rfl,aQ⟩) (fun v=>?_);clear e f;try simp only[Zq]
  refine Zr [7] ?_;refine rdA .a7 (fun f e=>?_) Ei;go_simp;refine c1.out.mono ?_;rintro l y ⟨A,B,C,D,E,F,G,H,I,J,K,L,M,N,rfl,ad,dD,c8,c9⟩;go_wp2_with fail
  have c4:=ad.size;refine e.out _ _ (⟨ad.block g aQ,by omega⟩) (fun v=>?_);clear e f;refine Zw (.pointer (some ⟨b,(j+1)*6,none⟩)) .a8 ?_ ?_;·intro ab t;go_simp;intro bi;omega
  try simp only[Zq]
  refine Zr [9] ?_;refine rdA .a9 (fun f e=>?_) Ei;obtain⟨af,am,av,bW⟩:=c9.out;have ah:Hid (SL (aK y b ((j+1)*6) (.bool A) (.int .i64 B) (.slice C D E) (.slice F G H) (.slice I J K) (.slice L M N)) (fun a=>Q a∨base<=a) ((ys.set j (x.fore s)).set (j+1) (ag (x.rest s) d)) (.slice (some ⟨b,0,none⟩) ax c)∧Below base w (aK y b ((j+1)*6) (.bool A) (.int .i64 B) (.slice C D E) (.slice F G H) (.slice I J K) (.slice L M N))):=⟨af,am⟩;obtain⟨⟨O,P,R,S,U,V⟩,c'⟩:=c8;go_simp;clear O P R S U V c';rw[i9];generalize aK y b ((j+1)*6) (.bool A) (.int .i64 B) (.slice C D E) (.slice F G H) (.slice I J K) (.slice L M N)=dE at ah av bW ⊢;refine e.out _ _ (⟨av,bW⟩) (fun v=>?_);clear e f;try simp only[Zq]
  refine Zd ?_;clear v af am av bW;go_wp2_with fail
  go_ret;exact⟨_,rfl,ah.out.1,ah.out.2⟩
end Go.Proofs.YtggmghkcdfjdoaaGreat
