import Derived.Test.YtgcedpmagmmikaaGreatHTks
import Derived.Test.YtgcedpmagmmikaaGreatHTgg
import Derived.Test.YtgcedpmagmmikaaGreatHTdv
import Derived.Test.YtgcedpmagmmikaaGreatHTwg
namespace Go.Proofs.YtgcedpmagmmikaaGreat
open Go.RowKit Tryz
set_option linter.unusedVariables false
set_option linter.unusedSimpArgs false
set_option maxRecDepth 100000
variable {Q Q':Nat->Prop} {b base c:Nat} {css:Nat->List Value} {w w':World} {x:T} {ys:List T}
theorem iL {g n e size:Nat}:∀ (d:List Value) (a:Nat) (w:World) (b:List Value),w.ownsRow base e size (.slice (some ⟨g,0,none⟩) n c) n b->a+d.length<=b.length->(w.setCells g a d).ownsRow base e size (.slice (some ⟨g,0,none⟩) n c) n (b.take a++d++b.drop (a+d.length))∧Fr (fun x=>x=g) w (w.setCells g a d)
 | [],a,w,b,h,_=>⟨by rw[show b.take a++[]++b.drop (a+([]:List Value).length)=b by simp];exact h,Fr.refl _ _⟩
 | v::r,a,w,b,h,hl=>by
  simp only[Eq] at hl
  obtain⟨i,j⟩:=h.stored a v
  obtain⟨f,k⟩:=iL r (a+1) (w.setCell ⟨g,a,none⟩ v) _ i (by rw[Em];omega)
  refine⟨?_,(Fr.of_grown j (fun x e=>by cases e;rfl)).trans k⟩
  have l:(b.set a v).take (a+1)=b.take a++[v]:=by
   rw[List.set_eq_take_append_cons_drop,if_pos (by omega),List.take_append,D6 (by simp;omega)];simp[show min a b.length=a by omega]
  have m:(b.set a v).drop (a+1+r.length)=b.drop (a+(r.length+1)):=by
   rw[List.drop_set_of_lt (by omega)]
   congr 1
   omega
  rw[l,m] at f;have o:b.take a++v::r++b.drop (a+(v::r).length)=b.take a++[v]++r++b.drop (a+(r.length+1)):=(by simp);rw[o];exact f
structure OL (w:World) (base:Nat) (Q:Nat->Prop) (ys:List T) (b c:Nat) (css:Nat->List Value):Prop where
 row:w.ownsRow base 55 6 (.slice (some ⟨b,0,none⟩) ys.length c) ys.length (az css ys.length)
 kid:∀ (i:Nat) z,ys[i]?=some z->aL w w.heap.size Q z (css i)
 off:¬ Q b
theorem aL.six {B:Nat} {z:T} {cs:List Value} (h:aL w B Q z cs):cs.length=6:=by
 obtain⟨_,_,_,_,_,_,_,_,_,_,_,_,a,_⟩:=h.out;rw[a];rfl
theorem OL.six (h:OL w base Q ys b c css):∀ a,a<ys.length->(css a).length=6:=fun a d=>(h.kid a _ (DQ d)).six
theorem OL.lt (h:OL w base Q ys b c css):base<=b∧b<w.heap.size:=h.row.lt b rfl
theorem OL.keep (h:OL w base Q ys b c css) (e:∀ a,Q a->a<w.heap.size->w'.heap[a]?=w.heap[a]?) (f:w'.heap[b]?=w.heap[b]?) (g:∀ a,Q a->Q' a) (i:¬ Q' b) (j:w.heap.size<=w'.heap.size):OL w' base Q' ys b c css :=
 ⟨aM h.row (fun a k=>by cases k;exact f),fun l d m=>aL.keep e g j d _ (h.kid l d m),i⟩
theorem OL.below (h:OL w base Q ys b c css) (d:Below w.heap.size w w') (e:∀ a,Q a->Q' a) (f:¬ Q' b):OL w' base Q' ys b c css:=h.keep (fun a _ g=>d.block a g) (d.block b h.lt.2) e f d.size
theorem SN.letters {t:T} {v:Value} (h:SN w Q t v):∃ l m a b c d e f g on i j n k,v=.agg (Zs l m a b c d e f g on i j n k):=by
 obtain⟨a,b,c,d,e,f,g,on,i,j,k,o⟩:=h.shape;exact⟨_,_,a,b,c,d,e,f,g,on,i,j,_,k,o⟩
theorem iF {t:T} {v:Value} (h:SN w Q t v) (a:World):Calls prog 41 #[v] a fun b w'=>b=.returned (.int .i64 t.size)∧Below a.heap.size a w':=by
 obtain⟨c,d,e,f,g,i,j,on,k,l,m,css,rfl,n⟩:=h;exact fV t c d e f g i j on k l m a n.nx.keys.1
def qC (w:World) (b o:Nat) (lf:Bool) (pg:Int) (ka:Option Addr) (kn kc:Nat) (va:Option Addr) (vn vc:Nat) (oa:Option Addr) (on oc:Nat) (ya:Option Addr) (yn yc:Nat):Prop:=w.cell? ⟨b,o,none⟩=some (.bool lf)∧w.cell? ⟨b,o+1,none⟩=some (.int .i64 pg)∧w.cell? ⟨b,o+2,none⟩=some (.slice ka kn kc)∧w.cell? ⟨b,o+3,none⟩=some (.slice va vn vc)∧w.cell? ⟨b,o+4,none⟩=some (.slice oa on oc)∧w.cell? ⟨b,o+5,none⟩=some (.slice ya yn yc)
theorem qC.keep {o:Nat} {d:Bool} {e:Int} {f:Option Addr} {g i:Nat} {j:Option Addr} {k l:Nat} {m:Option Addr} {on n:Nat} {p:Option Addr} {q r:Nat} (h:qC w b o d e f g i j k l m on n p q r) (s:w'.heap[b]?=w.heap[b]?):qC w' b o d e f g i j k l m on n p q r:=by
 have c:∀ x,w'.cell? ⟨b,x,none⟩=w.cell? ⟨b,x,none⟩:=fun x=>DZ (a:=⟨b,x,none⟩) s;obtain⟨t,u,v,y,z,A⟩:=h;exact⟨(c _).trans t,(c _).trans u,(c _).trans v,(c _).trans y,(c _).trans z,(c _).trans A⟩
theorem OL.at (h:OL w base Q ys b c css) {i:Nat} {z:T} (q:ys[i]?=some z):∃ r s e f g j k l m on n o t p,SN w Q z (.agg (Zs r s e f g j k l m on n o t p))∧qC w b (i*6) r s e f g j k l m on n o t p:=by
 have u:=Zc q;obtain⟨e,f,g,j,k,l,m,on,n,o,p,B,v,x⟩:=(h.kid i z q).out;have y:=cu h.six;have a:∀ d,d<6->w.cell? ⟨b,i*6+d,none⟩=(css i)[d]?:=fun d A=>by rw[h.row.cellAt _ (by omega)];exact y.2 i d u A
 rw[v] at a;exact⟨_,_,e,f,g,j,k,l,m,on,n,o,_,p,⟨_,_,_,_,_,_,_,_,_,_,_,_,rfl,x⟩,by simpa using a 0 (by omega),by simpa using a 1 (by omega),by simpa using a 2 (by omega),by simpa using a 3 (by omega),by simpa using a 4 (by omega),by simpa using a 5 (by omega)⟩
theorem OL.thaw (h:OL w base Q ys b c css) (j:Nat):w.frozen? ⟨b,j,none⟩=false:=h.row.frozenAt j
def aK (w:World) (b o:Nat) (u0 u1 u2 u3 u4 u5:Value):World:=(((((w.setCell ⟨b,o,none⟩ u0).setCell ⟨b,o+1,none⟩ u1).setCell ⟨b,o+2,none⟩ u2).setCell ⟨b,o+3,none⟩ u3).setCell ⟨b,o+4,none⟩ u4).setCell ⟨b,o+5,none⟩ u5
theorem OL.set (h:OL w base Q ys b c css) {i:Nat} (I:i<ys.length) {z:T} {a d u2 e f g:Value} (t:SN w Q z (.agg #[a,d,u2,e,f,g])):(∃ u,OL (aK w b (i*6) a d u2 e f g) base Q (ys.set i z) b c u)∧Fr (fun n=>n=b) w (aK w b (i*6) a d u2 e f g):=by
 have o:=h.six;have v:=cu o;obtain⟨p,l⟩:=iL [a,d,u2,e,f,g] (i*6) w _ h.row (by rw[v.1];simp;omega);have q:w.setCells b (i*6) [a,d,u2,e,f,g]=aK w b (i*6) a d u2 e f g:=rfl;rw[q] at p l;have x:=dj o (k:=i) (by omega);have y:=dj o (k:=i+1) (by omega);have A:[a,d,u2,e,f,g]=az (fun _=>[a,d,u2,e,f,g]) 1:=by simp[az]
 rw[show i*6+[a,d,u2,e,f,g].length=(i+1)*6 by simp;omega,x.1,y.2,A,ef,ef,show i+1+(ys.length - (i+1))=ys.length by omega] at p;have B:=l.size;have r:∀ (z:T) m,aL w w.heap.size Q z m->aL (aK w b (i*6) a d u2 e f g) (aK w b (i*6) a d u2 e f g).heap.size Q z m:=fun z m C=>aL.keep (fun n D E=>l.block n E (fun q=>h.off (q ▸ D))) (fun _ h=>h) B z m C;refine⟨⟨_,⟨by rw[Em];exact p,fun j F G=>?_,h.off⟩⟩,l⟩;rcases mL G with ⟨rfl,rfl,_⟩ | ⟨J,s⟩;·simp only[ES,En,Nat.lt_succ_self,if_true];exact r _ _ t.nodeQ
 ·have K:=Zc s;have:(if j<i+1 then (if j<i then css j else [a,d,u2,e,f,g]) else css (j - (i+1)+(i+1)))=css j:=by
   by_cases H:j<i;·rw[if_pos (by omega),if_pos H]
   ·rw[if_neg (by omega),show j - (i+1)+(i+1)=j by omega]
  rw[this];exact r _ _ (h.kid j F s)
theorem OL.sl (h:OL w base Q ys b c css) (e:∀ g,Q g->Q' g) (f:∀ g,base<=g->Q' g):SL w Q' ys (.slice (some ⟨b,0,none⟩) ys.length c):=by
 obtain⟨l,m,a,i⟩:=tN (Q:=Q') h.row f (fun j d k=>aL.keep (fun _ _ _=>rfl) e (DU _) d _ (h.kid j d k));simp only[Value.slice.injEq] at a;obtain⟨rfl,_,rfl⟩:=a;exact⟨_,_,_,rfl,i⟩
theorem eY (h:eQ x) (a:x.size<=900):x.keys.length<=1000∧x.vals.length<=1000∧x.over.length<=1000∧x.kids.length<=1000:=by
 unfold T.size at a;cases b:x.leaf;·obtain⟨c,d,e⟩:=h.2 b;rw[b] at a;simp only[Ee,En] at a;rw[c,d,e];exact⟨by simp,by simp,by simp,by omega⟩
 ·obtain⟨c,d,e⟩:=h.1 b;rw[b] at a;simp only[if_true] at a;rw[c,d,e];exact⟨by omega,by omega,by omega,by simp⟩
theorem eQ.slim (h:eQ x):ml x:=⟨fun a=>⟨(h.1 a).2.2,(h.1 a).1,(h.1 a).2.1⟩,h.2⟩
theorem eQ.rest (h:eQ x) (k:Nat):eQ (x.rest k):=by
 unfold T.rest;refine⟨fun a=>?_,fun a=>?_⟩;·obtain⟨b,c,d⟩:=h.1 a;exact⟨by simp[b],by simp[c],by simp[d]⟩
 ·obtain⟨b,c,d⟩:=h.2 a;exact⟨by simp[b],by simp[c],by simp[d]⟩
theorem eQ.fore (h:eQ x) (k:Nat):eQ (x.fore k):=by
 unfold T.fore;refine⟨fun a=>?_,fun a=>?_⟩;·obtain⟨b,c,d⟩:=h.1 a;exact⟨by simp[b],by simp[c],by simp[d]⟩
 ·obtain⟨b,c,d⟩:=h.2 a;exact⟨by simp[b],by simp[c],by simp[d]⟩
theorem nR (k:Nat):(x.rest k).size<=x.size∧(x.fore k).size<=x.size:=by
 unfold T.size T.rest T.fore;cases x.leaf<;>simp<;>omega
theorem yw {N:Nat} {t:TypeId} {a:Bool} {b:Int} {c:Option Addr} {d e:Nat} {f:Option Addr} {g i:Nat} {j:Option Addr} {on k:Nat} {l:Option Addr} {m n:Nat} (h:w.heap[N]?=some (.cells (Zs a b c d e f g i j on k l m n) t)):qC w N 0 a b c d e f g i j on k l m n:=by
 simp[qC,World.cell?,h]
theorem i9 (w:World) (b o:Nat) (a c u2 d e f:Value):(((((w.setCell ⟨b,o,none⟩ a).setCell ⟨b,o+1,none⟩ c).setCell ⟨b,o+2,none⟩ u2).setCell ⟨b,o+3,none⟩ d).setCell ⟨b,o+4,none⟩ e).setCell ⟨b,o+5,none⟩ f=aK w b o a c u2 d e f:=rfl
def tR (V wx:World) (Q:Nat->Prop) (x1 x2:T) (α β:Nat):Prop:=∃ lf1 pg1 ka1 kn1 kc1 va1 vn1 vc1 oa1 on1 oc1 ya1 yn1 yc1 lf2 pg2 ka2 kn2 iq va2 vn2 vc2 oa2 on2 oc2 ya2 yn2 yc2,V.heap.size<=α∧wx.heap[α]?=some (.cells (Zs lf1 pg1 ka1 kn1 kc1 va1 vn1 vc1 oa1 on1 oc1 ya1 yn1 yc1) 55)∧V.heap.size<=β∧wx.heap[β]?=some (.cells (Zs lf2 pg2 ka2 kn2 iq va2 vn2 vc2 oa2 on2 oc2 ya2 yn2 yc2) 55)∧SN wx (fun g=>Q g∨V.heap.size<=g) x1 (.agg (Zs lf1 pg1 ka1 kn1 kc1 va1 vn1 vc1 oa1 on1 oc1 ya1 yn1 yc1))∧SN wx (fun g=>Q g∨V.heap.size<=g) x2 (.agg (Zs lf2 pg2 ka2 kn2 iq va2 vn2 vc2 oa2 on2 oc2 ya2 yn2 yc2))∧Below V.heap.size V wx
theorem By {b f e:World} {P R:T} {u c d:Nat} {g:Bool} {h:Int} {i:Option Addr} {j k:Nat} {l:Option Addr} {m n:Nat} {o:Option Addr} {p q:Nat} {r:Option Addr} {s t:Nat} {v:Bool} {w:Int} {x:Option Addr} {y iq:Nat} {z:Option Addr} {A B:Nat} {C:Option Addr} {D E:Nat} {F:Option Addr} {G H:Nat} (an:∀ a,Q a->a<b.heap.size) (ao:b.heap.size<=u) (af:SN f (fun a=>Q a∨u<=a) P (.agg (Zs g h i j k l m n o p q r s t))) (ag:SN f (fun a=>Q a∨u<=a) R (.agg (Zs v w x y iq z A B C D E F G H))) (S:Below f.heap.size f e) (U:Below b.heap.size b e) (V:e.heap[c]?=some (.cells (Z0 false 0) 55)) (W:e.heap[d]?=some (.cells (Z0 false 0) 55)) (ah:b.heap.size<=c) (ai:b.heap.size<=d) (X:c≠d) (aj:∀ a,(Q a∨u<=a)->a<f.heap.size->a≠c) (ak:∀ a,(Q a∨u<=a)->a<f.heap.size->a≠d) :
  (bg e c (.bool g) (.int .i64 h) (.slice i j k) (.slice l m n) (.slice o p q) (.slice r s t)).heap[d]?=some (.cells (Z0 false 0) 55)∧Below b.heap.size b (bg e c (.bool g) (.int .i64 h) (.slice i j k) (.slice l m n) (.slice o p q) (.slice r s t))∧tR b (bg (bg e c (.bool g) (.int .i64 h) (.slice i j k) (.slice l m n) (.slice o p q) (.slice r s t)) d (.bool v) (.int .i64 w) (.slice x y iq) (.slice z A B) (.slice C D E) (.slice F G H)) Q P R c d:=by
 have I:=bk e c (.bool g) (.int .i64 h) (.slice i j k) (.slice l m n) (.slice o p q) (.slice r s t);have Y:=aV V (.bool g) (.int .i64 h) (.slice i j k) (.slice l m n) (.slice o p q) (.slice r s t);have al:=Za W;have ap:=Za V;have L:=(I.block d al (fun J=>X J.symm)).trans W;generalize bg e c (.bool g) (.int .i64 h) (.slice i j k) (.slice l m n) (.slice o p q) (.slice r s t)=M at I Y L ⊢;have K:=bk M d (.bool v) (.int .i64 w) (.slice x y iq) (.slice z A B) (.slice C D E) (.slice F G H);have Z:=aV L (.bool v) (.int .i64 w) (.slice x y iq) (.slice z A B) (.slice C D E) (.slice F G H);have aq:=I.size;have N:Below b.heap.size b M:=U.trans (I.below U.size (fun a J=>by omega));refine⟨L,N,?_⟩;have aa:=(K.block c (by omega) (fun J=>X J)).trans Y;generalize bg M d (.bool v) (.int .i64 w) (.slice x y iq) (.slice z A B) (.slice C D E) (.slice F G H)=am at K Z aa ⊢;have ar:=K.size;have au:=S.size;have ab:∀ a,(Q a∨u<=a)->a<f.heap.size->am.heap[a]?=f.heap[a]?:=fun a ac O=>((K.block a (by omega) (ak a ac O)).trans (I.block a (by omega) (aj a ac O))).trans (S.block a O);have ad:∀ a,(Q a∨u<=a)->(Q a∨b.heap.size<=a):=fun a ae=>ae.imp id (fun ae=>by omega);exact⟨g,h,i,j,k,l,m,n,o,p,q,r,s,t,v,w,x,y,iq,z,A,B,C,D,E,F,G,H,ah,aa,ai,Z,af.keep ab ad (by omega),ag.keep ab ad (by omega),N.trans (K.below N.size (fun a J=>by omega))⟩
set_option maxHeartbeats 8000000 in
theorem Cs {j s:Nat} {d:T} (h:OL w base Q ys b c css) (co:base<=w.heap.size) (bX:∀ a,Q a->a<w.heap.size) (cp:ys.length<=1000) (bk:ys[j]?=some x) (bl:ys[j+1]?=some d) (bm:x.size=s+1) (aZ:2<=s) (db:s<=400) (bY:d.size<=400) (bZ:eQ x) (b0:eQ d) :
  Calls prog 76 #[.slice (some ⟨b,0,none⟩) ys.length c,.int .i64 ((j:Int)+1)] w fun l w'=>∃ b1,l=.returned b1∧SL w' (fun a=>Q a∨base<=a) ((ys.set j (x.fore s)).set (j+1) (ag (x.rest s) d)) b1∧Below base w w':=by
 obtain⟨aH,bn⟩:=Zn ys.length;have bo:Hid (ys.length=aH):=bn;have dc:j+1<aH:=by have:=Zc bl;omega
 have bp:aH<=c∧c<=maxLen:=by
  rcases h.row.2 with ⟨l,dd⟩ | ⟨a,de,df,l,_,_,dg,cq,_⟩;·cases l
  ·simp only[Value.slice.injEq] at l;obtain⟨_,_,rfl⟩:=l;exact⟨by omega,cq⟩
 have dh:=bp.1;have cr:=bp.2;unfold maxLen at cr;obtain⟨al,am,an,ao,ap,au,av,aw,ax,ay,az,aA,aB,aC,bq,cs⟩:=h.at bk;have ae:=h.lt.2;have br:=iF bq w;rw[bm] at br;have bs:Hid (OL w base Q ys b c css):=h;have aD:Hid (ys[j]?=some x∧ys[j+1]?=some d∧eQ x∧eQ d∧x.size=s+1∧d.size<=400):=⟨bk,bl,bZ,b0,bm,bY⟩;have b2:Hid (∀ a,Q a->a<w.heap.size):=bX;have di:(2:Int)<((s+1:Nat):Int):=by omega
 rw[bn];obtain⟨b3,b4,b5,b6,p4,b7⟩:=cs;have b8:Hid (qC w b (j*6) al am an ao ap au av aw ax ay az aA aB aC):=⟨b3,b4,b5,b6,p4,b7⟩;have b9:Hid (SN w Q x (.agg (Zs al am an ao ap au av aw ax ay az aA aB aC))):=bq;clear h bk bl bm bY bZ b0 bX cp bn bp bq;go_enter func76,ntmps76;go_wp2_with fail
 refine br.mono ?_;rintro l n ⟨rfl,aE⟩;have dj:=aE.size;have bt:Hid (OL n base Q ys b c css):=bs.out.below aE (fun _ h=>h) bs.out.off;have bu:Hid (qC n b (j*6) al am an ao ap au av aw ax ay az aA aB aC):=b8.out.keep (aE.block b ae);have b':Hid (SN n Q x (.agg (Zs al am an ao ap au av aw ax ay az aA aB aC))):=b9.out.below aE;have bv:Hid (∀ a,Q a->a<n.heap.size):=fun a aa=>by have:=b2.out a aa;omega
 have ct:Hid (Below w.heap.size w n):=aE;have cu:base<=n.heap.size:=by omega
 have dk:=ae;replace ae:b<n.heap.size:=by omega
 clear br b3 b4 b5 b6 p4 b7 b8 b9 aE b2 bs;have ca:Hid (∀ Z,Calls prog 41 #[.agg (Zs al am an ao ap au av aw ax ay az aA aB aC)] Z fun l w'=>l=.returned (.int .i64 ((s+1:Nat):Int))∧Below Z.heap.size Z w'):=fun Z=>by have:=iF b'.out Z;rw[aD.out.2.2.2.2.1] at this;exact this
 have cb:Hid (∀ Z,Below n.heap.size n Z->Calls prog 73 #[.agg (Zs al am an ao ap au av aw ax ay az aA aB aC),.int .i64 s] Z fun l w'=>ye Z Q x s l w'):=fun Z cv=>cJ (b'.out.below cv) aD.out.2.2.1.slim s (by have:=aD.out.2.2.2.2.1;omega) (by have:=aD.out.2.2.2.2.1;omega);go_upto_region 4 with fail
 go_cut [6,7] (fun cw cx cy=>∃ (r g:Nat),cw=.pointer (some ⟨r,0,none⟩)∧cx=.pointer (some ⟨g,0,none⟩)∧Hid (tR n cy Q (x.fore s) (x.rest s) r g))
 case first =>
  go_wp2_with fail
  have m:Below n.heap.size n n.drew:=(D2 _ _).drew;refine Zg (fun w':World=>Below n.heap.size n w') (m) (fun z=>?_);clear z;generalize n.drew=o at m ⊢;have z:=m;refine Zx .a0 ?_;refine Zx .a4 ?_;refine Zx .a1 ?_;refine Zx .a5 ?_;try simp only[Zq]
  refine Zw (.pointer (some ⟨b,j*6,none⟩)) .a2 ?_ ?_;·intro ab t;go_simp;intro bw;omega
  refine Zw (.pointer (some ⟨b,j*6,none⟩)) .a6 ?_ ?_;·intro ab t;go_simp;intro bw;omega
  refine Zy .a3 (fun ab t=>by (try dsimp only at t);obtain⟨P,R,S,U,V,W⟩:=bu.out.keep (t.block b ae);have cz:b<ab.heap.size:=DY ae t.size;go_simp;rfl) ?_;refine Zy .a7 (fun ab t=>by (try dsimp only at t);obtain⟨P,R,S,U,V,W⟩:=bu.out.keep (t.block b ae);have cz:b<ab.heap.size:=DY ae t.size;go_simp;rfl) ?_;try simp only[Zq]
  iterate 4 all_goals
   first
   | have:=mkd8;have:=mkd10;have:=mkd14;refine Zr [15] (rdB .nil (.t .a5) (fun f e k=>?_))
   | have:=mkd8;have:=mkd10;have:=mkd15;refine Zr [14] (rdB .nil (.t .a4) (fun f e k=>?_))
   | have:=mkd8;have:=mkd14;have:=mkd15;refine Zr [10] (rdB .nil (.t .a0) (fun f e k=>?_))
   | have:=mkd8;have:=mkd10;refine Zr [14,15] (rdB (rdB .nil (.t .a5) (fun f e k=>?_)) (.t .a4) (fun f e k=>?_))
   | have:=mkd8;have:=mkd14;refine Zr [10,15] (rdB (rdB .nil (.t .a5) (fun f e k=>?_)) (.t .a0) (fun f e k=>?_))
   | have:=mkd8;have:=mkd15;refine Zr [10,14] (rdB (rdB .nil (.t .a4) (fun f e k=>?_)) (.t .a0) (fun f e k=>?_))
   | have:=mkd14;have:=mkd15;refine Zr [8] (rdB .nil .a8 (fun f e k=>?_))
   | have:=mkd8;refine Zr [10,14,15] (rdB (rdB (rdB .nil (.t .a5) (fun f e k=>?_)) (.t .a4) (fun f e k=>?_)) (.t .a0) (fun f e k=>?_))
   | have:=mkd14;refine Zr [8,15] (rdB (rdB .nil (.t .a5) (fun f e k=>?_)) .a8 (fun f e k=>?_))
   | have:=mkd15;refine Zr [8,14] (rdB (rdB .nil (.t .a4) (fun f e k=>?_)) .a8 (fun f e k=>?_))
   | refine Zr [8,14,15] (rdB (rdB (rdB .nil (.t .a5) (fun f e k=>?_)) (.t .a4) (fun f e k=>?_)) .a8 (fun f e k=>?_))
   all_goals first
   |
    have mkd8:Mk 8:=k;clear k;go_simp;refine (ca.out o).mono ?_;rintro l o ⟨rfl,aI⟩;(go_wp2_with fail);(try replace p:=(aI.block r (Za p)).trans p);(try replace q:=(aI.block g (Za q)).trans q);(try replace v:=v.trans (aI.mono v.size));replace m:=m.trans (aI.mono m.size);clear aI;refine e.out _ _ (m) (fun z=>?_);clear e f;refine Zw (.int .i64 (s:Int)) .a9 ?_ ?_;·intro ab t;go_simp;rw[EB];omega
    try simp only[Zq]
   |
    have mkd10:Mk 10:=k;clear k;go_simp;refine (cb.out o m).mono ?_;rintro l A ⟨dl,dm,rfl,ai,aj,a0⟩;obtain⟨a1,a2,a3,a4,a5,a6,a7,a8,a9,a',ba,bb,bc,bd,rfl⟩:=ai.letters;obtain⟨aJ,aL,aM,aN,iq,aO,aP,aQ,aR,aS,aT,aU,aV,aW,rfl⟩:=aj.letters;(go_wp2_with fail);obtain⟨ak,bx⟩:=Zn o.heap.size;have cA:n.heap.size<=ak:=(by rw[<-bx];exact m.size);rw[bx] at ai aj;(try have cc:=Za p);(try have bz:∀ a,(Q a∨ak<=a)->a<A.heap.size->a≠r:=fun a X aZ=>by rcases X with X | X;(have:=bv.out a X;omega);omega);(try replace p:=(a0.block r cc).trans p);(try have cB:=Za q);(try have bA:∀ a,(Q a∨ak<=a)->a<A.heap.size->a≠g:=fun a X aZ=>by rcases X with X | X;(have:=bv.out a X;omega);omega);(try replace q:=(a0.block g cB).trans q);replace m:=m.trans (a0.mono m.size);have v:Below A.heap.size A A:=D2 _ _;have cC:Hid (SN A (fun a=>Q a∨ak<=a) (x.fore s) (.agg (Zs a1 a2 a3 a4 a5 a6 a7 a8 a9 a' ba bb bc bd))):=ai;have cE:Hid (SN A (fun a=>Q a∨ak<=a) (x.rest s) (.agg (Zs aJ aL aM aN iq aO aP aQ aR aS aT aU aV aW))):=aj;clear a0 ai aj bx;obtain⟨o,ac⟩:∃ o,o=A:=⟨_,rfl⟩;rw[<-ac] at m ⊢;(try rw[<-ac] at p);(try rw[<-ac] at q);replace v:Below A.heap.size A o:=ac ▸ v;clear ac;refine e.out _ _ (m) (fun z=>?_);clear e f;refine Zx (.t .a1) ?_;refine Zx (.t .a2) ?_;refine Zx (.t .a3) ?_;try simp only[Zq]
   |
    have mkd14:Mk 14:=k;clear k;go_simp;have p:=DS o (.cells (Z0 false 0) 55);have Y:Below o.heap.size o (o.alloc (.cells (Z0 false 0) 55)):=Zb _ _;have cd:n.heap.size<=o.heap.size:=m.size;obtain⟨r,aX⟩:∃ r,r=o.heap.size:=⟨_,rfl⟩;rw[<-aX] at p cd ⊢;(try have bz:∀ a,(Q a∨ak<=a)->a<A.heap.size->a≠r:=fun a X aZ=>by have:=v.size;omega);(try have bB:g≠r:=by have:=Za q;omega);generalize o.alloc (.cells (Z0 false 0) 55)=o at p Y ⊢;(try replace q:=(Y.block g (Za q)).trans q);(try replace v:=v.trans (Y.mono v.size));replace m:=m.trans (Y.mono m.size);clear aX Y;refine e.out _ _ (m) (fun z=>?_);clear e f;try simp only[Zq]
   |
    have mkd15:Mk 15:=k;clear k;go_simp;have q:=DS o (.cells (Z0 false 0) 55);have Y:Below o.heap.size o (o.alloc (.cells (Z0 false 0) 55)):=Zb _ _;have ce:n.heap.size<=o.heap.size:=m.size;obtain⟨g,aX⟩:∃ g,g=o.heap.size:=⟨_,rfl⟩;rw[<-aX] at q ce ⊢;(try have bA:∀ a,(Q a∨ak<=a)->a<A.heap.size->a≠g:=fun a X aZ=>by have:=v.size;omega);(try have bB:r≠g:=by have:=Za p;omega);generalize o.alloc (.cells (Z0 false 0) 55)=o at q Y ⊢;(try replace p:=(Y.block r (Za p)).trans p);(try replace v:=v.trans (Y.mono v.size));replace m:=m.trans (Y.mono m.size);clear aX Y;refine e.out _ _ (m) (fun z=>?_);clear e f;try simp only[Zq]
  all_goals
   refine Zr [16] ?_;refine rdA (.t .a6) (fun f e=>?_) DR;have cF:r≠g:=(by first | exact bB | exact bB.symm);obtain⟨af,aF,aY⟩:=By bv.out cA cC.out cE.out v m p q cd ce cF bz bA;have ah:Hid (tR n _ Q (x.fore s) (x.rest s) r g):=aY;have dn:=ar p;obtain⟨P,R,S,U,V,W⟩:=aq p;have dp:=Za p;go_simp;clear P R S U V W;rw[cD];generalize cG:bg o r (.bool a1) (.int .i64 a2) (.slice a3 a4 a5) (.slice a6 a7 a8) (.slice a9 a' ba) (.slice bb bc bd)=cH at af aF ah ⊢;clear cG;refine e.out _ _ (aF) (fun z=>?_);clear e f;try simp only[Zq]
   refine Zr [17] ?_;refine rdA (.t .a7) (fun f e=>?_) DR;have dq:=ar af;obtain⟨P,R,S,U,V,W⟩:=aq af;have dr:=Za af;go_simp;clear P R S U V W;rw[cD];generalize bg cH g (.bool aJ) (.int .i64 aL) (.slice aM aN iq) (.slice aO aP aQ) (.slice aR aS aT) (.slice aU aV aW)=ds at ah ⊢;refine e.out _ _ (by obtain⟨_,_,_,_,_,_,_,_,_,_,_,_,_,_,_,_,_,_,_,_,_,_,_,_,_,_,_,_,_,_,_,_,_,_,cK⟩:=ah.out;exact cK) (fun z=>?_);clear e f;try simp only[Zq]
   refine Zd ?_;clear z af aF p q m v bz bA;go_wp2_with fail
   go_meet
   exact⟨r,g,rfl,rfl,ah⟩
 case rest =>
  obtain⟨r,g,rfl,rfl,cf⟩:=hcut;obtain⟨a1,a2,a3,a4,a5,a6,a7,a8,a9,a',ba,bb,bc,bd,aJ,aL,aM,aN,iq,aO,aP,aQ,aR,aS,aT,aU,aV,aW,dt,p,du,q,ai,aj,be⟩:=cf.out;have dv:=be.size;have dw:=bt.out.lt.1;have bC:¬ (Q b∨n.heap.size<=b):=fun l=>l.elim bt.out.off (fun l=>by omega);have bD:OL wc base (fun a=>Q a∨n.heap.size<=a) ys b c css:=bt.out.below be (fun a h=>.inl h) bC;obtain⟨⟨cL,bf⟩,aG⟩:=bD.set (i:=j) (by rw[bo.out];omega) ai;obtain⟨cM,cN,cO,cP,cQ,cR⟩:=aq p;have cc:=Za p;have dx:b<wc.heap.size:=(by omega);obtain⟨cS,cT,cU,cV,cW,cX⟩:=bu.out.keep (be.block b ae);have cY:=bD.thaw;clear cf ca cb;go_upto_region 6 with fail
  rw[i9];clear cM cN cO cP cQ cR cS cT cU cV cW cX cY;have cg:=aG.size;have bE:=(aG.block g (Za q) (fun l=>by omega)).trans q;have bF:SN _ (fun a=>Q a∨n.heap.size<=a) (x.rest s) (.agg (Zs aJ aL aM aN iq aO aP aQ aR aS aT aU aV aW)):=aj.keep (fun a aa cZ=>aG.block a cZ (fun l=>bC (l ▸ aa))) (fun _ h=>h) cg;have ch:Below base w wc:=(ct.out.mono co).trans (be.mono cu);have bh:=ch.trans (aG.below (by omega) (fun a l=>by omega));generalize aK wc b (j*6) (.bool a1) (.int .i64 a2) (.slice a3 a4 a5) (.slice a6 a7 a8) (.slice a9 a' ba) (.slice bb bc bd)=y at bf aG cg bE bF bh ⊢;have c0:(ys.set j (x.fore s))[j+1]?=some d:=(by rw[EM (by omega)];exact aD.out.2.1);obtain⟨bG,bH,bI,bJ,bK,bL,bM,bN,bO,bP,bQ,bR,bS,bT,ci,bU⟩:=bf.at c0;have c1:Hid (qC y.drew b ((j+1)*6) bG bH bI bJ bK bL bM bN bO bP bQ bR bS bT):=bU.keep rfl;have bi:g<y.heap.size:=Za bE;have cj:b<y.heap.size:=(by omega);have ac:=aD.out;have bj:Below y.heap.size y y.drew:=(D2 _ _).drew;have ck:=cI (bF.below bj) (ci.below bj) (eY (ac.2.2.1.rest s) (by have:=(nR (x:=x) s).1;omega)) (eY ac.2.2.2.1 (by omega));have c2:Hid (Calls prog 74 #[.agg (Zs aJ aL aM aN iq aO aP aQ aR aS aT aU aV aW),.agg (Zs bG bH bI bJ bK bL bM bN bO bP bQ bR bS bT)] y.drew fun l u=>∃ B C D E F G H I J K L M N O,l=.returned (.agg (Zs B C D E F G H I J K L M N O))∧Below y.heap.size y u∧b<u.heap.size∧(qC u b ((j+1)*6) bG bH bI bJ bK bL bM bN bO bP bQ bR bS bT∧∀ c3,u.frozen? ⟨b,c3,none⟩=false)∧Hid (SL (aK u b ((j+1)*6) (.bool B) (.int .i64 C) (.slice D E F) (.slice G H I) (.slice J K L) (.slice M N O)) (fun a=>Q a∨base<=a) ((ys.set j (x.fore s)).set (j+1) (ag (x.rest s) d)) (.slice (some ⟨b,0,none⟩) aH c)∧Below base w (aK u b ((j+1)*6) (.bool B) (.int .i64 C) (.slice D E F) (.slice G H I) (.slice J K L) (.slice M N O))∧(aK u b ((j+1)*6) (.bool B) (.int .i64 C) (.slice D E F) (.slice G H I) (.slice J K L) (.slice M N O)).heap[g]?=y.heap[g]?∧g<(aK u b ((j+1)*6) (.bool B) (.int .i64 C) (.slice D E F) (.slice G H I) (.slice J K L) (.slice M N O)).heap.size)):=(by refine ck.mono ?_;rintro l u ⟨dy,rfl,cl,c4⟩;have ad:Below y.heap.size y u:=bj.trans c4;obtain⟨B,C,D,E,F,G,H,I,J,K,L,M,N,O,rfl⟩:=cl.letters;have c5:=ad.size;have cm:OL u base (fun a=>Q a∨n.heap.size<=a) (ys.set j (x.fore s)) b c cL:=bf.below ad (fun _ h=>h) bC;have c6:SN u (fun a=>Q a∨n.heap.size<=a) (ag (x.rest s) d) (.agg (Zs B C D E F G H I J K L M N O)):=cl.mono (fun a aa=>aa.elim id (fun h=>.inr (by have dz:y.heap.size<=a:=h;omega)));obtain⟨⟨dA,c7⟩,bV⟩:=cm.set (i:=j+1) (by rw[Em,bo.out];omega) c6;have dB:=bV.size;have cn:=c7.sl (Q':=fun a=>Q a∨base<=a) (fun a aa=>aa.imp id (fun h=>by omega)) (fun a aa=>.inr aa);rw[Em,Em,bo.out] at cn;exact⟨B,C,D,E,F,G,H,I,J,K,L,M,N,O,rfl,ad,by omega,⟨bU.keep (ad.block b cj),cm.thaw⟩,cn,(bh.trans (ad.mono (by have:=bh.size;omega))).trans (bV.below (by omega) (fun a l=>by omega)),(bV.block g (by omega) (fun l=>by omega)).trans (ad.block g bi),by omega⟩);clear ck ci bU bf aG aj bF ai bD p ac bj ch bh q;refine Zg (fun w':World=>w'.heap[g]?=y.heap[g]?∧g<w'.heap.size) (⟨rfl,bi⟩) (fun z=>?_);refine Zx .a0 ?_;refine Zx .a1 ?_;refine Zy .a2 (fun ab t=>by (try dsimp only at t);obtain⟨P,R,S,U,V,W⟩:=(yw bE).keep t.1;have dC:=t.2;(try simp only[Ed] at P R S U V W);go_simp;rfl) ?_;refine Zx .a3 ?_;try simp only[Zq]
  refine Zx .a4 ?_;refine Zw (.pointer (some ⟨b,(j+1)*6,none⟩)) .a5 ?_ ?_;·intro ab t;go_simp;intro bw;omega
  try simp only[Zq]
  refine Zr [6] ?_;refine rdA .a6 (fun f e=>?_) DR;obtain⟨P,R,S,U,V,W⟩:=c1.out;have c8:b<y.drew.heap.size:=cj;go_simp;clear P R S U V W c8;refine e.out _ _ (⟨rfl,bi⟩) (fun z=>?_);clear e f;try simp only[Zq]
  refine Zr [7] ?_;refine rdA .a7 (fun f e=>?_) DR;go_simp;refine c2.out.mono ?_;rintro l u ⟨B,C,D,E,F,G,H,I,J,K,L,M,N,O,rfl,ad,dD,c9,c'⟩;go_wp2_with fail
  have c5:=ad.size;refine e.out _ _ (⟨ad.block g bi,by omega⟩) (fun z=>?_);clear e f;refine Zw (.pointer (some ⟨b,(j+1)*6,none⟩)) .a8 ?_ ?_;·intro ab t;go_simp;intro bw;omega
  try simp only[Zq]
  refine Zr [9] ?_;refine rdA .a9 (fun f e=>?_) DR;obtain⟨af,aF,aY,bW⟩:=c'.out;have ah:Hid (SL (aK u b ((j+1)*6) (.bool B) (.int .i64 C) (.slice D E F) (.slice G H I) (.slice J K L) (.slice M N O)) (fun a=>Q a∨base<=a) ((ys.set j (x.fore s)).set (j+1) (ag (x.rest s) d)) (.slice (some ⟨b,0,none⟩) aH c)∧Below base w (aK u b ((j+1)*6) (.bool B) (.int .i64 C) (.slice D E F) (.slice G H I) (.slice J K L) (.slice M N O))):=⟨af,aF⟩;obtain⟨⟨P,R,S,U,V,W⟩,da⟩:=c9;go_simp;clear P R S U V W da;rw[i9];generalize aK u b ((j+1)*6) (.bool B) (.int .i64 C) (.slice D E F) (.slice G H I) (.slice J K L) (.slice M N O)=dE at ah aY bW ⊢;refine e.out _ _ (⟨aY,bW⟩) (fun z=>?_);clear e f;try simp only[Zq]
  refine Zd ?_;clear z af aF aY bW;go_wp2_with fail
  go_ret;exact⟨_,rfl,ah.out.1,ah.out.2⟩
end Go.Proofs.YtgcedpmagmmikaaGreat
