import Derived.Test.YtggmghkcdfjdoaaGreatHTks
import Derived.Test.YtggmghkcdfjdoaaGreatHTdp
import Derived.Test.YtggmghkcdfjdoaaGreatHTxl
namespace Go.Proofs.YtggmghkcdfjdoaaGreat
set_option maxHeartbeats 4000000
open Go.RowKit Tryz
set_option linter.unusedVariables false
set_option linter.unusedSimpArgs false
set_option maxRecDepth 100000
variable {L c l n:Nat} {P:Nat->Prop} {Q:Nat->Nat->Prop} {a:Option Addr} {t x y:T} {ul:List Value} {w:World} {ys:List T}
def eQ (x:T):Prop:=(x.leaf=true->x.vals.length=x.keys.length∧x.over.length=x.keys.length∧x.kids=[])∧(x.leaf=false->x.keys=[]∧x.vals=[]∧x.over=[])
theorem AC (d:eQ x) (e:eQ y) (f:x.leaf=y.leaf) {k:Nat} (h:k<=x.size):(ag x y).fore k=x.fore k∧(ag x y).rest k=ag (x.rest k) y:=by
 unfold T.size at h;unfold ag T.fore T.rest;cases a:x.leaf;·obtain⟨g,j,b⟩:=d.2 a;obtain⟨l,m,c⟩:=e.2 (by rw[<-f,a]);rw[a] at h;simp only[Bool.false_eq_true,if_false] at h;simp[g,j,b,l,m,c,List.take_append_of_le_length h,List.drop_append_of_le_length h,a]
 ·obtain⟨g,j,b⟩:=d.1 a;obtain⟨l,m,c⟩:=e.1 (by rw[<-f,a]);rw[a] at h;simp only[if_true] at h;simp[b,c,List.take_append_of_le_length h,List.drop_append_of_le_length h,List.take_append_of_le_length (l₁:=x.vals) (i:=k) (by omega),List.drop_append_of_le_length (l₁:=x.vals) (i:=k) (by omega),List.take_append_of_le_length (l₁:=x.over) (i:=k) (by omega),List.drop_append_of_le_length (l₁:=x.over) (i:=k) (by omega),a]
theorem mX {c:Type} (a b:List c) (k n:Nat) (h:a.length=n):(a++b).take (n+k)=a++b.take k∧(a++b).drop (n+k)=b.drop k:=by
 subst h;exact⟨List.take_length_add_append ..,List.drop_length_add_append ..⟩
theorem ze (g:eQ x) (h:eQ y) (b:x.leaf=y.leaf) (k:Nat):(ag x y).fore (x.size+k)=ag x (y.fore k)∧(ag x y).rest (x.size+k)=y.rest k:=by
 unfold T.size ag T.fore T.rest;cases a:x.leaf;·obtain⟨c,d,e⟩:=g.2 a;obtain⟨i,j,f⟩:=h.2 (by rw[<-b,a]);have:=mX x.kids y.kids k _ rfl;simp[c,d,e,i,j,f,this.1,this.2,<-b,a]
 ·obtain⟨c,d,e⟩:=g.1 a;obtain⟨i,j,f⟩:=h.1 (by rw[<-b,a]);have l:=mX x.keys y.keys k _ rfl;have m:=mX x.vals y.vals k _ c;have n:=mX x.over y.over k _ d;simp[e,f,l.1,l.2,m.1,m.2,n.1,n.2,<-b,a]
theorem oS {A B:T} (h:l+1<ys.length):(ys.set l A).set (l+1) B=ys.take l++[A,B]++ys.drop (l+2):=by
 rw[mM (by rw[EP];exact h)];have a:(ys.set l A).take (l+1)=ys.take l++[A]:=by rw[mM (by omega),EM (by simp;omega),Ey (by simp;omega)]
 have b:(ys.set l A).drop (l+1+1)=ys.drop (l+2):=by rw[List.drop_set_of_lt (by omega)]
 rw[a,b];simp
theorem zg (c:ys[l]?=some x) (a:ys[l+1]?=some y) (d:eQ x) (e:eQ y) (f:x.leaf=y.leaf):(ys.set l ((ag x y).fore (x.size - 1))).set (l+1) ((ag x y).rest (x.size - 1))=eh ys l i4:=by
 rw[oS (Zc a)];unfold eh i4;have b:=AC d e f (k:=x.size - 1) (by omega);simp only[List.getD,c,a,Ft,b.1,b.2]
theorem xf (c:ys[l]?=some x) (a:ys[l+1]?=some y) (d:eQ x) (e:eQ y) (f:x.leaf=y.leaf):(ys.set l ((ag x y).fore (x.size+1))).set (l+1) ((ag x y).rest (x.size+1))=eh ys l jy:=by
 rw[oS (Zc a)];unfold eh jy;have b:=ze d e f 1;simp only[List.getD,c,a,Ft,b.1,b.2]
theorem pW {m:Nat} (h:gC w P t L a n c ul Q) {x:T} (f:t.kids[m]?=some x):∃ e b d,a=some ⟨e,0,none⟩∧ul.getD m .nilIface=.iface b d∧w.cell? ⟨e,m,none⟩=some (.iface b d)∧xF w b d "loop.example/s02098/impl.size" (.int .i64 x.size):=by
 obtain⟨e,b,d,j,g,k⟩:=gW h (show m<n by have:=Zc f;have:=h.len;omega);have i:=h.kid m x (Ew f) f;rw[g] at i;exact⟨e,b,d,j,g,k,i.size⟩
theorem yf (h:gC w P t L a n c ul Q):n<=c∧c<=maxLen:=by
 rcases h.row.2 with ⟨b,f⟩ | ⟨g,i,j,b,_,_,d,e,_⟩;·simp only[Value.slice.injEq] at b;exact⟨by omega,by omega⟩
 ·simp only[Value.slice.injEq] at b;obtain⟨_,_,rfl⟩:=b;exact⟨d,e⟩
theorem xg (h:gC w P t L a n c ul Q) (r:∀ b,P b->b<w.heap.size) (V:l+1<n) (W:n<=1000) {x y:T} (D:t.kids[l]?=some x) (E:t.kids[l+1]?=some y) (X:x.leaf=y.leaf) (Y:eQ x) (Z:eQ y) (aa:x.size<=400) (ab:y.size<=400) {i:World}
  (m:Fr (Q l) w i) (F:∃ j:Nat->Prop,GM i j (ag x y) (ul.getD l .nilIface)∧∀ d,j d->(Q l d∨Q (l+1) d∨w.heap.size<=d)∧d<i.heap.size) :
  i.heap[L]?=some (.cells #[.int .i64 t.page,.slice a n c] 83)∧Calls prog 104 #[.slice a n c,.int .i64 ((l:Int)+1),.int .i64 ((l:Int)+2)] i fun e k=>e=.returned (.slice a (n - 1) c)∧k.heap[L]?=some (.cells #[.int .i64 t.page,.slice a n c] 83)∧jq w P t L (eh t.kids l (fun x y=>[ag x y])) (.returned (.tuple #[])) (k.setCell ⟨L,1,none⟩ (.slice a (n - 1) c)):=by
 obtain⟨g,rfl⟩:∃ g,n=g+1:=⟨n - 1,by omega⟩;obtain⟨j,G,o⟩:=F;have ac:=m.size;have H:=r L h.at';have z:=(m.block L H (fun e=>(h.sub l L e).2.1 rfl)).trans h.box;have pY:=am h.row m (fun u s e=>(h.sub l u e).2.2 s);have A:=pU (l+1) g c a ul i pY (by omega) (by omega) h.one;have v:((l+1:Nat):Int)+1=(l:Int)+2:=by omega
 rw[v,show ((l+1:Nat):Int)=(l:Int)+1 by omega] at A;refine⟨z,A.mono ?_⟩;rintro e k ⟨rfl,I,p⟩;have ad:=p.size;have B:=(p.block L (by omega) (fun e=>(h.blk L e).2 rfl)).trans z;have q:=af k L 1 (.slice a g c);have ae:=q.size;have J:(Value.slice a g c).ownBlock=(Value.slice a (g+1) c).ownBlock:=by cases a<;>rfl
 have C:∀ d,j d->(P d∨w.heap.size<=d)∧d≠L∧(Value.slice a (g+1) c).ownBlock≠some d:=fun d f=>by
  rcases (o d f).1 with e | e | e;·have:=h.sub l d e;exact⟨.inl this.1,this.2⟩
  ·have:=h.sub (l+1) d e;exact⟨.inl this.1,this.2⟩
  ·exact⟨.inr e,by omega,fun v=>by have:=r d (h.blk d v).1;omega⟩
 have K:=h.less (w3:=k.setCell ⟨L,1,none⟩ (.slice a g c)) r (by omega) (P1:=j) (k1:=ag x y) (fun d f M N O=>by
  have R:=r d f;exact ((q.block d (by omega) N).trans (p.block d (by omega) O)).trans (m.block d R M)) (by simpa using aj B 1 (.slice a g c)) (by omega)
  (am I q (fun u s e=>by rw[J] at s;exact (h.blk u s).2 e))
  (GM.keep _ j j _ (fun d f=>(q.block d (by have:=(o d f).2;omega) (C d f).2.1).trans (p.block d (o d f).2 (C d f).2.2)) (fun _ h=>h) G) (fun d f=>⟨(o d f).1,by have:=(o d f).2;omega⟩)
 refine⟨rfl,B,rfl,⟨_,_,_,_,_,_,K.re (t':={ t with kids:=eh t.kids l (fun x y=>[ag x y]) }) rfl ?_,fun d f=>⟨f.1,f.2⟩⟩,eV ?_⟩;·unfold eh;simp only[List.getD,D,E,Ft]
 ·have S:Fr (fun d=>P d∨w.heap.size<=d) w i:=m.weak (fun d e=>.inl (h.sub l d e).1);have U:Fr (fun d=>P d∨w.heap.size<=d) i k:=p.weak (fun d e=>.inl (h.blk d e).1);exact (S.trans U).trans (q.weak (fun d e=>by rw[e];exact .inl h.at'))
theorem AD {m:Nat} (h:gC w P t L a n c ul Q) (K:∀ b,P b->b<w.heap.size) (bo:2<=n∧n<=4) {d:T} {ht:Int} (ac:0<=ht) (s:t.kids[m]?=some d) (i:wj d ht) (F:∀ (g:Nat) z,g≠m->t.kids[g]?=some z->ng z ht) :
  Calls prog 99 #[.pointer (some ⟨L,0,none⟩),.int .i64 m] w fun e o=>jq w P t L (dW t.kids m) e o:=by
 have aj:=h.len;have bp:m<n:=by have:=Zc s;omega
 have aF:d.size=1:=by have:=i.soft.size;omega
 have U:=yf h;have bq:=U.1;have a3:=U.2;unfold maxLen at a3;have V:=h.box;obtain⟨ak,W⟩:=Zn t.page;rw[W] at V;obtain⟨bs,al⟩:=au V;have aG:=K L h.at';have D:=oy h (by omega) ((m:Int) - 1) (by omega);have E:=oy h (by omega) ((m:Int)+1) (by omega);by_cases q1:0<m∧2<(t.kids.getD (m - 1) br).size
 ·obtain⟨g,rfl⟩:∃ g,m=g+1:=⟨m - 1,by omega⟩;obtain⟨x,p⟩:∃ x,t.kids[g]?=some x:=⟨_,Eh (by omega)⟩;have am:t.kids.getD g br=x:=(by simp[List.getD,p]);have aH:2<x.size:=(by rw[<-am];simpa using q1.2);have r:=F g x (by omega) p;have M:ig t.kids (((g+1:Nat):Int) - 1)=true:=(by unfold ig;rw[show ((((g+1:Nat):Int) - 1).toNat)=g by omega,am];exact decide_eq_true ⟨by omega,by omega,aH⟩);rw[M,show ((g+1:Nat):Int) - 1=(g:Int) by omega] at D;obtain⟨C,aI⟩:∃ C,x.size=C+1:=⟨x.size - 1,by omega⟩;have u:=jx ac r.neat i.neat r.ht i.ht;have G:=vE h K (l:=g) (k:=C) (by omega) (by omega) p s u r.lens.1 i.lens.1 (by have:=r.size;omega) (by omega) ⟨by omega,by omega⟩;have X:(t.kids.set g ((ag x d).fore C)).set (g+1) ((ag x d).rest C)=dW t.kids (g+1):=(by have:=zg p s r.lens i.lens u;rw[show x.size - 1=C by omega] at this;rw[this];unfold dW;rw[if_pos q1];rfl);rw[X] at G;obtain⟨b,a4,a5,rfl,an,ao,a6,a7,a8,a9,a',Y⟩:=pW h p;rw[aI] at Y;have N:=aO ao;have bt:C<=4:=(by have:=r.size;omega);have ap:=hidI G;clear G X q1 p am aH r M aI u E s i F h an U W V aj;have bu:((C+1:Nat):Int) - 1=(C:Int):=(by omega);have bv:((g+1:Nat):Int) - 1=(g:Int):=(by omega);go_enter func99,ntmps99;go_wp2_with fail
  refine D.mono ?_;rintro e j ⟨rfl,rfl⟩;go_wp2_with fail
  refine Y.mono ?_;rintro e O ⟨rfl,rfl⟩;go_wp2_with fail
  refine ap.out.mono ?_;intro e ba A;have aq:=A.1;subst aq;have Z:=hidI A;clear A;go_wp2_with fail
  go_end0
  exact Z.out
 ·have M:ig t.kids ((m:Int) - 1)=false:=by
   unfold ig;refine decide_eq_false (fun e=>q1 ⟨by omega,?_⟩);have:=e.2.2
   rwa [show ((m:Int) - 1).toNat=m - 1 by omega] at this
  rw[M] at D;by_cases q2:m+1<t.kids.length∧2<(t.kids.getD (m+1) br).size
  ·obtain⟨y,q⟩:∃ y,t.kids[m+1]?=some y:=⟨_,Eh q2.1⟩;have av:t.kids.getD (m+1) br=y:=(by simp[List.getD,q]);have aJ:2<y.size:=(by rw[<-av];exact q2.2);have v:=F (m+1) y (by omega) q;have aa:ig t.kids ((m:Int)+1)=true:=(by unfold ig;rw[show ((m:Int)+1).toNat=m+1 by omega,av];exact decide_eq_true ⟨by omega,by omega,aJ⟩);rw[aa] at E;have u:=jx ac i.neat v.neat i.ht v.ht;have G:=vE h K (l:=m) (k:=2) (by omega) (by omega) s q u i.lens.1 v.lens.1 (by omega) (by have:=v.size;omega) ⟨by omega,by omega⟩;have X:(t.kids.set m ((ag d y).fore 2)).set (m+1) ((ag d y).rest 2)=dW t.kids m:=(by have:=xf s q i.lens v.lens u;rw[aF] at this;rw[this];unfold dW;rw[if_neg q1,if_pos q2]);rw[X] at G;obtain⟨b,a4,a5,rfl,an,ao,a6,a7,a8,a9,a',Y⟩:=pW h s;rw[aF] at Y;have N:=aO ao;have ap:Hid (Calls prog 102 #[.pointer (some ⟨L,0,none⟩),.int .i64 m,.int .i64 2] w fun e o=>jq w P t L (dW t.kids m) e o):=G;clear G X q1 q2 q av aJ v M aa u s i F h an U W V aj;go_enter func99,ntmps99;go_wp2_with fail
   refine D.mono ?_;rintro e j ⟨rfl,rfl⟩;go_wp2_with fail
   refine E.mono ?_;rintro e O ⟨rfl,rfl⟩;go_wp2_with fail
   refine Y.mono ?_;rintro e ba ⟨rfl,rfl⟩;go_wp2_with fail
   refine ap.out.mono ?_;intro e bw A;have aq:=A.1;subst aq;have Z:=hidI A;clear A;go_wp2_with fail
   go_end0
   exact Z.out
  ·have aa:ig t.kids ((m:Int)+1)=false:=by
    unfold ig;refine decide_eq_false (fun e=>q2 ⟨by omega,?_⟩);have:=e.2.2
    rwa [show ((m:Int)+1).toNat=m+1 by omega] at this
   rw[aa] at E;obtain⟨l,aK⟩:=Zn (m - 1);have aL:l+1<n:=(by omega);obtain⟨x,p⟩:∃ x,t.kids[l]?=some x:=⟨_,Eh (by omega)⟩;obtain⟨y,q⟩:∃ y,t.kids[l+1]?=some y:=⟨_,Eh (by omega)⟩;have bb:x.leaf=y.leaf∧eQ x∧eQ y∧x.size<=400∧y.size<=400:=by
    rcases Fo m with bc | bc;·obtain rfl:l=m:=(by omega);rw[s] at p;cases p;have v:=F (l+1) y (by omega) q;exact⟨jx ac i.neat v.neat i.ht v.ht,i.lens,v.lens,by omega,by have:=v.size;omega⟩
    ·obtain rfl:m=l+1:=(by omega);rw[s] at q;cases q;have r:=F l x (by omega) p;exact⟨jx ac r.neat i.neat r.ht i.ht,r.lens,i.lens,by have:=r.size;omega,by omega⟩
   obtain⟨u,aw,ax,aM,aN⟩:=bb;have aP:dW t.kids m=eh t.kids l (fun x y=>[ag x y]):=(by unfold dW;rw[if_neg q1,if_neg q2,aK]);rw[aP];obtain⟨b,ad,ae,rfl,ay,ab⟩:=gW h (show l<n by omega);obtain⟨_,af,ah,bd,aQ,ai⟩:=gW h aL;cases bd;have az:=h.kid l x (Ew p) p;have aA:=h.kid (l+1) y (Ew q) q;rw[ay] at az;rw[aQ] at aA;have aR:=vD az.drew aA.drew u aw.1 ax.1 (by omega) (by omega) (fun z aB=>K z (h.sub l z aB).1) (fun z aB=>K z (h.sub (l+1) z aB).1) (fun z be bf=>by have:=h.dis l (l+1) z be bf;omega);have aS:Hid (Calls prog 103 #[.iface ad ae,.iface af ah] w.drew fun e j=>e=.returned (.tuple #[])∧j.heap[L]?=some (.cells #[.int .i64 ak,.slice (some ⟨b,0,none⟩) n c] 83)∧(j.cell? ⟨b,l,none⟩=some (.iface ad ae)∧j.cell? ⟨b,l+1,none⟩=some (.iface af ah)∧b<j.heap.size)∧Hid (Calls prog 104 #[.slice (some ⟨b,0,none⟩) n c,.int .i64 ((l:Int)+1),.int .i64 ((l:Int)+2)] j fun e O=>e=.returned (.slice (some ⟨b,0,none⟩) (n - 1) c)∧O.heap[L]?=some (.cells #[.int .i64 ak,.slice (some ⟨b,0,none⟩) n c] 83)∧jq w P t L (eh t.kids l (fun x y=>[ag x y])) (.returned (.tuple #[])) (O.setCell ⟨L,1,none⟩ (.slice (some ⟨b,0,none⟩) (n - 1) c)))):=(by refine aR.mono ?_;rintro e j ⟨rfl,bg,aC⟩;have:=xg h K aL (by omega) p q u aw ax aM aN ((Fr.of_below ((Ev _ w).drew)).trans aC) (by rw[ay];exact bg);rw[W] at this;have N:=aO ab;have aT:=aC.block b N (fun e=>(h.sub l b e).2.2 rfl);have bx:w.heap.size<=j.heap.size:=aC.size;exact⟨rfl,this.1,⟨(Ep (w:=w) (a:=⟨b,l,none⟩) aT).trans ab,(Ep (w:=w) (a:=⟨b,l+1,none⟩) aT).trans ai,by omega⟩,this.2⟩);have N:=aO ab;have bz:=al;have bh:m=l+1∨(m=0∧l=0):=(by omega);have aU:Hid (∀ j:World,j.heap[L]?=some (.cells #[.int .i64 ak,.slice (some ⟨b,0,none⟩) n c] 83)->j.cell? ⟨L,1,none⟩=some (.slice (some ⟨b,0,none⟩) n c)∧j.frozen? ⟨L,1,none⟩=false∧L<j.heap.size):=fun j aD=>⟨(au aD).2,ar aD 1,(Za aD)⟩;clear aR az aA ay aQ p q u aw ax aM aN aP q1 q2 M aa s i F h U W V aj aK;have bA:IntKind.i64.wrap ((l:Int)+1)=(l:Int)+1:=(by rw[Fa];omega);have bB:IntKind.i64.wrap ((l:Int)+2)=(l:Int)+2:=(by rw[Fa];omega);have bC:max (l:Int) 0=(l:Int):=(by omega);rcases bh with rfl | ⟨rfl,rfl⟩
   focus
     rw[show ((l+1:Nat):Int) - 1=(l:Int) by omega] at D;rw[show ((l+1:Nat):Int)+1=(l:Int)+1+1 by omega] at E;go_enter func99,ntmps99;(go_wp2_with fail);refine D.mono ?_;rintro e j ⟨rfl,rfl⟩;(go_wp2_with fail);refine E.mono ?_;rintro e O ⟨rfl,rfl⟩;(go_upto_region 1 with fail);refine Zg (fun o:World=>o.cell? ⟨L,1,none⟩=some (.slice (some ⟨b,0,none⟩) n c)∧o.cell? ⟨b,l,none⟩=some (.iface ad ae)∧o.cell? ⟨b,l+1,none⟩=some (.iface af ah)∧L<o.heap.size∧b<o.heap.size) (⟨al,ab,ai,aG,N⟩) (fun aE=>?_);refine Zx .a0 ?_;refine Zx .a1 ?_;refine Zx .a2 ?_;refine Zy .a3 (fun B f=>by (try dsimp only at f);obtain⟨H,I,J,R,S⟩:=f;go_simp;rfl) ?_;(try simp only[Zq]);refine Zx .a4 ?_;refine Zw (.pointer (some ⟨b,l,none⟩)) .a5 ?_ ?_;·intro B f;go_simp;intro aV;omega
     refine Zy .a6 (fun B f=>by (try dsimp only at f);obtain⟨H,I,J,R,S⟩:=f;go_simp;rfl) ?_;refine Zx .a7 ?_;(try simp only[Zq]);refine Zx .a8 ?_;refine Zx .a9 ?_;refine Zy (.t .a0) (fun B f=>by (try dsimp only at f);obtain⟨H,I,J,R,S⟩:=f;go_simp;rfl) ?_;refine Zx (.t .a1) ?_;(try simp only[Zq]);refine Zx (.t .a2) ?_;refine Zw (.pointer (some ⟨b,l+1,none⟩)) (.t .a3) ?_ ?_;·intro B f;go_simp;intro aV;omega
   rotate_left
   focus
     rw[show ((0:Nat):Int) - 1=-1 by omega] at D;rw[show ((0:Nat):Int)+1=1 by omega] at E;rw[show ((0:Nat):Int)+1=1 by omega,show ((0:Nat):Int)+2=2 by omega,EK] at aS;rw[EK] at ai;have bD:max (-1:Int) 0=0:=(by decide);go_enter func99,ntmps99;(go_wp2_with fail);refine D.mono ?_;rintro e j ⟨rfl,rfl⟩;(go_wp2_with fail);refine E.mono ?_;rintro e O ⟨rfl,rfl⟩;(go_upto_region 1 with fail);refine Zg (fun o:World=>o.cell? ⟨L,1,none⟩=some (.slice (some ⟨b,0,none⟩) n c)∧o.cell? ⟨b,0,none⟩=some (.iface ad ae)∧o.cell? ⟨b,1,none⟩=some (.iface af ah)∧L<o.heap.size∧b<o.heap.size) (⟨al,ab,ai,aG,N⟩) (fun aE=>?_);refine Zx .a0 ?_;refine Zx .a1 ?_;refine Zx .a2 ?_;(try simp only[Zq]);refine Zy .a3 (fun B f=>by (try dsimp only at f);obtain⟨H,I,J,R,S⟩:=f;go_simp;rfl) ?_;refine Zx .a4 ?_;refine Zx .a5 ?_;refine Zy .a6 (fun B f=>by (try dsimp only at f);obtain⟨H,I,J,R,S⟩:=f;go_simp;rfl) ?_;(try simp only[Zq]);refine Zx .a7 ?_;refine Zx .a8 ?_;refine Zx .a9 ?_;refine Zy (.t .a0) (fun B f=>by (try dsimp only at f);obtain⟨H,I,J,R,S⟩:=f;go_simp;rfl) ?_;(try simp only[Zq]);refine Zx (.t .a1) ?_;refine Zw (.int .i64 1) (.t .a2) ?_ ?_;·intro B f;go_simp;rfl
     refine Zw (.pointer (some ⟨b,1,none⟩)) (.t .a3) ?_ ?_;·intro B f;go_simp;intro aV;omega
   rotate_left
   all_goals
     refine Zy (.t .a4) (fun B f=>by (try dsimp only at f);obtain⟨H,I,J,R,S⟩:=f;go_simp;rfl) ?_;(try simp only[Zq]);refine Zr [15] ?_;refine rdA (.t .a5) (fun bi aW=>?_) Ei;go_simp;refine aS.out.mono ?_;rintro e bj ⟨rfl,bk,⟨aX,aY,aZ⟩,a0⟩;obtain⟨a1,bl,a2⟩:=aU.out bj bk;(go_wp2_with fail);refine aW.out _ _ (⟨a1,aX,aY,a2,aZ⟩) (fun aE=>?_);clear aW bi;(try simp only[Zq]);clear aE aX aY aZ;refine Zd ?_;(go_wp2_with fail);refine a0.out.mono ?_;rintro e bm ⟨rfl,bn,A⟩;have Z:=hidI A;obtain⟨H,I,J⟩:=aU.out bm bn;clear A a0 a1 bl a2;(go_wp2_with fail);go_end0
     exact Z.out
end Go.Proofs.YtggmghkcdfjdoaaGreat
