import Derived.Test.YtggmghkcdfjdoaaGreatHTks
import Derived.Test.YtggmghkcdfjdoaaGreatHTlr
import Derived.Test.YtggmghkcdfjdoaaGreatHTgf
import Derived.Test.YtggmghkcdfjdoaaGreatHTui
import Derived.Test.YtggmghkcdfjdoaaGreatHTvr
import Derived.Test.YtggmghkcdfjdoaaGreatHTvc
import Derived.Test.YtggmghkcdfjdoaaGreatHTwq
import Derived.Test.YtggmghkcdfjdoaaGreatHTpx
namespace Go.Proofs.YtggmghkcdfjdoaaGreat
set_option maxHeartbeats 4000000
open Go.RowKit Tryz
set_option linter.unusedVariables false
set_option linter.unusedSimpArgs false
set_option maxRecDepth 100000
variable {a b d k t x y:T} {h:Int} {i m:Nat} {key:ByteArray} {r:Bool} {ys:List T}
theorem kh (g:t.good r=true) (h:cg t) {k:Nat} (i:k<=t.size):iU (t.fore k) k k:=by
 have b:=aF g;have c:=(bj t).1 h;refine⟨rfl,?_,fun a=>?_,fun d e=>⟨b.2.2 d (EI e),c.2 d (EI e)⟩⟩;·cases a:t.leaf<;>simp[T.size,T.fore,a] at i ⊢<;>omega
 ·have f:t.leaf=true:=a;obtain⟨j,l,m⟩:=b.2.1 f;refine⟨by simp[T.fore,j],by simp[T.fore,l],fun x n=>?_,by simp[T.fore,c.1 f]⟩;have o:x ∈ (t.vals.zip t.over).take k:=(by rw[<-gP];exact n);exact jg (m x (EI o))
theorem rJ (g:t.good r=true) (h:cg t) {k:Nat} (i:k<=t.size):iU (t.rest k) (t.size - k) (t.size - k):=by
 have b:=aF g;have c:=(bj t).1 h;refine⟨rfl,?_,fun a=>?_,fun d e=>⟨b.2.2 d (EF e),c.2 d (EF e)⟩⟩;·cases a:t.leaf<;>simp[T.size,T.rest,a] at i ⊢
 ·have f:t.leaf=true:=a;obtain⟨j,l,m⟩:=b.2.1 f;refine⟨by simp[T.rest,j],by simp[T.rest,l],fun x n=>?_,by simp[T.rest,c.1 f]⟩;have o:x ∈ (t.vals.zip t.over).drop k:=(by rw[<-gQ];exact n);exact jg (m x (EF o))
theorem ki {j:Nat} (c:iU a i i) (d:iU b j j) (e:a.leaf=b.leaf):iU (ag a b) (i+j) (i+j):=by
 refine⟨rfl,?_,fun h=>?_,fun f l=>?_⟩;·have m:=c.size;have n:=d.size;cases g:b.leaf<;>rw[g] at e<;>simp[T.size,ag,e,g] at m n ⊢<;>omega
 ·have k:a.leaf=true:=h;have o:b.leaf=true:=(by rw[<-e];exact k);obtain⟨p,q,r,s⟩:=c.leaf k;obtain⟨t,u,v,w⟩:=d.leaf o;refine⟨by simp[ag,p,t],by simp[ag,q,u],fun x y=>?_,by simp[ag,s,w]⟩;have z:x ∈ a.vals.zip a.over++b.vals.zip b.over:=(by rw[<-List.zip_append (by omega)];exact y);rcases EG.1 z with h | h;·exact r x h
  ·exact v x h
 ·rcases EG.1 (show f ∈ a.kids++b.kids from l) with h | h;·exact c.kids f h
  ·exact d.kids f h
theorem Aq (t:T) (e:t.leaf=true->t.vals.length=t.keys.length∧t.over.length=t.keys.length∧t.kids=[]) (f:t.leaf=false->t.keys=[]∧t.vals=[]∧t.over=[]):t.fore t.size=⟨t.leaf,0,t.keys,t.vals,t.over,t.kids⟩:=by
 unfold T.fore;cases a:t.leaf;·obtain⟨b,c,d⟩:=f a;simp[T.size,a,b,c,d]
 ·obtain⟨b,c,d⟩:=e a;simp only[T.size,a,if_true,d,List.take_nil];rw[List.take_length,<-b,List.take_length,b,<-c,List.take_length]
theorem rK (t b:T) (a:t.leaf=true->t.vals.length=t.keys.length∧t.over.length=t.keys.length∧t.kids=[]) (c:t.leaf=false->t.keys=[]∧t.vals=[]∧t.over=[]):ag t b=ag (t.fore t.size) b∧ag b t=ag b (t.fore t.size):=by
 rw[Aq t a c];exact⟨rfl,rfl⟩
theorem nH (h:bv t) {k:Nat} (m:0<k):bv (t.fore k):=by
 have b:=(aC t).1 h;rw[aC];refine⟨fun c=>by simp[T.fore,b.1 c],fun c=>?_,fun d e=>b.2.2 d (EI e)⟩;obtain⟨f,g,i,j⟩:=b.2.1 c;refine⟨by simp[T.fore,f],by simp[T.fore,g],by simp[T.fore,i],fun l=>j ?_⟩;have a:(t.kids.take k)=[]:=l;rw[List.take_eq_nil_iff] at a;rcases a with a | a;·omega
 ·exact a
theorem nI (h:bv t) {k:Nat} (c:k<t.size):bv (t.rest k):=by
 have b:=(aC t).1 h;rw[aC];refine⟨fun a=>by simp[T.rest,b.1 a],fun a=>?_,fun d e=>b.2.2 d (EF e)⟩;have f:t.leaf=false:=a;obtain⟨g,i,j,n⟩:=b.2.1 a;refine⟨by simp[T.rest,g],by simp[T.rest,i],by simp[T.rest,j],fun l=>?_⟩;have m:(t.kids.drop k)=[]:=l;rw[List.drop_eq_nil_iff] at m;simp[T.size,f] at c;omega
theorem nJ (i:bv a) (j:bv b) (g:a.leaf=b.leaf):bv (ag a b):=by
 have d:=(aC a).1 i;have e:=(aC b).1 j;rw[aC];refine⟨fun h=>?_,fun h=>?_,fun f k=>?_⟩;·have c:a.leaf=true:=h;simp[ag,d.1 c,e.1 (g ▸ c)]
 ·have c:a.leaf=false:=h;obtain⟨l,m,n,o⟩:=d.2.1 c;obtain⟨p,q,r,s⟩:=e.2.1 (g ▸ c);exact⟨by simp[ag,l,p],by simp[ag,m,q],by simp[ag,n,r],by simp[ag,o]⟩
 ·rcases EG.1 (show f ∈ a.kids++b.kids from k) with h | h;·exact d.2.2 f h
  ·exact e.2.2 f h
theorem tF (h:bv t) (i:0<=t.ht) {k:Nat} (n:0<k):(t.fore k).ht=t.ht:=by
 have j:=(aC t).1 h;cases d:t.leaf
 ·have f:=(j.2.1 d).2.2.2;have g:=eI d f i;obtain⟨a,o,l⟩:=EX f;have q:=g a (by rw[l];exact Et ..);have:=gw (p:=0) (a:=t.keys.take k) (b:=t.vals.take k) (c:=t.over.take k) (ys:=t.kids.take k) (h:=t.ht - 1) (fun e=>by
   rw[List.take_eq_nil_iff] at e;rcases e with e | e;·omega
   ·exact f e) (by omega) (fun y m=>(g y (EI m)).1)
  unfold T.fore;rw[d,this];omega
 ·rw[T.ht_eq,T.ht_eq t,d];simp[T.fore,d]
theorem tG (h:bv t) (g:0<=t.ht) {k:Nat} (i:k<t.size):(t.rest k).ht=t.ht:=by
 have j:=(aC t).1 h;cases d:t.leaf;·have e:=(j.2.1 d).2.2.2;have f:=eI d e g;obtain⟨a,o,l⟩:=EX e;have q:=f a (by rw[l];exact Et ..);simp[T.size,d] at i;have:=gw (p:=0) (a:=t.keys.drop k) (b:=t.vals.drop k) (c:=t.over.drop k) (ys:=t.kids.drop k) (h:=t.ht - 1) (fun m=>by rw[List.drop_eq_nil_iff] at m;omega) (by omega) (fun y n=>(f y (EF n)).1);unfold T.rest;rw[d,this];omega
 ·rw[T.ht_eq,T.ht_eq t,d];simp[T.rest,d]
theorem tH (i:bv a) (j:bv b) (k:0<=a.ht) (s:b.ht=a.ht) (f:a.leaf=b.leaf):(ag a b).ht=a.ht:=by
 have l:=(aC a).1 i;have m:=(aC b).1 j;cases d:a.leaf
 ·have e:=(l.2.1 d).2.2.2;have n:=(m.2.1 (f ▸ d)).2.2.2;have g:=eI d e k;have o:=eI (f ▸ d) n (by omega);obtain⟨x,t,q⟩:=EX e;have u:=g x (by rw[q];exact Et ..);have:=gw (p:=0) (a:=a.keys++b.keys) (b:=a.vals++b.vals) (c:=a.over++b.over) (ys:=a.kids++b.kids) (h:=a.ht - 1) (by simp[e]) (by omega) (fun y r=>by
   rcases EG.1 r with h | h;·exact (g y h).1
   ·have:=(o y h).1;omega)
  unfold ag;rw[d,this];omega
 ·rw[T.ht_eq,T.ht_eq a,d];simp[ag,d]
theorem xT (h:bv t) (c:0<=t.ht):t.leaf=true ↔ t.ht=0:=by
 cases a:t.leaf;·have b:=(((aC t).1 h).2.1 a).2.2.2;obtain⟨x,e,d⟩:=EX b;have:=eI a b c x (by rw[d];exact Et ..);simp;omega
 ·rw[T.ht_eq,a];simp
theorem pI (h:bv t) (c:t.leaf=true->t.vals.length=t.keys.length∧t.over.length=t.keys.length) (k:Nat):(t.fore k).slots++(t.rest k).slots=t.slots:=by
 have b:=(aC t).1 h;cases a:t.leaf;·simp only[T.slots_eq,T.fore,T.rest,a,EC,EO,ED];rw[<-Fc,<-E5,EV]
 ·simp only[T.slots_eq,T.fore,T.rest,a,if_true,b.1 a,List.take_nil,List.drop_nil,E6,List.flatten_nil,EN];rw[gP,gP,gQ,gQ,EV]
theorem me (g:bv a) (h:bv b) (d:a.leaf=b.leaf) (i:a.leaf=true->a.vals.length=a.keys.length∧a.over.length=a.keys.length):(ag a b).slots=a.slots++b.slots:=by
 have e:=(aC a).1 g;have f:=(aC b).1 h;cases c:a.leaf;·rw[T.slots_eq,T.slots_eq a,T.slots_eq b,<-d,c];simp[ag,c]
 ·obtain⟨j,k⟩:=i c;rw[T.slots_eq,T.slots_eq a,T.slots_eq b,<-d,c,e.1 c,f.1 (d ▸ c)];simp only[ag,c,if_true,e.1 c,f.1 (d ▸ c),EN,E6,List.flatten_nil];rw[List.zip_append (by omega),List.zip_append (by simp;omega)]
structure ng (t:T) (h:Int):Prop where
 good:t.good false=true
 neat:bv t
 ht:t.ht=h
structure wj (t:T) (h:Int):Prop where
 soft:iU t 1 1
 neat:bv t
 ht:t.ht=h
theorem ng.lens (f:ng t h):(t.leaf=true->t.vals.length=t.keys.length∧t.over.length=t.keys.length∧t.kids=[])∧(t.leaf=false->t.keys=[]∧t.vals=[]∧t.over=[]):=by
 have b:=(aC t).1 f.neat;have c:=aF f.good;exact⟨fun a=>⟨(c.2.1 a).1,(c.2.1 a).2.1,b.1 a⟩,fun a=>⟨(b.2.1 a).1,(b.2.1 a).2.1,(b.2.1 a).2.2.1⟩⟩
theorem wj.lens (f:wj t h):(t.leaf=true->t.vals.length=t.keys.length∧t.over.length=t.keys.length∧t.kids=[])∧(t.leaf=false->t.keys=[]∧t.vals=[]∧t.over=[]):=by
 have b:=(aC t).1 f.neat;exact⟨fun a=>⟨(f.soft.leaf a).1,(f.soft.leaf a).2.1,b.1 a⟩,fun a=>⟨(b.2.1 a).1,(b.2.1 a).2.1,(b.2.1 a).2.2.1⟩⟩
theorem ng.size (f:ng t h):2<=t.size∧t.size<=4:=by simpa using (aF f.good).1
theorem jx (j:0<=h) (c:bv a) (d:bv b) (k:a.ht=h) (l:b.ht=h):a.leaf=b.leaf:=by
 have e:=xT c (by omega);have f:=xT d (by omega);cases g:a.leaf<;>cases i:b.leaf<;>simp[g,i] at e f ⊢<;>omega
theorem jR {k:Nat} (a:iU t k k) (d:2<=k∧k<=4) (b:bv t) (c:t.ht=h):ng t h :=
 ⟨a.good false (by have:=a.size;simp;omega) (by have:=a.size;omega),b,c⟩
def i4 (x y:T):List T:=[x.fore (x.size - 1),ag (x.rest (x.size - 1)) y]
def jy (x y:T):List T:=[ag x (y.fore 1),y.rest 1]
theorem yU (i:0<=h) (a:ng x h) (b:wj y h) (q:2<x.size):(∀ j ∈ i4 x y,ng j h)∧((i4 x y).map T.slots).flatten=x.slots++y.slots:=by
 have r:=a.size;have n:=kh a.good a.neat.shape (k:=x.size - 1) (by omega);have d:=rJ a.good a.neat.shape (k:=x.size - 1) (by omega);rw[show x.size - (x.size - 1)=1 by omega] at d;have o:=nH a.neat (k:=x.size - 1) (by omega);have e:=nI a.neat (k:=x.size - 1) (by omega);have l:=tF a.neat (by rw[a.ht];exact i) (k:=x.size - 1) (by omega);have f:=tG a.neat (by rw[a.ht];exact i) (k:=x.size - 1) (by omega);rw[a.ht] at l f;have g:=jx i e b.neat f b.ht;have p:(x.rest (x.size - 1)).leaf=true->(x.rest (x.size - 1)).vals.length=(x.rest (x.size - 1)).keys.length∧(x.rest (x.size - 1)).over.length=(x.rest (x.size - 1)).keys.length:=fun c=>⟨(d.leaf c).1,(d.leaf c).2.1⟩;refine⟨fun j m=>?_,?_⟩
 ·simp only[i4,EL,Fy,or_false] at m;rcases m with rfl | rfl;·exact jR n (by omega) o l
  ·exact jR (ki d b.soft g) (by omega) (nJ e b.neat g) (by rw[tH e b.neat (by omega) (by rw[b.ht,f]) g,f])
 ·simp only[i4,Ex,E6,EW,List.flatten_nil,EN];rw[me e b.neat g p,<-EA,pI a.neat (fun c=>⟨(a.lens.1 c).1,(a.lens.1 c).2.1⟩)]
theorem yV (d:0<=h) (b:wj x h) (a:ng y h) (p:2<y.size):(∀ i ∈ jy x y,ng i h)∧((jy x y).map T.slots).flatten=x.slots++y.slots:=by
 have q:=a.size;have m:=kh a.good a.neat.shape (k:=1) (by omega);have n:=rJ a.good a.neat.shape (k:=1) (by omega);have e:=nH a.neat (k:=1) (by omega);have o:=nI a.neat (k:=1) (by omega);have g:=tF a.neat (by rw[a.ht];exact d) (k:=1) (by omega);have j:=tG a.neat (by rw[a.ht];exact d) (k:=1) (by omega);rw[a.ht] at g j;have f:=jx d b.neat e b.ht g;refine⟨fun i l=>?_,?_⟩
 ·simp only[jy,EL,Fy,or_false] at l;rcases l with rfl | rfl;·exact jR (ki b.soft m f) (by omega) (nJ b.neat e f) (by rw[tH b.neat e (by rw[b.ht];exact d) (by rw[b.ht,g]) f,b.ht])
  ·exact jR n (by omega) o j
 ·simp only[jy,Ex,E6,EW,List.flatten_nil,EN];rw[me b.neat e f (fun c=>⟨(b.lens.1 c).1,(b.lens.1 c).2.1⟩),EA,pI a.neat (fun c=>⟨(a.lens.1 c).1,(a.lens.1 c).2.1⟩)]
theorem xU (f:0<=h) (l:(wj x h∧ng y h∧y.size=2)∨(ng x h∧x.size=2∧wj y h)):ng (ag x y) h∧(ag x y).slots=x.slots++y.slots:=by
 rcases l with ⟨a,b,d⟩ | ⟨a,d,b⟩
 focus
   have c:=jx f a.neat b.neat a.ht b.ht;have e:=kh b.good b.neat.shape (k:=y.size) (Ek _);rw[d] at e;have g:=(rK y x b.lens.1 b.lens.2).2;have i:iU (ag x y) (1+2) (1+2):=by rw[g,d];exact ki a.soft e c
 rotate_left
 focus
   have c:=jx f a.neat b.neat a.ht b.ht;have e:=kh a.good a.neat.shape (k:=x.size) (Ek _);rw[d] at e;have g:=(rK x y a.lens.1 a.lens.2).1;have i:iU (ag x y) (2+1) (2+1):=by rw[g,d];exact ki e b.soft c
 rotate_left
 all_goals
   exact⟨jR i (by omega) (nJ a.neat b.neat c) (by rw[tH a.neat b.neat (by rw[a.ht];exact f) (by rw[a.ht,b.ht]) c,a.ht]),me a.neat b.neat c (fun j=>⟨(a.lens.1 j).1,(a.lens.1 j).2.1⟩)⟩
def eh (ys:List T) (i:Nat) (f:T->T->List T):List T:=ys.take i++f (ys.getD i br) (ys.getD (i+1) br)++ys.drop (i+2)
def dW (ys:List T) (m:Nat):List T :=
 if 0<m∧2<(ys.getD (m - 1) br).size then eh ys (m - 1) i4
 else if m+1<ys.length∧2<(ys.getD (m+1) br).size then eh ys m jy
 else eh ys (m - 1) (fun x y=>[ag x y])
theorem Ar (a:ys[i]?=some x) (b:ys[i+1]?=some y):ys=ys.take i++x::y::ys.drop (i+2):=by
 obtain⟨g,c⟩:=EQ.1 a;obtain⟨h,d⟩:=EQ.1 b;have e:x::ys.drop (i+1)=ys.drop i:=by rw[<-c,List.getElem_cons_drop]
 have f:y::ys.drop (i+2)=ys.drop (i+1):=by rw[<-d,List.getElem_cons_drop]
 rw[f,e,EV]
theorem kj {f:T->T->List T} (j:ys[i]?=some x) (k:ys[i+1]?=some y) (l:(∀ a ∈ f x y,ng a h)∧((f x y).map T.slots).flatten=x.slots++y.slots) (m:∀ (c:Nat) a,c≠i->c≠i+1->ys[c]?=some a->ng a h):(∀ a ∈ eh ys i f,ng a h)∧((eh ys i f).map T.slots).flatten=(ys.map T.slots).flatten∧(eh ys i f).length+2=ys.length+(f x y).length:=by
 have e:eh ys i f=ys.take i++f x y++ys.drop (i+2):=by unfold eh;simp[List.getD,j,k]
 have n:=Ar j k;refine⟨fun a b=>?_,?_,?_⟩
 ·rw[e] at b;rcases EG.1 b with b | b
  ·rcases EG.1 b with b | b;·obtain⟨c,g,d⟩:=List.mem_iff_getElem.1 b;rw[Eu] at g;exact m c a (by omega) (by omega) (by rw[List.getElem_take] at d;rw[<-d];exact Eh (by omega))
   ·exact l.1 a b
  ·obtain⟨c,g,d⟩:=List.mem_iff_getElem.1 b;rw[ET] at g;exact m (i+2+c) a (by omega) (by omega) (by rw[List.getElem_drop] at d;rw[<-d];exact Eh (by omega))
 ·rw[e]
  conv=>rhs;rw[n]
  simp only[E5,Fc,Ex,EW,l.2,EA]
 ·rw[e];have:=congrArg List.length n;simp only[El,EU] at this ⊢;omega
theorem As (s:0<=h) (F:2<=ys.length) (p:ys[m]?=some d) (t:wj d h) (e:∀ (c:Nat) a,c≠m->ys[c]?=some a->ng a h):(∀ a ∈ dW ys m,ng a h)∧((dW ys m).map T.slots).flatten=(ys.map T.slots).flatten∧ys.length<=(dW ys m).length+1∧(dW ys m).length<=ys.length:=by
 have G:=Zc p;unfold dW;by_cases q:0<m∧2<(ys.getD (m - 1) br).size;·rw[if_pos q];obtain⟨x,g⟩:∃ x,ys[m - 1]?=some x:=⟨_,Eh (by omega)⟩;have u:ys.getD (m - 1) br=x:=(by simp[List.getD,g]);rw[u] at q;have v:ys[m - 1+1]?=some d:=(by rw[show m - 1+1=m by omega];exact p);obtain⟨j,k,l⟩:=kj (f:=i4) g v (yU s (e (m - 1) x (by omega) g) t q.2) (fun c a r w b=>e c a (by omega) b);simp only[i4,EU,List.length_nil] at l;exact⟨j,k,by omega,by omega⟩
 ·rw[if_neg q];by_cases o:m+1<ys.length∧2<(ys.getD (m+1) br).size;·rw[if_pos o];obtain⟨y,n⟩:∃ y,ys[m+1]?=some y:=⟨_,Eh o.1⟩;have z:ys.getD (m+1) br=y:=(by simp[List.getD,n]);rw[z] at o;obtain⟨j,k,l⟩:=kj (f:=jy) p n (yV s t (e (m+1) y (by omega) n) o.2) (fun c a r w b=>e c a r b);simp only[jy,EU,List.length_nil] at l;exact⟨j,k,by omega,by omega⟩
  ·rw[if_neg o];by_cases H:0<m;·obtain⟨x,g⟩:∃ x,ys[m - 1]?=some x:=⟨_,Eh (by omega)⟩;have u:ys.getD (m - 1) br=x:=(by simp[List.getD,g]);have v:ys[m - 1+1]?=some d:=(by rw[show m - 1+1=m by omega];exact p);have D:=e (m - 1) x (by omega) g;have A:x.size=2:=(by have:=D.size;rw[u] at q;omega);obtain⟨B,C⟩:=xU s (.inr ⟨D,A,t⟩);obtain⟨j,k,l⟩:=kj (f:=fun x y=>[ag x y]) g v ⟨fun a b=>by simp at b;subst b;exact B,by simp[C]⟩ (fun c a r w b=>e c a (by omega) b);simp only[EU,List.length_nil] at l;exact⟨j,k,by omega,by omega⟩
   ·obtain rfl:m=0:=(by omega);obtain⟨y,n⟩:∃ y,ys[0+1]?=some y:=⟨_,Eh (by omega)⟩;have z:ys.getD (0+1) br=y:=(by simp only[List.getD,n,Ft]);have E:=e (0+1) y (by omega) n;have A:y.size=2:=(by have:=E.size;rw[z] at o;omega);obtain⟨B,C⟩:=xU s (.inl ⟨t,E,A⟩);obtain⟨j,k,l⟩:=kj (i:=0) (f:=fun x y=>[ag x y]) p n ⟨fun a b=>by simp at b;subst b;exact B,by simp[C]⟩ (fun c a r w b=>e c a r b);simp only[EU,List.length_nil] at l;rw[show 0 - 1=0 from rfl];exact⟨j,k,by omega,by omega⟩
def fI (key:ByteArray) (zs:List (ByteArray × ByteArray × Int)):List (ByteArray × ByteArray × Int):=zs.take (bm key zs)++zs.drop (bm key zs+1)
def ia (m:Nat) (y:List T) (d:T):List T:=if d.size<2 then dW (y.set m d) m else y.set m d
def bQ (key:ByteArray):T->T
 | ⟨l,p,k,v,o,y⟩=>if l then cw (fI key (k.zip (v.zip o))) else ⟨false,0,[],[],[],ia (ci key y) y ((y.map (bQ key)).getD (ci key y) br)⟩
theorem i5 (h:t.leaf=true):bQ key t=cw (fI key (t.keys.zip (t.vals.zip t.over))):=by
 obtain⟨a,b,k,c,d,y⟩:=t;simp at h;rw[bQ];simp[h]
theorem ic (h:t.leaf=false) (a:t.kids[ci key t.kids]?=some k):bQ key t=⟨false,0,[],[],[],ia (ci key t.kids) t.kids (bQ key k)⟩:=by
 obtain⟨b,c,d,e,f,y⟩:=t;simp at h a;rw[bQ];have:(y.map (bQ key)).getD (ci key y) br=bQ key k:=by simp[List.getD,a]
 simp only[h,EC,EO,this]
theorem dO:∀ (b:List (ByteArray × ByteArray × Int)),bl b->(∃ c ∈ b,c.1=key)->bm key b<b.length∧(b.getD (bm key b) (ByteArray.empty,ByteArray.empty,0)).1=key
 | [],_,⟨c,h,_⟩=>by simp at h
 | a::r,hs,⟨c,h,e⟩=>by
  have d:=List.pairwise_cons.1 hs
  rcases EL.1 h with rfl | h
  ·have f:¬ aH c.1 key=true:=by rw[e];exact aQ _
   rw[bm,if_neg f]
   exact⟨by simp,by simpa[List.getD] using e⟩
  ·have g:aH a.1 key=true:=by rw[<-e];exact d.1 c h
   have i:=dO r d.2 ⟨c,h,e⟩
   rw[bm,if_pos g]
   exact⟨by simp only[EU];omega,by simpa[List.getD] using i.2⟩
theorem Au {A B C:List (ByteArray × ByteArray × Int)} (a:∀ s ∈ A,aH s.1 key=true) (b:∀ s ∈ C,aH key s.1=true) (f:bm key B<B.length):fI key (A++B++C)=A++fI key B++C:=by
 have c:bm key (A++B++C)=A.length+bm key B:=by rw[EA,jP A _ a,nE B C b]
 unfold fI;rw[c];have d:(A++B++C).take (A.length+bm key B)=A++B.take (bm key B):=by rw[EA,List.take_length_add_append,EM (by omega)]
 have e:(A++B++C).drop (A.length+bm key B+1)=B.drop (bm key B+1)++C:=by rw[Fx,EA,List.drop_length_add_append,Fh (by omega)]
 rw[d,e];simp
theorem jS {zs:List (ByteArray × ByteArray × Int)} (h:bm key zs<zs.length):(fI key zs).length+1=zs.length:=by
 unfold fI;rw[El,Eu,ET];omega
theorem vr {zs:List (ByteArray × ByteArray × Int)} {s:ByteArray × ByteArray × Int} (h:s ∈ fI key zs):s ∈ zs:=by
 unfold fI at h;rcases EG.1 h with h | h;·exact EI h
 ·exact EF h
theorem yW (a:ys[m]?=some k):((ys.set m d).map T.slots).flatten=((ys.take m).map T.slots).flatten++d.slots++((ys.drop (m+1)).map T.slots).flatten:=by
 have b:=Zc a;rw[List.set_eq_take_append_cons_drop,if_pos b];simp
structure BX (key:ByteArray) (t d:T):Prop where
 soft:iU d (t.size - 1) 4
 neat:0<d.size->bv d
 ht:0<d.size->d.ht=t.ht
 slots:d.slots=fI key t.slots
theorem nK (key:ByteArray):∀ (t:T) (r:Bool),t.good r=true->bv t->0<=t.ht->bl t.slots->(∃ i ∈ t.slots,i.1=key)->BX key t (bQ key t):=by
 intro t
 induction t using T.ind with
 |h t R=>
  intro r m S U s u;have o:=(aC t).1 S;have B:=aF m;cases e:t.leaf
  ·have ae:=dg m e;have C:0<t.kids.length:=(by omega);obtain⟨k,p,j⟩:=fA (key:=key) (ys:=t.kids) C;obtain⟨D,E,F,G⟩:=jj e ⟨r,m⟩ s (ji (key:=key) C) p;have q:=eI e (o.2.1 e).2.2.2 U;have H:=aY m j;have I:∃ i ∈ k.slots,i.1=key:=by
    obtain⟨i,b,c⟩:=u;rw[G] at b;rcases EG.1 b with b | b
    ·rcases EG.1 b with b | b;·have:=D i b;rw[c] at this;exact absurd this (aQ _)
     ·exact⟨i,b,c⟩
    ·have:=E i b;rw[c] at this;exact absurd this (aQ _)
   have g:=R k j false H (o.2.2 k j) (q k j).2 F I;have af:2<=k.size:=(by simpa using (aF H).1.1);have v:0<(bQ key k).size:=(by have:=g.soft.size;omega);have w:=dO k.slots F I;rw[ic e p];have b:=Zc p;have V:(t.kids.set (ci key t.kids) (bQ key k))[ci key t.kids]?=some (bQ key k):=(by simp[b]);have J:∀ (l:Nat) a,l≠ci key t.kids->(t.kids.set (ci key t.kids) (bQ key k))[l]?=some a->ng a (t.ht - 1):=fun l a x f=>(by rw[Fl (Ne.symm x)] at f;have z:=Ew f;exact⟨aY m z,o.2.2 a z,(q a z).1⟩);have K:(bQ key k).ht=t.ht - 1:=(by rw[g.ht v];exact (q k j).1);have L:0<=t.ht - 1:=(by have:=q k j;omega);have n:=yW (d:=bQ key k) p;have M:((t.kids.take (ci key t.kids)).map T.slots).flatten++(bQ key k).slots++((t.kids.drop (ci key t.kids+1)).map T.slots).flatten=fI key t.slots:=(by rw[g.slots,G,Au D E w.1]);obtain⟨q1,q2,q3,ag⟩:(∀ a ∈ ia (ci key t.kids) t.kids (bQ key k),ng a (t.ht - 1))∧((ia (ci key t.kids) t.kids (bQ key k)).map T.slots).flatten=fI key t.slots∧t.kids.length<=(ia (ci key t.kids) t.kids (bQ key k)).length+1∧(ia (ci key t.kids) t.kids (bQ key k)).length<=t.kids.length:=by
    unfold ia;split;·rename_i W;have ah:(bQ key k).size=1:=(by omega);have A:wj (bQ key k) (t.ht - 1):=⟨⟨g.soft.page,by omega,g.soft.leaf,g.soft.kids⟩,g.neat v,K⟩;obtain⟨X,Y,N,O⟩:=As L (by rw[EP];omega) V A J;rw[EP] at N O;exact⟨X,by rw[Y,n,M],N,O⟩
    ·rename_i W;have A:ng (bQ key k) (t.ht - 1):=⟨g.soft.good false (by simp;omega) g.soft.size.2,g.neat v,K⟩;refine⟨fun a f=>?_,by rw[n,M],by rw[EP];omega,by rw[EP];exact Ek _⟩;obtain⟨l,x,c⟩:=List.mem_iff_getElem.1 f;by_cases P:l=ci key t.kids;·subst P;have:a=bQ key k:=(by rw[<-c];simp);rw[this];exact A
     ·exact J l a P (by rw[<-c];exact Eh x)
   have Z:t.size=t.kids.length:=(by simp[T.size,e]);have Q:ia (ci key t.kids) t.kids (bQ key k)≠[]:=fun c=>(by rw[c] at q3;simp at q3;omega);refine⟨⟨rfl,?_,fun c=>by simp at c,fun a f=>⟨(q1 a f).good,(q1 a f).neat.shape⟩⟩,fun _=>?_,fun _=>?_,?_⟩;·rw[Z];show t.kids.length - 1<=(ia (ci key t.kids) t.kids (bQ key k)).length∧(ia (ci key t.kids) t.kids (bQ key k)).length<=4;omega
   ·rw[aC];exact⟨fun c=>by simp at c,fun _=>⟨rfl,rfl,rfl,Q⟩,fun a f=>(q1 a f).neat⟩
   ·rw[gw Q L (fun y aa=>(q1 y aa).ht)];omega
   ·rw[T.slots_eq];simp only[EC,EO,ED];exact q2
  ·obtain⟨ab,ac,ad⟩:=B.2.1 e;have n:t.slots=t.keys.zip (t.vals.zip t.over):=(by rw[T.slots_eq,e,o.1 e];simp);rw[n] at s u;have w:=dO _ s u;have ai:=jS w.1;have aj:(t.keys.zip (t.vals.zip t.over)).length=t.keys.length:=(by simp[ab,ac]);have ak:t.size=t.keys.length:=(by simp[T.size,e]);rw[i5 e];refine⟨pC (by have:=B.1.2;omega) (fun i b=>jg (ad _ (xP (vr b)))),fun _=>?_,fun _=>?_,?_⟩;·rw[aC];exact⟨fun _=>rfl,fun c=>by simp[cw] at c,fun a f=>by simp[cw] at f⟩
   ·rw[T.ht_eq,T.ht_eq t,e];simp[cw]
   ·rw[n,T.slots_eq];simp only[cw,if_true,E6,List.flatten_nil,EN];exact mH _
def gD (s:ByteArray × ByteArray × Int):ByteArray × ByteArray:=(s.1,s.2.1)
def lc (key val:ByteArray):Bool->List (ByteArray × ByteArray)->List (ByteArray × ByteArray)
 | d,[]=>if d then [] else [(key,val)]
 | d,s::r=>(if (!d && !aH s.1 key)=true then [(key,val)] else [])++(if s.1=key then [] else [s])++lc key val (d || !aH s.1 key) r
def rL (key:ByteArray) (m:List (ByteArray × ByteArray)):List (ByteArray × ByteArray):=m.filter (fun s=>decide (s.1≠key))
def mV (d:T):T:=if d.leaf=false∧d.kids.length=1 then d.kids.headD br else d
def bq (key:ByteArray) (t:T):T:=mV (bQ key t)
theorem Bs (h:t.good false=true):t.good true=true:=by
 rw[T.good_eq] at h ⊢;simp only[Em,Es] at h ⊢;refine⟨⟨⟨⟨⟨?_,h.1.1.1.1.2⟩,h.1.1.1.2⟩,h.1.1.2⟩,h.1.2⟩,h.2⟩;have:=h.1.1.1.1.1;simp at this;split<;>omega
theorem mW (m:t.good true=true) (w:bv t) (x:0<=t.ht) (h:bl t.slots) (y:t.slots.all (fun e=>cy e.1)=true) (q:∃ e ∈ t.slots,e.1=key):(bq key t).good true=true∧bv (bq key t)∧0<=(bq key t).ht∧(bq key t).slots=fI key t.slots∧(bq key t).slots.all (fun e=>cy e.1)=true∧bl (bq key t).slots:=by
 have c:=nK key t true m w x h q;have G:=aF m;have g:(bq key t).good true=true∧bv (bq key t)∧0<=(bq key t).ht∧(bq key t).slots=fI key t.slots:=by
  unfold bq mV;cases l:t.leaf
  ·have H:=dg m l;have I:t.size=t.kids.length:=(by simp[T.size,l]);have z:0<t.kids.length:=(by omega);obtain⟨k,A,J⟩:=fA (key:=key) (ys:=t.kids) z;have d:(bQ key t).leaf=false:=(by rw[ic l A]);have K:(bQ key t).size=(bQ key t).kids.length:=(by simp[T.size,d]);have r:0<(bQ key t).size:=(by have:=c.soft.size;omega);have s:=c.neat r;have L:=c.ht r;have u:=(aC (bQ key t)).1 s;have B:=eI d (u.2.1 d).2.2.2 (by omega);split;·rename_i i;obtain⟨f,j⟩:∃ f,(bQ key t).kids=[f]:=List.length_eq_one_iff.1 i.2;rw[j];have n:f ∈ (bQ key t).kids:=(by rw[j];exact Et ..);refine⟨Bs (c.soft.kids f n).1,u.2.2 f n,(B f n).2,?_⟩;rw[<-c.slots,T.slots_eq (bQ key t),d,j];simp
   ·rename_i i;have o:2<=(bQ key t).size:=(by have:¬ (bQ key t).kids.length=1:=fun p=>i ⟨d,p⟩;omega);exact⟨c.soft.good true (by rw[d];simpa using o) c.soft.size.2,s,by omega,c.slots⟩
  ·have v:=i5 (key:=key) l;have d:(bQ key t).leaf=true:=(by rw[v];rfl);rw[if_neg (by rw[d];simp)];refine⟨c.soft.good true (by rw[d];simp) c.soft.size.2,?_,?_,c.slots⟩;·rw[v,aC];exact⟨fun _=>rfl,fun p=>by simp[cw] at p,fun f j=>by simp[cw] at j⟩
   ·rw[T.ht_eq,d];simp
 refine⟨g.1,g.2.1,g.2.2.1,g.2.2.2,?_,?_⟩;·rw[g.2.2.2,Ez];exact fun e C=>Ez.1 y e (vr C)
 ·rw[g.2.2.2];unfold fI bl;rw[List.pairwise_append];refine⟨List.Pairwise.sublist (List.take_sublist _ _) h,List.Pairwise.sublist (List.drop_sublist _ _) h,fun a D b E=>?_⟩;have i:=mP t.slots a D;have F:=dO t.slots h q;have ht:bO key t.slots=true:=(by unfold bO;exact decide_eq_true F);have o:=oR (key:=key) t.slots h b (by rw[if_pos ht];exact E);exact dh i o
theorem rS (h:bv t) (k:Nat):((t.fore k).nums++(t.rest k).nums).Sublist t.nums:=by
 have a:=(aC t).1 h;rw[T.nums_eq t];refine List.Sublist.trans ?_ (show ((t.over.filter (fun x=>x != 0))++(t.kids.map T.nums).flatten).Sublist _ by rw[EA];exact List.sublist_append_right _ _);cases b:t.leaf;·obtain⟨d,e,c,f⟩:=a.2.1 b;simp only[T.nums_eq,T.fore,T.rest,c,if_true,List.take_nil,List.drop_nil,List.filter_nil,ED];rw[<-Fc,<-E5,EV];exact Fk _
 ·simp only[T.nums_eq,T.fore,T.rest,a.1 b,if_true,List.take_nil,List.drop_nil,ED,E6,List.flatten_nil,EN];rw[<-List.filter_append,EV];exact Fk _
theorem kz (g:bv a) (h:bv b) (d:a.leaf=b.leaf):(ag a b).nums.Sublist (a.nums++b.nums):=by
 have e:=(aC a).1 g;have f:=(aC b).1 h;have i:(a.over.filter (fun x=>x != 0)++(a.kids.map T.nums).flatten).Sublist a.nums:=by rw[T.nums_eq a,EA];exact List.sublist_append_right _ _
 have j:(b.over.filter (fun x=>x != 0)++(b.kids.map T.nums).flatten).Sublist b.nums:=by rw[T.nums_eq b,EA];exact List.sublist_append_right _ _
 refine List.Sublist.trans ?_ (Fe i j);rw[T.nums_eq];cases c:a.leaf;·obtain⟨m,n,k,o⟩:=e.2.1 c;obtain⟨p,q,l,r⟩:=f.2.1 (d ▸ c);simp[ag,k,l]
 ·simp[ag,e.1 c,f.1 (d ▸ c)]
theorem wY (c:0<=h) (a:ng x h) (b:wj y h) (g:2<x.size):(((i4 x y).map T.nums).flatten).Sublist (x.nums++y.nums):=by
 have d:=nI a.neat (k:=x.size - 1) (by omega);have e:=tG a.neat (by rw[a.ht];exact c) (k:=x.size - 1) (by omega);rw[a.ht] at e;have f:=jx c d b.neat e b.ht;simp only[i4,Ex,E6,EW,List.flatten_nil,EN];refine List.Sublist.trans (Fe (Fk _) (kz d b.neat f)) ?_;rw[<-EA];exact Fe (rS a.neat _) (Fk _)
theorem wZ (c:0<=h) (b:wj x h) (a:ng y h) (g:2<y.size):(((jy x y).map T.nums).flatten).Sublist (x.nums++y.nums):=by
 have d:=nH a.neat (k:=1) (by omega);have e:=tF a.neat (by rw[a.ht];exact c) (k:=1) (by omega);rw[a.ht] at e;have f:=jx c b.neat d b.ht e;simp only[jy,Ex,E6,EW,List.flatten_nil,EN];refine List.Sublist.trans (Fe (kz b.neat d f) (Fk _)) ?_;rw[EA];exact Fe (Fk _) (rS a.neat _)
theorem jp {f:T->T->List T} (a:ys[i]?=some x) (b:ys[i+1]?=some y) (c:(((f x y).map T.nums).flatten).Sublist (x.nums++y.nums)):(((eh ys i f).map T.nums).flatten).Sublist ((ys.map T.nums).flatten):=by
 have d:eh ys i f=ys.take i++f x y++ys.drop (i+2):=by unfold eh;simp[List.getD,a,b]
 rw[d]
 conv=>rhs;rw[Ar a b]
 simp only[E5,Fc,Ex,EW];have e:=Fe (Fe (Fk ((ys.take i).map T.nums).flatten) c) (Fk ((ys.drop (i+2)).map T.nums).flatten);simpa only[EA] using e
theorem zb (g:0<=h) (s:2<=ys.length) (e:ys[m]?=some d) (a:wj d h) (k:∀ (j:Nat) z,j≠m->ys[j]?=some z->ng z h):(((dW ys m).map T.nums).flatten).Sublist ((ys.map T.nums).flatten):=by
 have t:=Zc e;unfold dW;by_cases l:0<m∧2<(ys.getD (m - 1) br).size;·rw[if_pos l];obtain⟨x,b⟩:∃ x,ys[m - 1]?=some x:=⟨_,Eh (by omega)⟩;have q:ys.getD (m - 1) br=x:=(by simp[List.getD,b]);rw[q] at l;have n:ys[m - 1+1]?=some d:=(by rw[show m - 1+1=m by omega];exact e);exact jp b n (wY g (k (m - 1) x (by omega) b) a l.2)
 ·rw[if_neg l];by_cases f:m+1<ys.length∧2<(ys.getD (m+1) br).size;·rw[if_pos f];obtain⟨y,c⟩:∃ y,ys[m+1]?=some y:=⟨_,Eh f.1⟩;have r:ys.getD (m+1) br=y:=(by simp[List.getD,c]);rw[r] at f;exact jp e c (wZ g a (k (m+1) y (by omega) c) f.2)
  ·rw[if_neg f];by_cases u:0<m;·obtain⟨x,b⟩:∃ x,ys[m - 1]?=some x:=⟨_,Eh (by omega)⟩;have n:ys[m - 1+1]?=some d:=(by rw[show m - 1+1=m by omega];exact e);have o:=k (m - 1) x (by omega) b;exact jp b n (by simpa using kz o.neat a.neat (jx g o.neat a.neat o.ht a.ht))
   ·obtain rfl:m=0:=(by omega);obtain⟨y,c⟩:∃ y,ys[0+1]?=some y:=⟨_,Eh (by omega)⟩;have p:=k (0+1) y (by omega) c;rw[show 0 - 1=0 from rfl];exact jp (i:=0) e c (by simpa using kz a.neat p.neat (jx g a.neat p.neat a.ht p.ht))
theorem Ay (key:ByteArray):∀ (t:T) (r:Bool),t.good r=true->bv t->0<=t.ht->bl t.slots->(∃ a ∈ t.slots,a.1=key)->(bQ key t).nums.Sublist t.nums:=by
 intro t
 induction t using T.ind with
 |h t A=>
  intro r g B C D E;have i:=(aC t).1 B;have F:=aF g;cases c:t.leaf
  ·have X:=dg g c;have s:0<t.kids.length:=(by omega);obtain⟨k,m,d⟩:=fA (key:=key) (ys:=t.kids) s;obtain⟨G,H,u,I⟩:=jj c ⟨r,g⟩ D (ji (key:=key) s) m;have j:=eI c (i.2.1 c).2.2.2 C;have n:=aY g d;have v:∃ a ∈ k.slots,a.1=key:=by
    obtain⟨a,b,o⟩:=E;rw[I] at b;rcases EG.1 b with b | b
    ·rcases EG.1 b with b | b;·have:=G a b;rw[o] at this;exact absurd this (aQ _)
     ·exact⟨a,b,o⟩
    ·have:=H a b;rw[o] at this;exact absurd this (aQ _)
   have e:=nK key k false n (i.2.2 k d) (j k d).2 u v;have J:=A k d false n (i.2.2 k d) (j k d).2 u v;have Y:2<=k.size:=(by simpa using (aF n).1.1);have w:0<(bQ key k).size:=(by have:=e.soft.size;omega);have b:=Zc m;have K:(t.kids.set (ci key t.kids) (bQ key k))[ci key t.kids]?=some (bQ key k):=(by simp[b]);have L:∀ (p:Nat) l,p≠ci key t.kids->(t.kids.set (ci key t.kids) (bQ key k))[p]?=some l->ng l (t.ht - 1):=fun p l M x=>(by rw[Fl (Ne.symm M)] at x;have q:=Ew x;exact⟨aY g q,i.2.2 l q,(j l q).1⟩);have N:(bQ key k).ht=t.ht - 1:=(by rw[e.ht w];exact (j k d).1);have O:0<=t.ht - 1:=(by have:=j k d;omega);have y:(((t.kids.set (ci key t.kids) (bQ key k)).map T.nums).flatten).Sublist ((t.kids.map T.nums).flatten):=by
    have P:t.kids=t.kids.take (ci key t.kids)++k::t.kids.drop (ci key t.kids+1):=(by rw[<-(EQ.1 m).2,List.getElem_cons_drop,EV]);have Q:(t.kids.map T.nums).flatten=((t.kids.take (ci key t.kids)).map T.nums).flatten++k.nums++((t.kids.drop (ci key t.kids+1)).map T.nums).flatten:=by
     conv=>lhs;rw[P]
     simp
    rw[Q,List.set_eq_take_append_cons_drop,if_pos b];simp only[E5,Fc,Ex,EW];have R:=Fe (Fe (Fk ((t.kids.take (ci key t.kids)).map T.nums).flatten) J) (Fk ((t.kids.drop (ci key t.kids+1)).map T.nums).flatten);simpa only[EA] using R
   have S:(((ia (ci key t.kids) t.kids (bQ key k)).map T.nums).flatten).Sublist ((t.kids.map T.nums).flatten):=by
    unfold ia;split;·have Z:(bQ key k).size=1:=(by omega);have U:wj (bQ key k) (t.ht - 1):=⟨⟨e.soft.page,by omega,e.soft.leaf,e.soft.kids⟩,e.neat w,N⟩;exact List.Sublist.trans (zb O (by rw[EP];omega) K U L) y
    ·exact y
   rw[ic c m,T.nums_eq,T.nums_eq t];simp only[if_true,List.filter_nil,ED];exact List.Sublist.trans S (List.sublist_append_right _ _)
  ·obtain⟨aa,ab,ac⟩:=F.2.1 c;rw[i5 c,T.nums_eq,T.nums_eq t,i.1 c];simp only[cw,if_true,ED,E6,List.flatten_nil,EN];refine List.Sublist.trans ?_ (List.sublist_append_right _ _);have z:t.over=(t.keys.zip (t.vals.zip t.over)).map (fun a=>a.2.2):=(by have V:(t.keys.zip (t.vals.zip t.over)).map (fun a=>a.2)=t.vals.zip t.over:=List.map_snd_zip (by simp;omega);have:(t.keys.zip (t.vals.zip t.over)).map (fun a=>a.2.2)=((t.keys.zip (t.vals.zip t.over)).map (fun a=>a.2)).map (fun a=>a.2):=(by simp);rw[this,V];exact (List.map_snd_zip (by omega)).symm);generalize t.keys.zip (t.vals.zip t.over)=f at z ⊢;rw[z];refine List.Sublist.filter _ (List.Sublist.map _ ?_);unfold fI;have W:(f.drop (bm key f+1)).Sublist (f.drop (bm key f)):=(by rw[<-List.drop_drop];exact List.drop_sublist _ _);have:=Fe (Fk (f.take (bm key f))) W
   rwa [EV] at this
def jV (key:ByteArray) (zs:List (ByteArray × ByteArray × Int)):Prop:=∃ s ∈ zs,s.1=key
def mh (w:World) (P:Nat->Prop) (key:ByteArray) (t:T) (u:Value) (e:Ending) (w':World):Prop :=
 (e=.returned (.bool true)∧jV key t.slots∧(∃ P':Nat->Prop,GM w' P' (bQ key t) u∧∀ b,P' b->(P b∨w.heap.size<=b)∧b<w'.heap.size)∧Fr P w w') ∨
 (e=.returned (.bool false)∧¬ jV key t.slots∧Below w.heap.size w w')
theorem vC {w:World} {P:Nat->Prop} {L:Nat} {a:Option Addr} {n c:Nat} (h:su w P t L a n c) (z:t.leaf=true) (Q:t.kids=[]) (R:bl (t.keys.zip (t.vals.zip t.over))) (av:n<=1000) (S:∀ b,P b->b<w.heap.size) (key:ByteArray) :
  Calls prog 109 #[.pointer (some ⟨L,0,none⟩),.string key] w fun e aw=>mh w P key t (.iface 123 (.pointer (some ⟨L,0,none⟩))) e aw:=by
 obtain⟨A,ax⟩:=Zn w.heap.size;obtain⟨f,q⟩:=Zn (t.keys.zip (t.vals.zip t.over));have U:t.slots=f:=by rw[T.slots_eq,if_pos z,Q,q];simp
 have az:Hid (bQ key t=cw (fI key f)):=by show _=_;rw[i5 z,q]
 have B:=gV h.see R av key;have r:=h.row;rw[q] at B r R;have aH:f.length=n:=by have:=r.1;rw[ay uo] at this;omega
 have aI:L<A:=by have:=S L h.at';omega
 have j:∀ d,(Value.slice a n c).ownBlock=some d->P d∧d≠L∧d<A:=fun d g=>⟨(h.blk d g).1,(h.blk d g).2,by have:=S d (h.blk d g).1;omega⟩;have C:=h.box;have D:=h.at';obtain⟨aJ,V⟩:=Zn t.page;rw[V] at C;have W:=hidI U;clear h q Q z V U;go_enter func109,ntmps109;go_wp2_with fail
 refine B.mono ?_;rintro e X ⟨i,aA,rfl,E,F,G,l⟩;have H:=wG key f i G;have s:=(l.block L (by omega)).trans C;have I:=an r l;have aK:=l.size;clear B C r;cases aA
 ·have J:Hid (mh w P key t (.iface 123 (.pointer (some ⟨L,0,none⟩))) (.returned (.bool false)) X):=.inr ⟨rfl,fun ⟨aL,Y,e⟩=>by rw[W.out] at Y;obtain⟨k,Z,rfl⟩:=List.mem_iff_getElem.1 Y;exact F rfl k Z (by simpa[List.getD,Z] using e),l⟩;clear E F G H s I l;go_wp2_with fail
  go_ret;exact J.out
 ·obtain⟨ab,ac⟩:=E rfl;obtain⟨m,rfl⟩:∃ m,n=m+1:=⟨n - 1,by omega⟩;have aC:Hid (jV key t.slots):=⟨f.getD i (ByteArray.empty,ByteArray.empty,0),by rw[W.out,show f.getD i (ByteArray.empty,ByteArray.empty,0)=f[i] by simp[List.getD,ab]];exact E4 _,ac⟩;have ad:Hid (fI key f=f.take i++f.drop (i+1)):=(by show _=_;unfold fI;rw[<-H]);have aE:i<=m:=(by omega);clear E F G H ab ac;have ae:=gu s;go_wp2_with fail
  refine ae.mono ?_;rintro e u ⟨rfl,K⟩;have o:=af X L 0 (.int .i64 0);rw[<-K] at o;have v:u.heap[L]?=some (.cells #[.int .i64 0,.slice a (m+1) c] 125):=(by rw[K];simpa using aj s 0 (.int .i64 0));have pY:=am I o (fun d g e=>(j d g).2.1 e);have aM:=o.size;have ag:Fr (fun b=>P b∨A<=b) w u:=(Fr.of_below l).trans (o.weak (fun d e=>.inl (by rw[e];exact D)));clear K o s I ae l;have ah:=pT i m c a (aa aB f) u pY aE (by omega) (j6 f);obtain⟨ai,ak⟩:=au v;have aF:L<u.heap.size:=(by omega);have aG:=ar v;go_wp2_with fail
  refine ah.mono ?_;rintro e p ⟨rfl,al,x⟩;have M:=(x.block L aF (fun e=>(j L e).2.1 rfl)).trans v;have aN:=x.size;have ao:=ag.trans (x.weak (fun d e=>.inl (j d e).1));have N:=af p L 1 (.slice a m c);have ap:(p.setCell ⟨L,1,none⟩ (.slice a m c)).heap[L]?=some (.cells #[.int .i64 0,.slice a m c] 125):=(by simpa using aj M 1 (.slice a m c));have O:(Value.slice a m c).ownBlock=(Value.slice a (m+1) c).ownBlock:=(by cases a<;>rfl);have aq:=am al N (fun d g e=>(j d (by rw[<-O];exact g)).2.1 e);have y:(fI key f).length=m:=(by rw[ad.out];simp;omega);have J:Hid (mh w P key t (.iface 123 (.pointer (some ⟨L,0,none⟩))) (.returned (.bool true)) (p.setCell ⟨L,1,none⟩ (.slice a m c))):=by
   have:=jL (w:=w) (P:=P) (L:=L) (c:=c) (a:=a) (zs:=fI key f) (w5:=p.setCell ⟨L,1,none⟩ (.slice a m c)) (by rw[ax];exact ao.trans (N.weak (fun d e=>.inl (by rw[e];exact D)))) (by rw[y];exact ap) (by
    rw[y,ad.out,aD,dM uo,eH uo];exact aq) D (fun d g=>by
    rw[y,O] at g;exact⟨.inl (j d g).1,(j d g).2.1⟩)
   exact .inl ⟨rfl,aC.out,by rw[az.out];exact this.2.1,this.2.2⟩
  have aO:L<p.heap.size:=(by omega);have aP:=ar M;clear pY al aq ag ao x N v ap ai ak aG ah j O y;obtain⟨ai,ak⟩:=au M;go_wp2_with fail
  go_ret;exact J.out
def AE (t:T) (key:ByteArray) (j m:Nat):Prop:=m<j∧(m=0∨∃ k,t.kids[m]?=some k∧oK k.low key=true)∧∀ i k,m<i->i<j->t.kids[i]?=some k->¬ oK k.low key=true
theorem oz (C:Nat) (t:T) (key:ByteArray) (n:∃ r,t.good r=true) (w:t.leaf=false):ep 70 C t [.string key] (fun d R ag=>R=.returned (.int .i64 (ci key t.kids))∧ci key t.kids<t.kids.length∧Below d.heap.size d ag):=by
 intro d x y z A B D E on F G H aT ah S;obtain⟨r,n⟩:=n;obtain⟨f,ai⟩:=dg n w;have aj:Hid (∀ k ∈ t.kids,k.good false=true):=fun k ak=>aY n ak;obtain⟨l,o⟩:∃ l,l=d.alloc (.cells (Zs t.leaf t.page x y z A B D E on F G t.kids.length H) 57):=⟨_,rfl⟩;have g:jB d l d.heap.size (Zs t.leaf t.page x y z A B D E on F G t.kids.length H):=by rw[o];exact jB.new d _
 have q:=S.belowC (g.bel.mono ah);obtain⟨I,U⟩:=Zn d.heap.size;obtain⟨h,J⟩:∃ h,h=t.kids.length:=⟨_,rfl⟩;have K:=hidI J.symm;have al:=q.cap;obtain⟨am,an⟩:=al;unfold maxLen at an;obtain⟨ao,V⟩:=Zn t.page;rw[<-J] at g f ai am o ⊢;rw[w,V] at g o ⊢;clear S J w n V;show Calls prog 70 #[.agg (Zs false ao x y z A B D E on F G h H),.string key] d _;go_enter func70,ntmps70;go_upto_region 1 with fail
 rw[<-o];clear o;have W:=g.lt;have s:=g.box;have X:=g.bel;rw[U] at W s X;clear g;have aU:C<=I:=by omega
 go_wp2_with fail
 go_loopw [5,6] (fun a i wr=>∃ m c:Nat,1<=c∧c<=h∧a=.int .i64 m∧i=.int .i64 c∧Hid (AE t key c m)∧Below l.heap.size l wr) (fun _ i _=>h - (intOf i).toNat)
 case atStart=>exact⟨0,1,by omega,by omega,rfl,rfl,⟨by omega,.inl rfl,fun i k p f=>by omega⟩,Ev _ _⟩
 case round =>
  obtain⟨m,c,aV,aW,rfl,rfl,e,j⟩:=hrel;have L:=(j.block I W).trans s;have M:=q.belowC (j.mono (show C<=l.heap.size by omega));have aX:=j.size;obtain⟨ap,ar,au,av,p4,aw⟩:=aq L;have aZ:I<wr.heap.size:=(by omega);by_cases ax:c<h
  ·obtain⟨b,a0,rfl,a1,k,Y,Z,ay,az,aA,aB,aC,aD,aE,aF,aG,aH,aI,aJ,aa,aK,aL,aM,aN,aO,aP⟩:=M.at (i:=c) (by rw[K.out];exact ax);have N:=ri C k ⟨false,aj.out k Z⟩ wr ay az aA aB aC aD aE aF aG aH aI aJ (by omega) aa;have ab:=hidI Y;obtain⟨aQ,O⟩:=Zn k.low;have ac:=hidI O;rw[O] at N;clear aa M Y Z O q s L;go_wp2_with fail
   refine N.mono ?_;rintro R a2 ⟨rfl,ad⟩;have ae:=hidI (j.trans (ad.mono (by omega)));clear N aK aL aM aN aO aP ap ar au av p4 aw ad j;cases u:oK aQ key
   ·have P:Hid (AE t key (c+1) m):=⟨by have:=e.out.1;omega,e.out.2.1,fun i af p f v=>by
     by_cases aR:i=c;·subst aR;rw[ab.out] at v;simp only[Option.some.injEq] at v;subst v;rw[ac.out,u];simp
     ·exact e.out.2.2 i af p (by omega) v⟩
    unfold oK at u;clear e;(go_wp2_with fail);go_roundw
    case rel=>exact⟨m,c+1,by omega,by omega,rfl,by go_num,P,ae.out⟩
    case measure=>simp[intOf];omega
   ·have P:Hid (AE t key (c+1) c):=⟨by omega,.inr ⟨k,ab.out,by rw[ac.out];exact u⟩,fun i af p f=>by omega⟩;unfold oK at u;clear e;(go_wp2_with fail);go_roundw
    case rel=>exact⟨c,c+1,by omega,by omega,rfl,by go_num,P,ae.out⟩
    case measure=>simp[intOf];omega
  ·have Q:Hid (ci key t.kids=m∧m<h):=⟨wH (t:=t) ⟨by have:=e.out.1;have:=K.out;omega,e.out.2.1,fun i k p f=>e.out.2.2 i k p (by have:=Zc f;have:=K.out;omega) f⟩,by have:=e.out.1;omega⟩;have aS:Hid (Below d.heap.size d wr):=(by rw[U];exact X.trans (j.mono (by omega)));clear M e j q s L;go_wp2_with fail
   go_ret;exact⟨by rw[Q.out.1];rfl,by rw[Q.out.1];exact Q.out.2,aS.out⟩
def qc (x:TN):Prop:=ga x.page∧(∀ s ∈ x.keys,dm s)∧(∀ s ∈ x.vals,dm s)∧(∀ z ∈ x.over,ga z)∧∀ z ∈ x.kids,ga z
theorem rY {x:TN}:∀ (d:List (Nat->List TN)) (a:Nat),x ∈ bJ a d->∃ c ∈ d,∃ b,x ∈ c b∧a<=b∧b+(c b).length<=a+(bJ a d).length
 | [],a,h=>by simp[bJ] at h
 | c::r,a,h=>by
  rw[bJ,EG] at h
  rw[bJ,El]
  rcases h with h | h
  ·exact⟨c,Et ..,a,h,Ek _,by omega⟩
  ·obtain⟨e,f,b,g,i,j⟩:=rY r _ h
   exact⟨e,EH _ f,b,g,by omega,by omega⟩
theorem qd {z:Int}:∀ (b:List Nat) (a:Nat),z ∈ aX a b->(a:Int)<=z∧z<=((a+b.sum:Nat):Int)
 | [],a,h=>by simp[aX] at h
 | n::r,a,h=>by
  rw[aX,EL] at h
  rw[Ff]
  rcases h with rfl | h
  ·omega
  ·have:=qd r _ h;omega
theorem rZ (b:t.leaf=true) (a:t.good r=true) (c:t.slots.all (fun s=>cy s.1)=true):∀ k ∈ t.keys,cy k=true:=by
 intro k e;obtain⟨i,g,rfl⟩:=List.mem_iff_getElem.1 e;rw[T.good_eq] at a;simp only[Em,Es] at a;have d:=a.1.1.2;rw[b] at d;simp only[Fg,E8,Em,Es] at d;rw[T.slots_eq,b,if_pos rfl,List.all_append,Em] at c;have f:i<(t.keys.zip (t.vals.zip t.over)).length:=by simp;omega
 have:=Ez.1 c.1 _ (E4 f);simpa[List.getElem_zip] using this
theorem BB (t:T):(∃ r,t.good r=true)->t.slots.all (fun f=>cy f.1)=true->t.low.size<=8:=by
 induction t using T.ind with
 |h t g=>
  rintro ⟨r,d⟩ c;cases b:t.leaf
  ·cases a:t.kids with
   |nil=>obtain⟨j,l,k,m,n,y⟩:=t;simp only at b a;subst b a;simp[T.low]
   |cons k rest=>rw[T.low_inner b a];have e:k ∈ t.kids:=(by rw[a];exact Et ..);refine g k e ⟨false,aY d e⟩ ?_;rw[T.slots_eq,a,Ex,EW,List.all_append,List.all_append,Em,Em] at c;exact c.2.1
  ·rw[T.low_leaf b];have i:=rZ b d c;cases a:t.keys with
   | nil=>simp
   |cons k rest=>have:=i k (by rw[a];exact Et ..);unfold cy at this;simp only[Em,Es] at this;exact this.2
theorem xw {s:ByteArray} (h:s.size<=400):dm s:=by unfold dm maxLen;omega
theorem AT {x:Int} (h:(x == 0 || ir x)=true):ga x:=by
 simp only[Bool.or_eq_true,beq_iff_eq] at h;unfold ga;rcases h with h | h;·omega
 ·unfold ir at h;simp only[Es] at h;omega
theorem vW (h:t.slots.all (fun a=>cy a.1)=true) (b:k ∈ t.kids):k.slots.all (fun a=>cy a.1)=true:=by
 rw[T.slots_eq,List.all_append,Em] at h;rw[Ez];intro a c;exact Ez.1 h.2 a (List.mem_flatten.2 ⟨k.slots,EY.2 ⟨k,b,rfl⟩,c⟩)
theorem AU (t:T):(∃ r,t.good r=true)->bv t->t.slots.all (fun c=>cy c.1)=true->∀ c,c+t.nodes<=1000000->∀ x ∈ t.flat c,qc x:=by
 induction t using T.ind with
 |h t A=>
  rintro ⟨r,e⟩ p j c B x b;have l:=e;rw[T.good_eq] at e;simp only[Em] at e;have q:=AT e.1.1.1.2;have C:=(aC t).1 p;have m:=dq t p.shape c;rw[T.flat_eq] at b m;cases g:t.leaf
  ·rw[g] at b m;simp only[EC,EO,EL,EU] at b m;rcases b with rfl | b
   ·refine⟨q,fun k a=>?_,(fun k a=>by cases a),(fun k a=>by cases a),fun s a=>?_⟩;·obtain⟨y,d,rfl⟩:=EY.1 a;have u:=List.mem_of_mem_tail d;exact xw (Eo (BB y ⟨false,aY l u⟩ (vW j u)) (by omega))
    ·have:=qd _ _ a;rw[T.nodes_eq] at B;unfold ga;omega
   ·obtain⟨G,D,E,b,v,n⟩:=rY _ _ b;obtain⟨y,d,rfl⟩:=EY.1 D;have w:=C.2.2 y d;rw[dq y w.shape] at n;exact A y d ⟨false,aY l d⟩ w (vW j d) E (by omega) x b
  ·rw[g] at b;simp only[if_true,List.mem_singleton] at b;subst b;have o:=e.1.1.2;rw[g] at o;simp only[Fg,E8,Em,Es] at o;have z:∀ i (v:i<t.vals.length) (n:i<t.over.length),aU t.page t.vals[i] t.over[i]=true:=fun i v n=>(by have F:i<(t.vals.zip t.over).length:=(by simp;omega);have:=Ez.1 o.2 _ (E4 F);simpa[List.getElem_zip] using this);refine⟨q,fun k a=>?_,fun k a=>?_,fun s a=>?_,(fun s a=>by cases a)⟩;·have:=rZ g l j k a;unfold cy at this;simp only[Em,Es] at this;exact xw (by omega)
   ·obtain⟨i,f,rfl⟩:=List.mem_iff_getElem.1 a;simp only at f;have:=z i f (by omega);unfold aU at this;simp only[Em,Es] at this;exact xw this.1.1.1
   ·obtain⟨i,f,rfl⟩:=List.mem_iff_getElem.1 a;simp only at f;have:=z i (by omega) f;unfold aU at this;simp only[Em,Es] at this;exact AT this.1.1.2
theorem cj.nodesF {w:World} {base n c:Nat} {a:Option Addr} {ts:List TN} {us:Nat->Nat->Value} (h:cj w base (.slice a n c) (ts.map TN.nd) us) (t:n=ts.length) (A:∀ x ∈ ts,qc x):aw w base w.heap.size a n c ts:=by
 have T:(ts.map TN.nd).length=n:=by rw[EZ,t]
 rcases h.row.2 with ⟨k,U⟩ | ⟨u,V,W,k,X,Y,Z,B,_⟩;·simp only[Value.slice.injEq] at k;obtain⟨rfl,rfl,rfl⟩:=k;exact⟨t.symm,Ek _,by unfold maxLen;exact En _,fun v=>absurd v (by omega)⟩
 ·simp only[Value.slice.injEq] at k;obtain⟨rfl,_,rfl⟩:=k;refine⟨t.symm,by omega,B,fun v=>⟨u,0,rfl,h.row.lt u rfl,fun i ab=>?_⟩⟩;have y:i<(ts.map TN.nd).length:=(by omega);have C:(ts.map TN.nd).getD i dN=TN.nd (ts.getD i dT):=(by simp[List.getD,show i<ts.length by omega]);have f:=fun b e=>h.cell (i:=i) (j:=b) y e;have l:=h.data i y;rw[C] at f l;have m:qc (ts.getD i dT):=A _ (by rw[show ts.getD i dT=ts[i]'(by omega) by simp[List.getD,show i<ts.length by omega]];exact E4 _);have o:=l 0 (by omega);have p:=l 1 (by omega);have q:=l 2 (by omega);have r:=l 3 (by omega);replace o:w.ownsRow base 9 1 (us i 0) (aa ae (ts.getD i dT).keys).length (aa ae (ts.getD i dT).keys):=o;replace p:w.ownsRow base 9 1 (us i 1) (aa ae (ts.getD i dT).vals).length (aa ae (ts.getD i dT).vals):=p;replace q:w.ownsRow base 2 1 (us i 2) (aa ac (ts.getD i dT).over).length (aa ac (ts.getD i dT).over):=q;replace r:w.ownsRow base 2 1 (us i 3) (aa ac (ts.getD i dT).kids).length (aa ac (ts.getD i dT).kids):=r;rw[cH jb] at o p;rw[cH lh] at q r;have s:∀ {z:Type} (d:z) (g:List z) (b:Nat),b<g.length->g.getD b d ∈ g:=fun d g b e=>(by rw[show g.getD b d=g[b] by simp[List.getD,e]];exact E4 _);obtain⟨D,E,F,G⟩:=aR.of_owns (fit:=dm) (d:=ByteArray.empty) jb o rfl (fun b e=>m.2.1 _ (s _ _ b e));obtain⟨H,I,J,K⟩:=aR.of_owns (fit:=dm) (d:=ByteArray.empty) jb p rfl (fun b e=>m.2.2.1 _ (s _ _ b e));obtain⟨L,M,N,O⟩:=aR.of_owns (fit:=ga) (d:=0) lh q rfl (fun b e=>m.2.2.2.1 _ (s _ _ b e));obtain⟨P,Q,R,S⟩:=aR.of_owns (fit:=ga) (d:=0) lh r rfl (fun b e=>m.2.2.2.2 _ (s _ _ b e));refine⟨D,_,E,H,_,I,L,_,M,P,_,Q,?_,?_,?_,?_,?_,?_,m.1,G,K,O,S⟩;·rw[EK];exact f 0 (by omega)
  ·rw[EK];exact f 1 (by omega)
  ·rw[EK,<-F];exact f 2 (by omega)
  ·rw[EK,<-J];exact f 3 (by omega)
  ·rw[EK,<-N];exact f 4 (by omega)
  ·rw[EK,<-R];exact f 5 (by omega)
theorem qe (zs:List (ByteArray × ByteArray × Int)):cQ ⟨#[]⟩ ⟨#[]⟩ zs=zs:=by
 unfold cQ;rw[List.filter_eq_self];intro a _;unfold oC;have b:(⟨#[]⟩:ByteArray).toList=[]:=by rw[ByteArray.toList_eq]
 rw[b];cases a.1.toList with
 | nil=>rfl
 | cons c d=>rfl
theorem xx {zs:List (ByteArray × ByteArray)} (h:C5 zs t) (g:t.nodes<=1000):aZ (t.flat 0)∧gY (t.flat 0)=some t∧∀ ys,vV (t.flat 0) ⟨#[]⟩ ⟨#[]⟩ ys->ys=ms zs:=by
 obtain⟨a,d⟩:=oQ h.good h.neat h.ht g h.keys (iY _ h.sort) h.nums;have e:=(fg _).1 a;obtain⟨⟨n,o⟩,p,b,i,q,j,k,r,s,l⟩:=id a;rw[d] at b;simp only[Prod.mk.injEq,and_true] at b;subst b;obtain⟨u,f,_⟩:=zS (t.flat 0) _ 0 (fun _=>false) t (t.flat 0).length d ⟨by omega,by rw[k];simp⟩ i j ⟨l,fun _ _=>rfl⟩;refine⟨a,iZ e f,fun ys m=>?_⟩;obtain⟨v,w,c,rfl⟩:=m.2 e;rw[f] at c;simp only[Option.some.injEq,Prod.mk.injEq] at c;rw[<-c.1,qe,h.slots]
theorem qU (b:Bool) (a:Option Addr) (n c:Nat) (w:World):(Instr.field 34 (.agg #[.bool b,.slice a n c]) 1).run prog w=.ok (.agg #[.slice a n c]) w:=by
 simp[Instr.field,asAgg,go_sem]
end Go.Proofs.YtggmghkcdfjdoaaGreat
