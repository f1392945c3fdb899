import Derived.Test.YtgcedpmagmmikaaGreatHTks
import Derived.Test.YtgcedpmagmmikaaGreatHTpw
import Derived.Test.YtgcedpmagmmikaaGreatHTlm
import Derived.Test.YtgcedpmagmmikaaGreatHTgg
import Derived.Test.YtgcedpmagmmikaaGreatHTvr
import Derived.Test.YtgcedpmagmmikaaGreatHTwq
import Derived.Test.YtgcedpmagmmikaaGreatHTpx
namespace Go.Proofs.YtgcedpmagmmikaaGreat
set_option maxHeartbeats 3200000
open Go.RowKit Tryz
set_option linter.unusedVariables false
set_option linter.unusedSimpArgs false
set_option maxRecDepth 100000
variable {P U a b base e g i m n:Nat} {S X:Nat->Prop} {cs xs:List Value} {d t x y:T} {h p tx:Int} {key v:ByteArray} {nv pv:Value} {w w':World} {ys:List T}
theorem kh {r:Bool} (g:t.good r=true) (h:cg t) {k:Nat} (i:k<=t.size):iU (t.fore k) k k:=by
 have b:=aF g;have c:=(bj t).1 h;refine⟨rfl,?_,fun a=>?_,fun d e=>⟨b.2.2 d (Eh e),c.2 d (Eh e)⟩⟩;·cases a:t.leaf<;>simp[T.size,T.fore,a] at i ⊢<;>omega
 ·have f:t.leaf=true:=a;obtain⟨j,l,m⟩:=b.2.1 f;refine⟨by simp[T.fore,j],by simp[T.fore,l],fun x n=>?_,by simp[T.fore,c.1 f]⟩;have o:x ∈ (t.vals.zip t.over).take k:=(by rw[<-gP];exact n);exact jg (m x (Eh o))
theorem rJ {r:Bool} (g:t.good r=true) (h:cg t) {k:Nat} (i:k<=t.size):iU (t.rest k) (t.size - k) (t.size - k):=by
 have b:=aF g;have c:=(bj t).1 h;refine⟨rfl,?_,fun a=>?_,fun d e=>⟨b.2.2 d (Ef e),c.2 d (Ef e)⟩⟩;·cases a:t.leaf<;>simp[T.size,T.rest,a] at i ⊢
 ·have f:t.leaf=true:=a;obtain⟨j,l,m⟩:=b.2.1 f;refine⟨by simp[T.rest,j],by simp[T.rest,l],fun x n=>?_,by simp[T.rest,c.1 f]⟩;have o:x ∈ (t.vals.zip t.over).drop k:=(by rw[<-gQ];exact n);exact jg (m x (Ef o))
theorem ki {a b:T} {j:Nat} (c:iU a i i) (d:iU b j j) (e:a.leaf=b.leaf):iU (ag a b) (i+j) (i+j):=by
 refine⟨rfl,?_,fun h=>?_,fun f l=>?_⟩;·have m:=c.size;have n:=d.size;cases g:b.leaf<;>rw[g] at e<;>simp[T.size,ag,e,g] at m n ⊢<;>omega
 ·have k:a.leaf=true:=h;have o:b.leaf=true:=(by rw[<-e];exact k);obtain⟨p,q,r,s⟩:=c.leaf k;obtain⟨t,u,v,w⟩:=d.leaf o;refine⟨by simp[ag,p,t],by simp[ag,q,u],fun x y=>?_,by simp[ag,s,w]⟩;have z:x ∈ a.vals.zip a.over++b.vals.zip b.over:=(by rw[<-List.zip_append (by omega)];exact y);rcases Ei.1 z with h | h;·exact r x h
  ·exact v x h
 ·rcases Ei.1 (show f ∈ a.kids++b.kids from l) with h | h;·exact c.kids f h
  ·exact d.kids f h
theorem Aq (t:T) (e:t.leaf=true->t.vals.length=t.keys.length∧t.over.length=t.keys.length∧t.kids=[]) (f:t.leaf=false->t.keys=[]∧t.vals=[]∧t.over=[]):t.fore t.size=⟨t.leaf,0,t.keys,t.vals,t.over,t.kids⟩:=by
 unfold T.fore;cases a:t.leaf;·obtain⟨b,c,d⟩:=f a;simp[T.size,a,b,c,d]
 ·obtain⟨b,c,d⟩:=e a;simp only[T.size,a,if_true,d,List.take_nil];rw[List.take_length,<-b,List.take_length,b,<-c,List.take_length]
theorem rK (t b:T) (a:t.leaf=true->t.vals.length=t.keys.length∧t.over.length=t.keys.length∧t.kids=[]) (c:t.leaf=false->t.keys=[]∧t.vals=[]∧t.over=[]):ag t b=ag (t.fore t.size) b∧ag b t=ag b (t.fore t.size):=by
 rw[Aq t a c];exact⟨rfl,rfl⟩
theorem nH (h:bv t) {k:Nat} (m:0<k):bv (t.fore k):=by
 have b:=(aC t).1 h;rw[aC];refine⟨fun c=>by simp[T.fore,b.1 c],fun c=>?_,fun d f=>b.2.2 d (Eh f)⟩;obtain⟨g,i,j,l⟩:=b.2.1 c;refine⟨by simp[T.fore,g],by simp[T.fore,i],by simp[T.fore,j],fun e=>l ?_⟩;have a:(t.kids.take k)=[]:=e;rw[List.take_eq_nil_iff] at a;rcases a with a | a;·omega
 ·exact a
theorem nI (h:bv t) {k:Nat} (c:k<t.size):bv (t.rest k):=by
 have b:=(aC t).1 h;rw[aC];refine⟨fun a=>by simp[T.rest,b.1 a],fun a=>?_,fun d f=>b.2.2 d (Ef f)⟩;have g:t.leaf=false:=a;obtain⟨i,j,l,n⟩:=b.2.1 a;refine⟨by simp[T.rest,i],by simp[T.rest,j],by simp[T.rest,l],fun e=>?_⟩;have m:(t.kids.drop k)=[]:=e;rw[List.drop_eq_nil_iff] at m;simp[T.size,g] at c;omega
theorem nJ {a b:T} (i:bv a) (j:bv b) (g:a.leaf=b.leaf):bv (ag a b):=by
 have d:=(aC a).1 i;have e:=(aC b).1 j;rw[aC];refine⟨fun h=>?_,fun h=>?_,fun f k=>?_⟩;·have c:a.leaf=true:=h;simp[ag,d.1 c,e.1 (g ▸ c)]
 ·have c:a.leaf=false:=h;obtain⟨l,m,n,o⟩:=d.2.1 c;obtain⟨p,q,r,s⟩:=e.2.1 (g ▸ c);exact⟨by simp[ag,l,p],by simp[ag,m,q],by simp[ag,n,r],by simp[ag,o]⟩
 ·rcases Ei.1 (show f ∈ a.kids++b.kids from k) with h | h;·exact d.2.2 f h
  ·exact e.2.2 f h
theorem tF (h:bv t) (i:0<=t.ht) {k:Nat} (n:0<k):(t.fore k).ht=t.ht:=by
 have j:=(aC t).1 h;cases d:t.leaf
 ·have f:=(j.2.1 d).2.2.2;have g:=eI d f i;obtain⟨a,o,l⟩:=Ep f;have q:=g a (by rw[l];exact D4 ..);have:=gw (p:=0) (a:=t.keys.take k) (b:=t.vals.take k) (c:=t.over.take k) (ys:=t.kids.take k) (h:=t.ht - 1) (fun e=>by
   rw[List.take_eq_nil_iff] at e;rcases e with e | e;·omega
   ·exact f e) (by omega) (fun y m=>(g y (Eh m)).1)
  unfold T.fore;rw[d,this];omega
 ·rw[T.ht_eq,T.ht_eq t,d];simp[T.fore,d]
theorem tG (h:bv t) (i:0<=t.ht) {k:Nat} (j:k<t.size):(t.rest k).ht=t.ht:=by
 have l:=(aC t).1 h;cases d:t.leaf;·have f:=(l.2.1 d).2.2.2;have g:=eI d f i;obtain⟨a,o,m⟩:=Ep f;have q:=g a (by rw[m];exact D4 ..);simp[T.size,d] at j;have:=gw (p:=0) (a:=t.keys.drop k) (b:=t.vals.drop k) (c:=t.over.drop k) (ys:=t.kids.drop k) (h:=t.ht - 1) (fun e=>by rw[List.drop_eq_nil_iff] at e;omega) (by omega) (fun y n=>(g y (Ef n)).1);unfold T.rest;rw[d,this];omega
 ·rw[T.ht_eq,T.ht_eq t,d];simp[T.rest,d]
theorem tH {a b:T} (i:bv a) (j:bv b) (k:0<=a.ht) (s:b.ht=a.ht) (f:a.leaf=b.leaf):(ag a b).ht=a.ht:=by
 have l:=(aC a).1 i;have m:=(aC b).1 j;cases d:a.leaf
 ·have e:=(l.2.1 d).2.2.2;have n:=(m.2.1 (f ▸ d)).2.2.2;have g:=eI d e k;have o:=eI (f ▸ d) n (by omega);obtain⟨x,t,q⟩:=Ep e;have u:=g x (by rw[q];exact D4 ..);have:=gw (p:=0) (a:=a.keys++b.keys) (b:=a.vals++b.vals) (c:=a.over++b.over) (ys:=a.kids++b.kids) (h:=a.ht - 1) (by simp[e]) (by omega) (fun y r=>by
   rcases Ei.1 r with h | h;·exact (g y h).1
   ·have:=(o y h).1;omega)
  unfold ag;rw[d,this];omega
 ·rw[T.ht_eq,T.ht_eq a,d];simp[ag,d]
theorem xT (h:bv t) (c:0<=t.ht):t.leaf=true ↔ t.ht=0:=by
 cases a:t.leaf;·have b:=(((aC t).1 h).2.1 a).2.2.2;obtain⟨x,e,d⟩:=Ep b;have:=eI a b c x (by rw[d];exact D4 ..);simp;omega
 ·rw[T.ht_eq,a];simp
theorem pI (h:bv t) (c:t.leaf=true->t.vals.length=t.keys.length∧t.over.length=t.keys.length) (k:Nat):(t.fore k).slots++(t.rest k).slots=t.slots:=by
 have b:=(aC t).1 h;cases a:t.leaf;·simp only[T.slots_eq,T.fore,T.rest,a,Ee,En,D7];rw[<-EF,<-EA,Et]
 ·simp only[T.slots_eq,T.fore,T.rest,a,if_true,b.1 a,List.take_nil,List.drop_nil,Ez,List.flatten_nil,Ej];rw[gP,gP,gQ,gQ,Et]
theorem me {a b:T} (g:bv a) (h:bv b) (d:a.leaf=b.leaf) (i:a.leaf=true->a.vals.length=a.keys.length∧a.over.length=a.keys.length):(ag a b).slots=a.slots++b.slots:=by
 have e:=(aC a).1 g;have f:=(aC b).1 h;cases c:a.leaf;·rw[T.slots_eq,T.slots_eq a,T.slots_eq b,<-d,c];simp[ag,c]
 ·obtain⟨j,k⟩:=i c;rw[T.slots_eq,T.slots_eq a,T.slots_eq b,<-d,c,e.1 c,f.1 (d ▸ c)];simp only[ag,c,if_true,e.1 c,f.1 (d ▸ c),Ej,Ez,List.flatten_nil];rw[List.zip_append (by omega),List.zip_append (by simp;omega)]
structure ng (t:T) (h:Int):Prop where
 good:t.good false=true
 neat:bv t
 ht:t.ht=h
structure wj (t:T) (h:Int):Prop where
 soft:iU t 1 1
 neat:bv t
 ht:t.ht=h
theorem ng.lens (f:ng t h):(t.leaf=true->t.vals.length=t.keys.length∧t.over.length=t.keys.length∧t.kids=[])∧(t.leaf=false->t.keys=[]∧t.vals=[]∧t.over=[]):=by
 have b:=(aC t).1 f.neat;have c:=aF f.good;exact⟨fun a=>⟨(c.2.1 a).1,(c.2.1 a).2.1,b.1 a⟩,fun a=>⟨(b.2.1 a).1,(b.2.1 a).2.1,(b.2.1 a).2.2.1⟩⟩
theorem wj.lens (f:wj t h):(t.leaf=true->t.vals.length=t.keys.length∧t.over.length=t.keys.length∧t.kids=[])∧(t.leaf=false->t.keys=[]∧t.vals=[]∧t.over=[]):=by
 have b:=(aC t).1 f.neat;exact⟨fun a=>⟨(f.soft.leaf a).1,(f.soft.leaf a).2.1,b.1 a⟩,fun a=>⟨(b.2.1 a).1,(b.2.1 a).2.1,(b.2.1 a).2.2.1⟩⟩
theorem ng.size (f:ng t h):2<=t.size∧t.size<=4:=by simpa using (aF f.good).1
theorem jx {a b:T} (j:0<=h) (c:bv a) (d:bv b) (k:a.ht=h) (l:b.ht=h):a.leaf=b.leaf:=by
 have e:=xT c (by omega);have f:=xT d (by omega);cases g:a.leaf<;>cases i:b.leaf<;>simp[g,i] at e f ⊢<;>omega
theorem jR {k:Nat} (a:iU t k k) (d:2<=k∧k<=4) (b:bv t) (c:t.ht=h):ng t h :=
 ⟨a.good false (by have:=a.size;simp;omega) (by have:=a.size;omega),b,c⟩
def i4 (x y:T):List T:=[x.fore (x.size - 1),ag (x.rest (x.size - 1)) y]
def jy (x y:T):List T:=[ag x (y.fore 1),y.rest 1]
theorem yU (i:0<=h) (a:ng x h) (b:wj y h) (q:2<x.size):(∀ j ∈ i4 x y,ng j h)∧((i4 x y).map T.slots).flatten=x.slots++y.slots:=by
 have r:=a.size;have n:=kh a.good a.neat.shape (k:=x.size - 1) (by omega);have d:=rJ a.good a.neat.shape (k:=x.size - 1) (by omega);rw[show x.size - (x.size - 1)=1 by omega] at d;have o:=nH a.neat (k:=x.size - 1) (by omega);have e:=nI a.neat (k:=x.size - 1) (by omega);have l:=tF a.neat (by rw[a.ht];exact i) (k:=x.size - 1) (by omega);have f:=tG a.neat (by rw[a.ht];exact i) (k:=x.size - 1) (by omega);rw[a.ht] at l f;have g:=jx i e b.neat f b.ht;have p:(x.rest (x.size - 1)).leaf=true->(x.rest (x.size - 1)).vals.length=(x.rest (x.size - 1)).keys.length∧(x.rest (x.size - 1)).over.length=(x.rest (x.size - 1)).keys.length:=fun c=>⟨(d.leaf c).1,(d.leaf c).2.1⟩;refine⟨fun j m=>?_,?_⟩
 ·simp only[i4,Ek,EW,or_false] at m;rcases m with rfl | rfl;·exact jR n (by omega) o l
  ·exact jR (ki d b.soft g) (by omega) (nJ e b.neat g) (by rw[tH e b.neat (by omega) (by rw[b.ht,f]) g,f])
 ·simp only[i4,D8,Ez,Ex,List.flatten_nil,Ej];rw[me e b.neat g p,<-Eb,pI a.neat (fun c=>⟨(a.lens.1 c).1,(a.lens.1 c).2.1⟩)]
theorem yV (d:0<=h) (b:wj x h) (a:ng y h) (p:2<y.size):(∀ i ∈ jy x y,ng i h)∧((jy x y).map T.slots).flatten=x.slots++y.slots:=by
 have q:=a.size;have m:=kh a.good a.neat.shape (k:=1) (by omega);have n:=rJ a.good a.neat.shape (k:=1) (by omega);have e:=nH a.neat (k:=1) (by omega);have o:=nI a.neat (k:=1) (by omega);have g:=tF a.neat (by rw[a.ht];exact d) (k:=1) (by omega);have j:=tG a.neat (by rw[a.ht];exact d) (k:=1) (by omega);rw[a.ht] at g j;have f:=jx d b.neat e b.ht g;refine⟨fun i l=>?_,?_⟩
 ·simp only[jy,Ek,EW,or_false] at l;rcases l with rfl | rfl;·exact jR (ki b.soft m f) (by omega) (nJ b.neat e f) (by rw[tH b.neat e (by rw[b.ht];exact d) (by rw[b.ht,g]) f,b.ht])
  ·exact jR n (by omega) o j
 ·simp only[jy,D8,Ez,Ex,List.flatten_nil,Ej];rw[me b.neat e f (fun c=>⟨(b.lens.1 c).1,(b.lens.1 c).2.1⟩),Eb,pI a.neat (fun c=>⟨(a.lens.1 c).1,(a.lens.1 c).2.1⟩)]
theorem xU (g:0<=h) (l:(wj x h∧ng y h∧y.size=2)∨(ng x h∧x.size=2∧wj y h)):ng (ag x y) h∧(ag x y).slots=x.slots++y.slots:=by
 rcases l with ⟨a,b,d⟩ | ⟨a,d,b⟩
 focus
   have c:=jx g a.neat b.neat a.ht b.ht;have f:=kh b.good b.neat.shape (k:=y.size) (DU _);rw[d] at f;have e:=(rK y x b.lens.1 b.lens.2).2;have i:iU (ag x y) (1+2) (1+2):=by rw[e,d];exact ki a.soft f c
 rotate_left
 focus
   have c:=jx g a.neat b.neat a.ht b.ht;have f:=kh a.good a.neat.shape (k:=x.size) (DU _);rw[d] at f;have e:=(rK x y a.lens.1 a.lens.2).1;have i:iU (ag x y) (2+1) (2+1):=by rw[e,d];exact ki f b.soft c
 rotate_left
 all_goals
   exact⟨jR i (by omega) (nJ a.neat b.neat c) (by rw[tH a.neat b.neat (by rw[a.ht];exact g) (by rw[a.ht,b.ht]) c,a.ht]),me a.neat b.neat c (fun j=>⟨(a.lens.1 j).1,(a.lens.1 j).2.1⟩)⟩
def eh (ys:List T) (i:Nat) (f:T->T->List T):List T:=ys.take i++f (ys.getD i br) (ys.getD (i+1) br)++ys.drop (i+2)
def dW (ys:List T) (m:Nat):List T :=
 if 0<m∧2<(ys.getD (m - 1) br).size then eh ys (m - 1) i4
 else if m+1<ys.length∧2<(ys.getD (m+1) br).size then eh ys m jy
 else eh ys (m - 1) (fun x y=>[ag x y])
theorem Ar (a:ys[i]?=some x) (b:ys[i+1]?=some y):ys=ys.take i++x::y::ys.drop (i+2):=by
 obtain⟨g,c⟩:=Er.1 a;obtain⟨h,d⟩:=Er.1 b;have e:x::ys.drop (i+1)=ys.drop i:=by rw[<-c,List.getElem_cons_drop]
 have f:y::ys.drop (i+2)=ys.drop (i+1):=by rw[<-d,List.getElem_cons_drop]
 rw[f,e,Et]
theorem kj {f:T->T->List T} (j:ys[i]?=some x) (k:ys[i+1]?=some y) (l:(∀ a ∈ f x y,ng a h)∧((f x y).map T.slots).flatten=x.slots++y.slots) (m:∀ (c:Nat) a,c≠i->c≠i+1->ys[c]?=some a->ng a h):(∀ a ∈ eh ys i f,ng a h)∧((eh ys i f).map T.slots).flatten=(ys.map T.slots).flatten∧(eh ys i f).length+2=ys.length+(f x y).length:=by
 have e:eh ys i f=ys.take i++f x y++ys.drop (i+2):=by unfold eh;simp[List.getD,j,k]
 have n:=Ar j k;refine⟨fun a b=>?_,?_,?_⟩
 ·rw[e] at b;rcases Ei.1 b with b | b
  ·rcases Ei.1 b with b | b;·obtain⟨c,g,d⟩:=List.mem_iff_getElem.1 b;rw[D3] at g;exact m c a (by omega) (by omega) (by rw[List.getElem_take] at d;rw[<-d];exact DQ (by omega))
   ·exact l.1 a b
  ·obtain⟨c,g,d⟩:=List.mem_iff_getElem.1 b;rw[Es] at g;exact m (i+2+c) a (by omega) (by omega) (by rw[List.getElem_drop] at d;rw[<-d];exact DQ (by omega))
 ·rw[e]
  conv=>rhs;rw[n]
  simp only[EA,EF,D8,Ex,l.2,Eb]
 ·rw[e];have:=congrArg List.length n;simp only[DV,Eq] at this ⊢;omega
theorem As (s:0<=h) (F:2<=ys.length) (p:ys[m]?=some d) (t:wj d h) (e:∀ (c:Nat) a,c≠m->ys[c]?=some a->ng a h):(∀ a ∈ dW ys m,ng a h)∧((dW ys m).map T.slots).flatten=(ys.map T.slots).flatten∧ys.length<=(dW ys m).length+1∧(dW ys m).length<=ys.length:=by
 have G:=Zc p;unfold dW;by_cases q:0<m∧2<(ys.getD (m - 1) br).size;·rw[if_pos q];obtain⟨x,g⟩:∃ x,ys[m - 1]?=some x:=⟨_,DQ (by omega)⟩;have u:ys.getD (m - 1) br=x:=(by simp[List.getD,g]);rw[u] at q;have v:ys[m - 1+1]?=some d:=(by rw[show m - 1+1=m by omega];exact p);obtain⟨j,k,l⟩:=kj (f:=i4) g v (yU s (e (m - 1) x (by omega) g) t q.2) (fun c a r w b=>e c a (by omega) b);simp only[i4,Eq,List.length_nil] at l;exact⟨j,k,by omega,by omega⟩
 ·rw[if_neg q];by_cases o:m+1<ys.length∧2<(ys.getD (m+1) br).size;·rw[if_pos o];obtain⟨y,n⟩:∃ y,ys[m+1]?=some y:=⟨_,DQ o.1⟩;have z:ys.getD (m+1) br=y:=(by simp[List.getD,n]);rw[z] at o;obtain⟨j,k,l⟩:=kj (f:=jy) p n (yV s t (e (m+1) y (by omega) n) o.2) (fun c a r w b=>e c a r b);simp only[jy,Eq,List.length_nil] at l;exact⟨j,k,by omega,by omega⟩
  ·rw[if_neg o];by_cases H:0<m;·obtain⟨x,g⟩:∃ x,ys[m - 1]?=some x:=⟨_,DQ (by omega)⟩;have u:ys.getD (m - 1) br=x:=(by simp[List.getD,g]);have v:ys[m - 1+1]?=some d:=(by rw[show m - 1+1=m by omega];exact p);have D:=e (m - 1) x (by omega) g;have A:x.size=2:=(by have:=D.size;rw[u] at q;omega);obtain⟨B,C⟩:=xU s (.inr ⟨D,A,t⟩);obtain⟨j,k,l⟩:=kj (f:=fun x y=>[ag x y]) g v ⟨fun a b=>by simp at b;subst b;exact B,by simp[C]⟩ (fun c a r w b=>e c a (by omega) b);simp only[Eq,List.length_nil] at l;exact⟨j,k,by omega,by omega⟩
   ·obtain rfl:m=0:=(by omega);obtain⟨y,n⟩:∃ y,ys[0+1]?=some y:=⟨_,DQ (by omega)⟩;have z:ys.getD (0+1) br=y:=(by simp only[List.getD,n,ET]);have E:=e (0+1) y (by omega) n;have A:y.size=2:=(by have:=E.size;rw[z] at o;omega);obtain⟨B,C⟩:=xU s (.inl ⟨t,E,A⟩);obtain⟨j,k,l⟩:=kj (i:=0) (f:=fun x y=>[ag x y]) p n ⟨fun a b=>by simp at b;subst b;exact B,by simp[C]⟩ (fun c a r w b=>e c a r b);simp only[Eq,List.length_nil] at l;rw[show 0 - 1=0 from rfl];exact⟨j,k,by omega,by omega⟩
def fI (key:ByteArray) (zs:List (ByteArray × ByteArray × Int)):List (ByteArray × ByteArray × Int):=zs.take (bm key zs)++zs.drop (bm key zs+1)
def ia (m:Nat) (y:List T) (d:T):List T:=if d.size<2 then dW (y.set m d) m else y.set m d
def bQ (key:ByteArray):T->T
 | ⟨l,p,k,v,o,y⟩=>if l then cw (fI key (k.zip (v.zip o))) else ⟨false,0,[],[],[],ia (ci key y) y ((y.map (bQ key)).getD (ci key y) br)⟩
theorem i5 (h:t.leaf=true):bQ key t=cw (fI key (t.keys.zip (t.vals.zip t.over))):=by
 obtain⟨a,p,b,v,c,y⟩:=t;simp at h;rw[bQ];simp[h]
theorem ic {k:T} (h:t.leaf=false) (a:t.kids[ci key t.kids]?=some k):bQ key t=⟨false,0,[],[],[],ia (ci key t.kids) t.kids (bQ key k)⟩:=by
 obtain⟨b,p,c,v,d,y⟩:=t;simp at h a;rw[bQ];have:(y.map (bQ key)).getD (ci key y) br=bQ key k:=by simp[List.getD,a]
 simp only[h,Ee,En,this]
theorem dO:∀ (b:List (ByteArray × ByteArray × Int)),bl b->(∃ c ∈ b,c.1=key)->bm key b<b.length∧(b.getD (bm key b) (ByteArray.empty,ByteArray.empty,0)).1=key
 | [],_,⟨c,h,_⟩=>by simp at h
 | a::r,hs,⟨c,h,e⟩=>by
  have d:=List.pairwise_cons.1 hs
  rcases Ek.1 h with rfl | h
  ·have f:¬ aH c.1 key=true:=by rw[e];exact aQ _
   rw[bm,if_neg f]
   exact⟨by simp,by simpa[List.getD] using e⟩
  ·have g:aH a.1 key=true:=by rw[<-e];exact d.1 c h
   have i:=dO r d.2 ⟨c,h,e⟩
   rw[bm,if_pos g]
   exact⟨by simp only[Eq];omega,by simpa[List.getD] using i.2⟩
theorem Au {A B C:List (ByteArray × ByteArray × Int)} (a:∀ s ∈ A,aH s.1 key=true) (b:∀ s ∈ C,aH key s.1=true) (f:bm key B<B.length):fI key (A++B++C)=A++fI key B++C:=by
 have c:bm key (A++B++C)=A.length+bm key B:=by rw[Eb,jP A _ a,nE B C b]
 unfold fI;rw[c];have d:(A++B++C).take (A.length+bm key B)=A++B.take (bm key B):=by rw[Eb,List.take_length_add_append,El (by omega)]
 have e:(A++B++C).drop (A.length+bm key B+1)=B.drop (bm key B+1)++C:=by rw[EX,Eb,List.drop_length_add_append,EN (by omega)]
 rw[d,e];simp
theorem jS {zs:List (ByteArray × ByteArray × Int)} (h:bm key zs<zs.length):(fI key zs).length+1=zs.length:=by
 unfold fI;rw[DV,D3,Es];omega
theorem vr {zs:List (ByteArray × ByteArray × Int)} {s:ByteArray × ByteArray × Int} (h:s ∈ fI key zs):s ∈ zs:=by
 unfold fI at h;rcases Ei.1 h with h | h;·exact Eh h
 ·exact Ef h
theorem yW {k:T} (a:ys[m]?=some k):((ys.set m d).map T.slots).flatten=((ys.take m).map T.slots).flatten++d.slots++((ys.drop (m+1)).map T.slots).flatten:=by
 have b:=Zc a;rw[List.set_eq_take_append_cons_drop,if_pos b];simp
structure BX (key:ByteArray) (t d:T):Prop where
 soft:iU d (t.size - 1) 4
 neat:0<d.size->bv d
 ht:0<d.size->d.ht=t.ht
 slots:d.slots=fI key t.slots
theorem nK (key:ByteArray):∀ (t:T) (r:Bool),t.good r=true->bv t->0<=t.ht->bl t.slots->(∃ j ∈ t.slots,j.1=key)->BX key t (bQ key t):=by
 intro t
 induction t using T.ind with
 |h t R=>
  intro r m S U s u;have o:=(aC t).1 S;have B:=aF m;cases f:t.leaf
  ·have ae:=dg m f;have C:0<t.kids.length:=(by omega);obtain⟨a,p,k⟩:=fA (key:=key) (ys:=t.kids) C;obtain⟨D,E,F,G⟩:=jj f ⟨r,m⟩ s (ji (key:=key) C) p;have q:=eI f (o.2.1 f).2.2.2 U;have H:=aY m k;have I:∃ j ∈ a.slots,j.1=key:=by
    obtain⟨j,c,e⟩:=u;rw[G] at c;rcases Ei.1 c with c | c
    ·rcases Ei.1 c with c | c;·have:=D j c;rw[e] at this;exact absurd this (aQ _)
     ·exact⟨j,c,e⟩
    ·have:=E j c;rw[e] at this;exact absurd this (aQ _)
   have i:=R a k false H (o.2.2 a k) (q a k).2 F I;have af:2<=a.size:=(by simpa using (aF H).1.1);have v:0<(bQ key a).size:=(by have:=i.soft.size;omega);have w:=dO a.slots F I;rw[ic f p];have c:=Zc p;have V:(t.kids.set (ci key t.kids) (bQ key a))[ci key t.kids]?=some (bQ key a):=(by simp[c]);have J:∀ (l:Nat) b,l≠ci key t.kids->(t.kids.set (ci key t.kids) (bQ key a))[l]?=some b->ng b (t.ht - 1):=fun l b x g=>(by rw[EM (Ne.symm x)] at g;have z:=D5 g;exact⟨aY m z,o.2.2 b z,(q b z).1⟩);have K:(bQ key a).ht=t.ht - 1:=(by rw[i.ht v];exact (q a k).1);have L:0<=t.ht - 1:=(by have:=q a k;omega);have n:=yW (d:=bQ key a) p;have M:((t.kids.take (ci key t.kids)).map T.slots).flatten++(bQ key a).slots++((t.kids.drop (ci key t.kids+1)).map T.slots).flatten=fI key t.slots:=(by rw[i.slots,G,Au D E w.1]);obtain⟨q1,q2,q3,ag⟩:(∀ b ∈ ia (ci key t.kids) t.kids (bQ key a),ng b (t.ht - 1))∧((ia (ci key t.kids) t.kids (bQ key a)).map T.slots).flatten=fI key t.slots∧t.kids.length<=(ia (ci key t.kids) t.kids (bQ key a)).length+1∧(ia (ci key t.kids) t.kids (bQ key a)).length<=t.kids.length:=by
    unfold ia;split;·rename_i W;have ah:(bQ key a).size=1:=(by omega);have A:wj (bQ key a) (t.ht - 1):=⟨⟨i.soft.page,by omega,i.soft.leaf,i.soft.kids⟩,i.neat v,K⟩;obtain⟨X,Y,N,O⟩:=As L (by rw[Em];omega) V A J;rw[Em] at N O;exact⟨X,by rw[Y,n,M],N,O⟩
    ·rename_i W;have A:ng (bQ key a) (t.ht - 1):=⟨i.soft.good false (by simp;omega) i.soft.size.2,i.neat v,K⟩;refine⟨fun b g=>?_,by rw[n,M],by rw[Em];omega,by rw[Em];exact DU _⟩;obtain⟨l,x,e⟩:=List.mem_iff_getElem.1 g;by_cases P:l=ci key t.kids;·subst P;have:b=bQ key a:=(by rw[<-e];simp);rw[this];exact A
     ·exact J l b P (by rw[<-e];exact DQ x)
   have Z:t.size=t.kids.length:=(by simp[T.size,f]);have Q:ia (ci key t.kids) t.kids (bQ key a)≠[]:=fun e=>(by rw[e] at q3;simp at q3;omega);refine⟨⟨rfl,?_,fun e=>by simp at e,fun b g=>⟨(q1 b g).good,(q1 b g).neat.shape⟩⟩,fun _=>?_,fun _=>?_,?_⟩;·rw[Z];show t.kids.length - 1<=(ia (ci key t.kids) t.kids (bQ key a)).length∧(ia (ci key t.kids) t.kids (bQ key a)).length<=4;omega
   ·rw[aC];exact⟨fun e=>by simp at e,fun _=>⟨rfl,rfl,rfl,Q⟩,fun b g=>(q1 b g).neat⟩
   ·rw[gw Q L (fun y aa=>(q1 y aa).ht)];omega
   ·rw[T.slots_eq];simp only[Ee,En,D7];exact q2
  ·obtain⟨ab,ac,ad⟩:=B.2.1 f;have n:t.slots=t.keys.zip (t.vals.zip t.over):=(by rw[T.slots_eq,f,o.1 f];simp);rw[n] at s u;have w:=dO _ s u;have ai:=jS w.1;have aj:(t.keys.zip (t.vals.zip t.over)).length=t.keys.length:=(by simp[ab,ac]);have ak:t.size=t.keys.length:=(by simp[T.size,f]);rw[i5 f];refine⟨pC (by have:=B.1.2;omega) (fun j c=>jg (ad _ (xP (vr c)))),fun _=>?_,fun _=>?_,?_⟩;·rw[aC];exact⟨fun _=>rfl,fun e=>by simp[cw] at e,fun b g=>by simp[cw] at g⟩
   ·rw[T.ht_eq,T.ht_eq t,f];simp[cw]
   ·rw[n,T.slots_eq];simp only[cw,if_true,Ez,List.flatten_nil,Ej];exact mH _
def gD (s:ByteArray × ByteArray × Int):ByteArray × ByteArray:=(s.1,s.2.1)
def lc (key val:ByteArray):Bool->List (ByteArray × ByteArray)->List (ByteArray × ByteArray)
 | d,[]=>if d then [] else [(key,val)]
 | d,s::r=>(if (!d && !aH s.1 key)=true then [(key,val)] else [])++(if s.1=key then [] else [s])++lc key val (d || !aH s.1 key) r
def rL (key:ByteArray) (m:List (ByteArray × ByteArray)):List (ByteArray × ByteArray):=m.filter (fun s=>decide (s.1≠key))
theorem vt (key val:ByteArray):∀ (m:List (ByteArray × ByteArray)),(∀ a ∈ m,aH key a.1=true)->lc key val true m=m
 | [],_=>rfl
 | a::r,h=>by
  have b:=h a (D4 ..)
  have c:a.1≠key:=fun e=>aQ key (by rw[e] at b;exact b)
  rw[lc,if_neg (by simp),if_neg c]
  have:=vt key val r (fun x d=>h x (Eg _ d))
  simp[this]
theorem xV (key val:ByteArray):∀ (d:List (ByteArray × ByteArray × Int)),bl d->lc key val false (d.map gD)=(ej key val d).map gD
 | [],_=>by simp[lc,ej,bm,bO,gD]
 | s::r,h=>by
  have k:bl r:=(List.pairwise_cons.1 h).2
  have l:=(List.pairwise_cons.1 h).1
  rw[D8,lc]
  by_cases a:aH s.1 key=true
  ·have m:(gD s).1≠key:=fun e=>aQ key (by rw[show s.1=key from e] at a;exact a)
   have g:=vg (key:=key) (val:=val) (A:=[s]) (B:=r) (C:=[]) (by simpa using a) (by simp)
   simp only[Ej,List.singleton_append] at g
   rw[g,D8,<-xV key val r k,if_neg (by simp[gD,a]),if_neg m]
   simp[gD,a]
  ·have n:∀ x ∈ r,aH key x.1=true:=fun x f=>by
    have i:=l x f
    by_cases j:aH key s.1=true
    ·exact dh j i
    ·rw[<-jH a j];exact i
   rw[if_pos (by simp[gD,a]),show (false || !aH (gD s).1 key)=true by simp[gD,a],vt key val _ (fun x f=>by
    obtain⟨y,o,rfl⟩:=Ew.1 f
    exact n y o)]
   by_cases c:s.1=key
   ·rw[if_pos (show (gD s).1=key from c)]
    have b:bm key (s::r)=0:=by unfold bm;rw[if_neg a]
    have ht:bO key (s::r)=true:=by unfold bO;rw[b];simpa using c
    simp[ej,b,ht,gD]
   ·rw[if_neg (show (gD s).1≠key from c)]
    have b:bm key (s::r)=0:=by unfold bm;rw[if_neg a]
    have ht:bO key (s::r)=false:=by unfold bO;rw[b];simpa using c
    simp[ej,b,ht,gD]
theorem vu (key:ByteArray) (m:List (ByteArray × ByteArray × Int)) (h:¬ ∃ s ∈ m,s.1=key):rL key (m.map gD)=m.map gD:=by
 unfold rL;rw[List.filter_eq_self];intro x a;obtain⟨y,b,rfl⟩:=Ew.1 a;exact decide_eq_true (fun e=>h ⟨y,b,e⟩)
theorem xW (key:ByteArray):∀ (f:List (ByteArray × ByteArray × Int)),bl f->(∃ a ∈ f,a.1=key)->rL key (f.map gD)=(fI key f).map gD
 | [],_,⟨a,g,_⟩=>by cases g
 | a::r,h,hk=>by
  have k:bl r:=(List.pairwise_cons.1 h).2
  have g:=(List.pairwise_cons.1 h).1
  by_cases c:a.1=key
  ·have l:¬ ∃ x ∈ r,x.1=key:=fun ⟨x,b,e⟩=>aQ key (by have:=g x b;rw[c,e] at this;exact this)
   have d:=vu key r l
   have i:¬ aH a.1 key=true:=by rw[c];exact aQ _
   unfold rL at d ⊢
   rw[D8,List.filter_cons_of_neg (by simp[gD,c]),d]
   simp[fI,bm,i]
  ·have j:∃ x ∈ r,x.1=key:=by
    obtain⟨x,b,e⟩:=hk;rcases Ek.1 b with rfl | b;·exact absurd e c
    ·exact⟨x,b,e⟩
   have i:aH a.1 key=true:=(by obtain⟨x,b,e⟩:=j;rw[<-e];exact g x b);have d:=xW key r k j;unfold rL at d ⊢;have m:=decide_eq_true (show (gD a).1≠key from c);rw[D8,List.filter_cons,m,d];simp[fI,bm,i]
structure mf where
 kind:Int
 next:Int
 data:ByteArray
 ents:List (ByteArray × ByteArray × Int × Int)
 kids:List (ByteArray × Int)
def mf.over (next:Int) (data:ByteArray):mf:=⟨4,next,data,[],[]⟩
def mf.leaf (ents:List (ByteArray × ByteArray × Int × Int)):mf:=⟨3,0,ByteArray.empty,ents,[]⟩
def mf.branch (kids:List (ByteArray × Int)):mf:=⟨2,0,ByteArray.empty,[],kids⟩
def vw (x:ByteArray × ByteArray × Int):ByteArray × ByteArray × Int × Int:=if 8<x.2.1.size then (x.1,ByteArray.empty,x.2.2,(x.2.1.size:Int)) else (x.1,x.2.1,0,(x.2.1.size:Int))
def fL (ys:List T):List (ByteArray × Int):=ys.zipIdx.map (fun x=>(if x.2=0 then ByteArray.empty else x.1.low,x.1.page))
structure dl where
 used:List Bool
 bad:Bool
 log:List (Int × mf)
def di (u:List Bool) (i:Nat):Nat->Option Nat
 | 0=>none
 | f+1=>if u.getD i true then di u (i+1) f else some i
def cW (s:dl):Int × dl:=match di s.used 2 998 with
 | some i=>((i:Int),{ s with used:=s.used.set i true })
 | none=>(0,{ s with bad:=true })
def ce:Nat->dl->List Int × dl
 | 0,s=>([],s)
 | n+1,s=>((cW s).1::(ce n (cW s).2).1,(ce n (cW s).2).2)
def iE (v:ByteArray) (ns:List Int):List (Int × mf):=(List.range ns.length).map (fun k=>(ns.getD k 0,.over (if v.size<=(k+1)*96 then 0 else ns.getD (k+1) 0) (v.extract (k*96) (min ((k+1)*96) v.size))))
def fH (v:ByteArray) (s:dl):Int × dl:=((ce ((v.size+95) / 96) s).1.headD 0,{ (ce ((v.size+95) / 96) s).2 with log:=(ce ((v.size+95) / 96) s).2.log++iE v (ce ((v.size+95) / 96) s).1 })
def aA:List (ByteArray × Int)->dl->List Int × dl
 | [],s=>([],s)
 | x::r,s=>if 8<x.1.size∧x.2=0 then ((fH x.1 s).1::(aA r (fH x.1 s).2).1,(aA r (fH x.1 s).2).2) else (x.2::(aA r s).1,(aA r s).2)
def av:List (dl->T × dl)->dl->List T × dl
 | [],s=>([],s)
 | g::r,s=>((g s).1::(av r (g s).2).1,(av r (g s).2).2)
def CZ (t:T):mf:=if t.leaf then .leaf ((t.keys.zip (t.vals.zip t.over)).map vw) else .branch (fL t.kids)
def Br (l:Bool) (k v:List ByteArray) (y:List T) (o:List Int × dl):T × dl :=
 (⟨l,(cW o.2).1,k,v,o.1,y⟩,{ (cW o.2).2 with log:=(cW o.2).2.log++[((cW o.2).1,CZ ⟨l,(cW o.2).1,k,v,o.1,y⟩)] })
def ai:T->dl->T × dl
 | ⟨l,p,k,v,o,y⟩,s=>if p≠0 then (⟨l,p,k,v,o,y⟩,s) else
  Br l k v (av (y.map ai) s).1 (if l then aA (v.zip o) (av (y.map ai) s).2 else (o,(av (y.map ai) s).2))
theorem bU (t:T) (s:dl):ai t s=if t.page≠0 then (t,s) else Br t.leaf t.keys t.vals (av (t.kids.map ai) s).1 (if t.leaf then aA (t.vals.zip t.over) (av (t.kids.map ai) s).2 else (t.over,(av (t.kids.map ai) s).2)):=by
 cases t;rw[ai]
theorem eJ:∀ (x:List (ByteArray × Int)) (a:dl),(aA x a).1.length=x.length
 | [],a=>rfl
 | x::r,a=>by
  rw[aA]
  split
  ·simp[eJ r]
  ·simp[eJ r]
theorem jn:∀ (g:List (dl->T × dl)) (a:dl),(av g a).1.length=g.length
 | [],a=>rfl
 | g::r,a=>by rw[av];simp[jn r]
theorem pK:∀ (g:List (dl->T × dl)) (a:dl) (i:Nat),i<g.length->∃ b,(av g a).1[i]?=(g[i]?).map (fun c=>(c b).1)
 | [],a,i,h=>by simp at h
 | g::r,a,0,h=>⟨a,by simp[av]⟩
 | g::r,a,i+1,h=>by
  obtain⟨b,e⟩:=pK r (g a).2 i (by simpa using h)
  exact⟨b,by rw[av];simpa using e⟩
theorem jo {c:Type} (f:T->c):∀ (y:List T) (a:dl),(∀ b ∈ y,∀ a,f (ai b a).1=f b)->(av (y.map ai) a).1.map f=y.map f
 | [],a,h=>rfl
 | b::r,a,h=>by
  rw[D8,av]
  simp only[D8]
  rw[h b (D4 ..),jo f r _ (fun x d=>h x (Eg _ d))]
theorem pL (t:T) (s:dl):(ai t s).1.leaf=t.leaf:=by rw[bU];split<;>rfl
theorem pM (t:T) (s:dl):(ai t s).1.keys=t.keys:=by rw[bU];split<;>rfl
theorem wU (t:T) (s:dl):(ai t s).1.vals=t.vals:=by rw[bU];split<;>rfl
theorem vx (t:T) (s:dl):(ai t s).1.kids.length=t.kids.length:=by
 rw[bU];split;·rfl
 ·show (av (t.kids.map ai) s).1.length=_;rw[jn,Ev]
theorem wV (t:T) (s:dl):(ai t s).1.size=t.size:=by
 unfold T.size;rw[pL,pM,vx]
theorem ox:∀ (t:T) (a:dl),(ai t a).1.nodes=t.nodes:=by
 intro t
 induction t using T.ind with
 |h t b=>
  intro a;rw[bU];split;·rfl
  ·rw[T.nodes_eq,T.nodes_eq t];show 1+((av (t.kids.map ai) a).1.map T.nodes).sum=_;rw[jo T.nodes t.kids a b]
theorem Av:∀ (t:T) (a:dl),(ai t a).1.ht=t.ht:=by
 intro t
 induction t using T.ind with
 |h t b=>
  intro a;rw[bU];split;·rfl
  ·rw[T.ht_eq,T.ht_eq t];show (if t.leaf then 0 else T.htOf ((av (t.kids.map ai) a).1.map T.ht))=_;rw[jo T.ht t.kids a b]
theorem tI:∀ (d v:List ByteArray) (e:List Int),v.length=d.length->e.length=d.length->(d.zip (v.zip e)).map gD=d.zip v
 | [],_,_,_,_=>by simp
 | a::d,[],_,h,_=>by simp at h
 | a::d,b::v,[],_,h=>by simp at h
 | a::d,b::v,c::e,h1,h2=>by
  have:=tI d v e (by simpa using h1) (by simpa using h2)
  simp[gD] at this ⊢
  exact this
theorem nL {a c:Type} (f:a->c):∀ (b:List (List a)),b.flatten.map f=(b.map (fun x=>x.map f)).flatten
 | []=>rfl
 | x::r=>by simp[nL f r]
theorem yX:∀ (t:T),(∃ c,t.good c=true)->∀ a,(ai t a).1.slots.map gD=t.slots.map gD:=by
 intro t
 induction t using T.ind with
 |h t i=>
  rintro ⟨c,d⟩ a;have j:=(aF d).2.2;rw[bU];split;·rfl
  ·rw[T.slots_eq,T.slots_eq t];show ((if t.leaf then t.keys.zip (t.vals.zip _) else [])++((av (t.kids.map ai) a).1.map T.slots).flatten).map gD=_;rw[EA,EA,nL,nL,List.map_map,List.map_map];have k:=jo (fun x:T=>x.slots.map gD) t.kids a (fun e f a=>i e f ⟨false,j e f⟩ a);have l:((fun x:List (ByteArray × ByteArray × Int)=>x.map gD) ∘ T.slots)=(fun x:T=>x.slots.map gD):=rfl;rw[l,k]
   congr 1
   cases m:t.leaf;·rfl
   ·simp only[if_true];obtain⟨b,g,_⟩:=(aF d).2.1 m;have n:(aA (t.vals.zip t.over) (av (t.kids.map ai) a).2).1.length=t.keys.length:=(by rw[eJ];simp[b,g]);exact (tI _ _ _ b n).trans (tI _ _ _ b g).symm
theorem pN:∀ (t:T),bv t->∀ a,bv (ai t a).1:=by
 intro t
 induction t using T.ind with
 |h t k=>
  intro f a;have h:=(aC t).1 f;rw[bU];split;·exact f
  ·rw[aC];refine⟨fun b=>?_,fun b=>?_,fun l c=>?_⟩;·show (av (t.kids.map ai) a).1=[];rw[h.1 b];rfl
   ·have b:t.leaf=false:=b;obtain⟨m,n,o,p⟩:=h.2.1 b;refine⟨m,n,?_,fun e=>p ?_⟩;·show (if t.leaf then aA (t.vals.zip t.over) (av (t.kids.map ai) a).2 else (t.over,(av (t.kids.map ai) a).2)).1=[];rw[b];exact o
    ·have g:=jn (t.kids.map ai) a;rw[show (av (t.kids.map ai) a).1=[] from e] at g;simpa using g.symm
   ·have c:l ∈ (av (t.kids.map ai) a).1:=c;obtain⟨i,d,rfl⟩:=List.mem_iff_getElem.1 c;have j:i<(t.kids.map ai).length:=(by rw[jn] at d;exact d);obtain⟨q,e⟩:=pK (t.kids.map ai) a i j;rw[DQ d,DQ j] at e;simp only[Option.map_some,Option.some.injEq,List.getElem_map] at e;rw[e];exact k _ (Ey _) (h.2.2 _ (Ey _)) q
def Us (s:dl) (x:Int):Prop:=s.used.getD x.toNat true=true
theorem ku (u:List Bool):∀ (b i a:Nat),di u i b=some a->i<=a∧a<i+b∧u.getD a true=false
 | 0,i,a,h=>by simp[di] at h
 | b+1,i,a,h=>by
  rw[di] at h
  split at h
  ·obtain⟨e,f,c⟩:=ku u b (i+1) a h
   exact⟨by omega,by omega,c⟩
  ·rename_i d
   simp only[Option.some.injEq] at h
   subst h
   exact⟨DU _,by omega,by simpa using d⟩
structure Pl (s s':dl) (new:List Int):Prop where
 len:s'.used.length=s.used.length
 up:∀ x,Us s x->Us s' x
 was:s'.bad=false->s.bad=false
 one:s'.bad=false->new.Nodup∧∀ x ∈ new,2<=x∧x<=999∧¬ Us s x∧Us s' x
theorem Pl.refl (s:dl):Pl s s []:=⟨rfl,fun _ h=>h,fun h=>h,fun _=>⟨List.nodup_nil,fun x a=>by cases a⟩⟩
theorem Pl.trans {s f g:dl} {a b:List Int} (h:Pl s f a) (k:Pl f g b):Pl s g (a++b):=by
 refine⟨by rw[k.len,h.len],fun x c=>k.up x (h.up x c),fun e=>h.was (k.was e),fun e=>?_⟩;obtain⟨l,i⟩:=h.one (k.was e);obtain⟨m,j⟩:=k.one e;refine⟨List.nodup_append.2 ⟨l,m,fun x c y n=>?_⟩,fun x c=>?_⟩;·rintro rfl;exact (j x n).2.2.1 (i x c).2.2.2
 ·rcases Ei.1 c with c | c;·obtain⟨q1,q2,q3,d⟩:=i x c;exact⟨q1,q2,q3,k.up x d⟩
  ·obtain⟨q1,q2,q3,d⟩:=j x c;exact⟨q1,q2,fun o=>q3 (h.up x o),d⟩
theorem pO {s:dl} (f:s.used.length=1000):Pl s (cW s).2 [(cW s).1]:=by
 unfold cW;split
 ·rename_i i b;obtain⟨g,j,c⟩:=ku _ _ _ _ b;have d:∀ x,Us s x->Us { s with used:=s.used.set i true } x:=fun x a=>by
   unfold Us at a ⊢;show (s.used.set i true).getD x.toNat true=true;by_cases e:x.toNat=i;·simp[List.getD,e,show i<s.used.length by omega]
   ·simpa[List.getD,List.getElem?_set,Ne.symm e] using a
  refine⟨by simp,d,fun e=>e,fun e=>⟨by simp,fun x a=>?_⟩⟩;simp only[List.mem_singleton] at a;subst a;refine⟨by omega,by omega,?_,?_⟩;·unfold Us;rw[show ((i:Int)).toNat=i by omega,c];simp
  ·unfold Us;show (s.used.set i true).getD ((i:Int)).toNat true=true;simp[List.getD,show i<s.used.length by omega]
 ·exact⟨rfl,fun x h=>h,fun e=>(by cases e),fun e=>(by cases e)⟩
theorem Pl.log {s a:dl} {n:List Int} (h:Pl s a n) (l:List (Int × mf)):Pl s { a with log:=l } n:=⟨h.len,h.up,h.was,h.one⟩
theorem xX:∀ (n:Nat) (a:dl),a.used.length=1000->Pl a (ce n a).2 (ce n a).1
 | 0,a,h=>Pl.refl a
 | n+1,a,h=>by
  have b:=pO h
  have c:=xX n (cW a).2 (by rw[b.len,h])
  exact b.trans c
theorem mU:∀ (n:Nat) (a:dl),(ce n a).1.length=n
 | 0,a=>rfl
 | n+1,a=>by rw[ce];simp[mU n]
theorem Aw {s:dl} (h:s.used.length=1000) (g:8<v.size):∃ a,Pl s (fH v s).2 ((fH v s).1::a):=by
 have b:=xX ((v.size+95) / 96) s h;have c:=mU ((v.size+95) / 96) s;have d:(fH v s).1=(ce ((v.size+95) / 96) s).1.headD 0:=rfl;have e:(fH v s).2={ (ce ((v.size+95) / 96) s).2 with log:=(ce ((v.size+95) / 96) s).2.log++iE v (ce ((v.size+95) / 96) s).1 }:=rfl;have i:0<(v.size+95) / 96:=by omega
 rw[e,d]
 match f:(ce ((v.size+95) / 96) s).1,b with
 | [],_=>rw[f] at c;simp at c;omega
 | x::a,b=>exact⟨a,b.log _⟩
theorem kw:∀ (b:List (ByteArray × Int)) (a:dl),a.used.length=1000->∃ e,Pl a (aA b a).2 e∧∀ x,(aA b a).1.count x<=(b.map (fun y=>y.2)).count x+e.count x
 | [],a,h=>⟨[],Pl.refl a,fun x=>by simp[aA]⟩
 | y::r,a,h=>by
  rw[aA]
  split
  ·rename_i i
   obtain⟨j,f⟩:=Aw h i.1
   obtain⟨g,c,d⟩:=kw r (fH y.1 a).2 (by rw[f.len,h])
   refine⟨_,f.trans c,fun x=>?_⟩
   have:=d x
   simp only[D8,List.count_cons,List.count_append]
   omega
  ·obtain⟨g,c,d⟩:=kw r a h
   refine⟨g,c,fun x=>?_⟩
   have:=d x
   simp only[D8,List.count_cons]
   omega
theorem jT:∀ (y:List T) (a:dl),a.used.length=1000->(∀ b ∈ y,∀ a,a.used.length=1000->∃ c,Pl a (ai b a).2 c∧∀ x,x≠0->(ai b a).1.nums.count x<=b.nums.count x+c.count x) ->
  ∃ c,Pl a (av (y.map ai) a).2 c∧∀ x,x≠0->((av (y.map ai) a).1.map T.nums).flatten.count x<=(y.map T.nums).flatten.count x+c.count x
 | [],a,h,_=>⟨[],Pl.refl a,fun x _=>by simp[av]⟩
 | b::r,a,h,hk=>by
  obtain⟨j,e,f⟩:=hk b (D4 ..) a h
  obtain⟨k,g,i⟩:=jT r (ai b a).2 (by rw[e.len,h]) (fun x d=>hk x (Eg _ d))
  refine⟨_,e.trans g,fun x d=>?_⟩
  have l:=f x d
  have m:=i x d
  rw[D8,av]
  simp only[D8,Ex,List.count_append]
  omega
theorem mg (x:Int) (b:x≠0):∀ (c:List Int),(c.filter (fun y=>y != 0)).count x=c.count x
 | []=>rfl
 | a::r=>by
  by_cases d:a=0
  ·subst d
   rw[List.filter_cons_of_neg (by simp),mg x b r,List.count_cons]
   simp[Ne.symm b]
  ·rw[List.filter_cons_of_pos (by simpa using d),List.count_cons,List.count_cons,mg x b r]
theorem jU:∀ (t:T),(∃ j,t.good j=true)->∀ (a:dl),a.used.length=1000->∃ k,Pl a (ai t a).2 k∧∀ x,x≠0->(ai t a).1.nums.count x<=t.nums.count x+k.count x:=by
 intro t
 induction t using T.ind with
 |h t p=>
  rintro ⟨j,q⟩ a c;have l:=aF q;rw[bU];by_cases g:t.page≠0;·rw[if_pos g];exact⟨[],Pl.refl a,fun x _=>by simp⟩
  ·rw[if_neg g];obtain⟨z,i,r⟩:=jT t.kids a c (fun m n a c=>p m n ⟨false,l.2.2 m n⟩ a c);have u:∃ d,Pl (av (t.kids.map ai) a).2 (if t.leaf then aA (t.vals.zip t.over) (av (t.kids.map ai) a).2 else (t.over,(av (t.kids.map ai) a).2)).2 d∧∀ x,(if t.leaf then aA (t.vals.zip t.over) (av (t.kids.map ai) a).2 else (t.over,(av (t.kids.map ai) a).2)).1.count x<=t.over.count x+d.count x:=by
    cases v:t.leaf;·exact⟨[],Pl.refl _,fun x=>by simp⟩
    ·obtain⟨d,e,f⟩:=kw (t.vals.zip t.over) (av (t.kids.map ai) a).2 (by rw[i.len,c]);obtain⟨A,B,_⟩:=l.2.1 v;refine⟨d,e,fun x=>?_⟩;have:=f x;rw[show (t.vals.zip t.over).map (fun y=>y.2)=t.over from List.map_snd_zip (by omega)] at this;exact this
   obtain⟨d,e,f⟩:=u;generalize (if t.leaf then aA (t.vals.zip t.over) (av (t.kids.map ai) a).2 else (t.over,(av (t.kids.map ai) a).2))=b at e f ⊢;have w:=pO (s:=b.2) (by rw[e.len,i.len,c]);refine⟨_,((i.trans e).trans w).log _,fun x o=>?_⟩;have C:=r x o;have D:=f x;rw[T.nums_eq,T.nums_eq t];show ((if (cW b.2).1=0 then [] else [(cW b.2).1])++b.1.filter (fun x=>x != 0)++((av (t.kids.map ai) a).1.map T.nums).flatten).count x<=_;rw[if_pos (show t.page=0 by simpa using g)];simp only[List.count_append,mg x o,D7];have E:(if (cW b.2).1=0 then [] else [(cW b.2).1]).count x<=[(cW b.2).1].count x:=by
    split;·simp
    ·exact DU _
   omega
theorem Ax (t:T):(0:Int) ∉ t.nums:=by
 induction t using T.ind with
 |h t a=>
  rw[T.nums_eq];intro h;rcases Ei.1 h with h | h
  ·rcases Ei.1 h with h | h
   ·split at h;·cases h
    ·rename_i b;simp only[List.mem_singleton] at h;exact b h.symm
   ·simp at h
  ·obtain⟨g,c,d⟩:=List.mem_flatten.1 h;obtain⟨e,f,rfl⟩:=Ew.1 c;exact a e f d
theorem vy {s:dl} (f:t.good true=true) (g:s.used.length=1000) (a:t.nums.Nodup) (i:∀ x ∈ t.nums,Us s x) (j:(ai t s).2.bad=false):(ai t s).1.nums.Nodup:=by
 obtain⟨k,l,m⟩:=jU t ⟨true,f⟩ s g;obtain⟨b,n⟩:=l.one j;rw[List.nodup_iff_count] at a b ⊢;intro x;by_cases c:x=0;·subst c;rw[List.count_eq_zero_of_not_mem (Ax _)];omega
 ·have d:=m x c;have o:=a x;have p:=b x;by_cases e:x ∈ k;·have:x ∉ t.nums:=fun h=>(n x e).2.2.1 (i x h);rw[List.count_eq_zero_of_not_mem this] at d;omega
  ·rw[List.count_eq_zero_of_not_mem e] at d;omega
theorem yY {o:Int} (h:aU 0 v o=true) (b:¬ (8<v.size∧o=0)):aU p v o=true:=by
 unfold aU at h ⊢;simp only[DW,Bool.not_eq_true',Bool.and_eq_false_iff,Bool.or_eq_true,D1,decide_eq_false_iff_not,beq_iff_eq,bne_iff_ne,ne_eq,bne_eq_false_iff_eq,beq_eq_false_iff_ne] at h ⊢;refine⟨h.1,?_⟩;by_cases a:o=0;·exact .inl (.inr (fun e=>b ⟨e,a⟩))
 ·exact .inl (.inl a)
theorem yZ {x:Int} (h:aU 0 v 0=true) (f:8<v.size) (a:2<=x∧x<=999):aU p v x=true:=by
 unfold aU at h ⊢;have b:ir x=true:=by unfold ir;exact decide_eq_true a
 simp only[DW,D1] at h;have c:decide (v.size<=400)=true:=by simpa using h.1.1.1
 have d:decide (v.size<=8)=false:=by simp;omega
 have e:(x == 0)=false:=by simp;omega
 rw[b,c,d,e];simp
theorem pP (p:Int):∀ (e:List (ByteArray × Int)) (b:dl),b.used.length=1000->(aA e b).2.bad=false->(∀ x ∈ e,aU 0 x.1 x.2=true)->∀ x ∈ (e.map (fun y=>y.1)).zip (aA e b).1,aU p x.1 x.2=true
 | [],b,_,_,_,x,a=>by simp at a
 | y::r,b,hs,c,h,x,a=>by
  rw[aA] at c a
  have f:=h y (D4 ..)
  split at c
  ·rename_i d
   rw[if_pos d] at a
   obtain⟨n,j⟩:=Aw hs d.1
   have k:(fH y.1 b).2.used.length=1000:=by rw[j.len,hs]
   obtain⟨o,m,_⟩:=kw r (fH y.1 b).2 k
   have c:(aA r (fH y.1 b).2).2.bad=false:=c
   simp only[D8,List.zip_cons_cons,Ek] at a
   rcases a with rfl | a
   ·have l:=(j.one (m.was c)).2 _ (D4 ..)
    exact yZ (by rw[d.2] at f;exact f) d.1 ⟨l.1,l.2.1⟩
   ·exact pP p r _ k c (fun g i=>h g (Eg _ i)) x a
  ·rename_i d
   rw[if_neg d] at a
   have c:(aA r b).2.bad=false:=c
   simp only[D8,List.zip_cons_cons,Ek] at a
   rcases a with rfl | a
   ·exact yY f d
   ·exact pP p r b hs c (fun g i=>h g (Eg _ i)) x a
theorem rM (P:T->Prop):∀ (y:List T) (a:dl),a.used.length=1000->(∀ b ∈ y,∃ d,b.good d=true)->(av (y.map ai) a).2.bad=false->(∀ b ∈ y,∀ a,a.used.length=1000->(ai b a).2.bad=false->P (ai b a).1)->∀ i ∈ (av (y.map ai) a).1,P i
 | [],a,_,_,_,_,i,c=>by simp[av] at c
 | b::d,a,e,hg,f,h,i,c=>by
  rw[D8,av] at f c
  have f:(av (d.map ai) (ai b a).2).2.bad=false:=f
  obtain⟨m,k,_⟩:=jU b (hg b (D4 ..)) a e
  have j:(ai b a).2.used.length=1000:=by rw[k.len,e]
  obtain⟨n,l,_⟩:=jT d (ai b a).2 j (fun x g a e=>jU x (hg x (Eg _ g)) a e)
  rcases Ek.1 c with rfl | c
  ·exact h b (D4 ..) a e (l.was f)
  ·exact rM P d _ j (fun x g=>hg x (Eg _ g)) f (fun x g=>h x (Eg _ g)) i c
theorem pQ {s:dl} (a:s.used.length=1000) (b:∃ f,t.good f=true) (c:(ai t s).2.bad=false):(ai t s).1.page≠0:=by
 obtain⟨f,b⟩:=b;have i:=aF b;by_cases d:t.page≠0;·rw[bU,if_pos d];exact d
 ·rw[bU,if_neg d] at c ⊢;obtain⟨n,e,o⟩:=jT t.kids s a (fun g j s a=>jU g ⟨false,i.2.2 g j⟩ s a);have h:(if t.leaf then aA (t.vals.zip t.over) (av (t.kids.map ai) s).2 else (t.over,(av (t.kids.map ai) s).2)).2.used.length=1000:=by
   cases p:t.leaf;·show (av (t.kids.map ai) s).2.used.length=1000;rw[e.len,a]
   ·obtain⟨q,k,_⟩:=kw (t.vals.zip t.over) (av (t.kids.map ai) s).2 (by rw[e.len,a]);show (aA (t.vals.zip t.over) (av (t.kids.map ai) s).2).2.used.length=1000;rw[k.len,e.len,a]
  generalize (if t.leaf then aA (t.vals.zip t.over) (av (t.kids.map ai) s).2 else (t.over,(av (t.kids.map ai) s).2))=l at h c ⊢;have m:=pO h;have r:=(m.one c).2 _ (D4 ..);show (cW l.2).1≠0;omega
theorem wW:∀ (t:T) (o:Bool),t.good o=true->∀ a,a.used.length=1000->(ai t a).2.bad=false->(ai t a).1.good o=true:=by
 intro t
 induction t using T.ind with
 |h t A=>
  intro o q a c b;have i:=aF q;by_cases l:t.page≠0;·rw[bU,if_pos l];exact q
  ·have M:=pQ c ⟨o,q⟩ b;have B:=wV t a;have C:=pL t a;have D:=pM t a;have E:=wU t a;obtain⟨N,p,O⟩:=jT t.kids a c (fun d g a c=>jU d ⟨false,i.2.2 d g⟩ a c);have F:(ai t a).1.kids=(av (t.kids.map ai) a).1:=(by rw[bU,if_neg l];rfl);have G:t.leaf=true->(ai t a).1.over=(aA (t.vals.zip t.over) (av (t.kids.map ai) a).2).1:=fun f=>(by rw[bU,if_neg l,f];rfl);have r:ir (ai t a).1.page=true∧(av (t.kids.map ai) a).2.bad=false∧(t.leaf=true->(aA (t.vals.zip t.over) (av (t.kids.map ai) a).2).2.bad=false):=by
    rw[bU,if_neg l] at b ⊢;have b:(cW (if t.leaf then aA (t.vals.zip t.over) (av (t.kids.map ai) a).2 else (t.over,(av (t.kids.map ai) a).2)).2).2.bad=false:=b;cases f:t.leaf;·rw[f] at b;have b:(cW (av (t.kids.map ai) a).2).2.bad=false:=b;have j:=pO (s:=(av (t.kids.map ai) a).2) (by rw[p.len,c]);have m:=(j.one b).2 _ (D4 ..);exact⟨decide_eq_true ⟨m.1,m.2.1⟩,j.was b,fun e=>by cases e⟩
    ·rw[f] at b;have b:(cW (aA (t.vals.zip t.over) (av (t.kids.map ai) a).2).2).2.bad=false:=b;obtain⟨P,u,_⟩:=kw (t.vals.zip t.over) (av (t.kids.map ai) a).2 (by rw[p.len,c]);have j:=pO (s:=(aA (t.vals.zip t.over) (av (t.kids.map ai) a).2).2) (by rw[u.len,p.len,c]);have m:=(j.one b).2 _ (D4 ..);exact⟨decide_eq_true ⟨m.1,m.2.1⟩,u.was (j.was b),fun _=>j.was b⟩
   have v:=rM (fun k=>k.good false=true∧k.page≠0) t.kids a c (fun d g=>⟨false,i.2.2 d g⟩) r.2.1 (fun d g a c b=>⟨A d g false (i.2.2 d g) a c b,pQ c ⟨false,i.2.2 d g⟩ b⟩);rw[T.good_eq,B,C,D,E,F];simp only[DW];refine⟨⟨⟨⟨decide_eq_true (by have H:=i.1;simpa only[DW] using H),by rw[r.1];simp⟩,?_⟩,?_⟩,?_⟩
   ·cases f:t.leaf;·rfl
    ·obtain⟨w,I,J⟩:=i.2.1 f;have K:t.page=0:=(by simpa using l);have n:(t.vals.zip t.over).map (fun y=>y.1)=t.vals:=List.map_fst_zip (by omega);have z:=pP (ai t a).1.page (t.vals.zip t.over) (av (t.kids.map ai) a).2 (by rw[p.len,c]) (r.2.2 f) (fun x L=>by have:=J x L;rw[K] at this;exact this);rw[n] at z;rw[G f];simp only[EK,EE,DW,D1,D9];exact⟨⟨w,by rw[eJ];simp[w,I]⟩,z⟩
   ·rw[List.all_map,D9];intro k n;exact (v k n).1
   ·rw[D9];intro k n;have:=(v k n).2;simp[this]
def Cn (s:dl):Nat:=(s.used.drop 2).count true
structure gF (s s':dl) (n:Nat):Prop where
 len:s'.used.length=1000
 cnt:Cn s'<=Cn s+n
 ok:s.bad=false->Cn s+n<=998->s'.bad=false
theorem gF.trans {s a b:dl} (h:gF s a n) (k:gF a b m):gF s b (n+m) :=
 ⟨k.len,by have:=h.cnt;have:=k.cnt;omega,fun e c=>k.ok (h.ok e (by omega)) (by have:=h.cnt;omega)⟩
theorem gF.refl {s:dl} (h:s.used.length=1000):gF s s 0:=⟨h,by omega,fun e _=>e⟩
theorem gF.more {s a:dl} (h:gF s a n) (b:n<=m):gF s a m:=⟨h.len,by have:=h.cnt;omega,fun e c=>h.ok e (by omega)⟩
theorem gF.log {s a:dl} (h:gF s a n) (l:List (Int × mf)):gF s { a with log:=l } n:=⟨h.len,h.cnt,h.ok⟩
theorem rN (u:List Bool):∀ (b i:Nat),di u i b=none->∀ a,i<=a->a<i+b->u.getD a true=true
 | 0,i,_,a,h1,h2=>by omega
 | b+1,i,h,a,h1,h2=>by
  rw[di] at h
  split at h
  ·rename_i c
   by_cases e:a=i
   ·subst e;exact c
   ·exact rN u b (i+1) h a (by omega) (by omega)
  ·cases h
theorem rO:∀ (b:List Bool),(∀ c,c<b.length->b.getD c true=true)->b.count true=b.length
 | [],_=>rfl
 | a::r,h=>by
  have d:=h 0 (by simp)
  have e:=rO r (fun c f=>by have:=h (c+1) (by simpa using f);simpa[List.getD] using this)
  simp[List.getD] at d
  subst d
  simp[e]
theorem rP:∀ (b:List Bool) (i:Nat),(b.set i true).count true<=b.count true+1
 | [],i=>by simp
 | a::r,0=>by simp[List.count_cons]
 | a::r,i+1=>by have:=rP r i;simp only[List.set_cons_succ,List.count_cons];omega
theorem vz {s:dl} (a:s.used.length=1000):gF s (cW s).2 1:=by
 unfold cW;split;·rename_i i b;obtain⟨c,d,h⟩:=ku _ _ _ _ b;refine⟨by simp[a],?_,fun e _=>e⟩;show ((s.used.set i true).drop 2).count true<=(s.used.drop 2).count true+1;rw[List.drop_set,if_neg (by omega)];exact rP _ _
 ·rename_i b;refine⟨a,by show Cn s<=_;omega,fun e j=>?_⟩;exfalso;have c:=rN _ _ _ b;have d:Cn s=(s.used.drop 2).length:=rO _ (fun f g=>by simp at g;have:=c (f+2) (by omega) (by omega);simpa[List.getD,Nat.add_comm] using this);rw[Es,a] at d;omega
theorem rQ:∀ (n:Nat) (a:dl),a.used.length=1000->gF a (ce n a).2 n
 | 0,a,h=>gF.refl h
 | n+1,a,h=>by
  have b:=vz h
  have c:=rQ n (cW a).2 b.len
  exact (b.trans c).more (by omega)
theorem nM:∀ (b:List (ByteArray × Int)) (a:dl),a.used.length=1000->(∀ x ∈ b,x.1.size<=400)->gF a (aA b a).2 (5*b.length)
 | [],a,h,_=>gF.refl h
 | y::r,a,h,hv=>by
  rw[aA]
  have f:=hv y (D4 ..)
  split
  ·have e:gF a (fH y.1 a).2 ((y.1.size+95) / 96):=(rQ _ a h).log _
   have c:=nM r (fH y.1 a).2 e.len (fun x d=>hv x (Eg _ d))
   exact (e.trans c).more (by simp;omega)
  ·have c:=nM r a h (fun x d=>hv x (Eg _ d))
   exact c.more (by simp;omega)
theorem rR {o:Int} (h:aU p v o=true):v.size<=400:=by
 unfold aU at h;simp only[DW,D1] at h;exact h.1.1.1
theorem pR:∀ (y:List T) (a:dl),a.used.length=1000->(∀ b ∈ y,∀ a,a.used.length=1000->gF a (ai b a).2 (21*b.nodes))->gF a (av (y.map ai) a).2 (21*(y.map T.nodes).sum)
 | [],a,h,_=>gF.refl h
 | b::r,a,h,hk=>by
  have c:=hk b (D4 ..) a h
  have d:=pR r (ai b a).2 c.len (fun x e=>hk x (Eg _ e))
  rw[D8,av]
  exact (c.trans d).more (by simp[Nat.mul_add])
theorem wX:∀ (t:T),(∃ e,t.good e=true)->∀ (a:dl),a.used.length=1000->gF a (ai t a).2 (21*t.nodes):=by
 intro t
 induction t using T.ind with
 |h t l=>
  rintro ⟨e,m⟩ a b;have c:=aF m;rw[bU];by_cases f:t.page≠0;·rw[if_pos f];exact (gF.refl b).more (D0 _)
  ·rw[if_neg f];have d:=pR t.kids a b (fun g i a b=>l g i ⟨false,c.2.2 g i⟩ a b);have j:gF (av (t.kids.map ai) a).2 (if t.leaf then aA (t.vals.zip t.over) (av (t.kids.map ai) a).2 else (t.over,(av (t.kids.map ai) a).2)).2 20:=by
    cases k:t.leaf;·exact (gF.refl d.len).more (D0 _)
    ·obtain⟨n,o,p⟩:=c.2.1 k;have s:t.keys.length<=4:=(by have:=c.1.2;simpa[T.size,k] using this);exact (nM _ _ d.len (fun x q=>rR (p x q))).more (by simp[n,o];omega)
   have r:=vz j.len;refine (((d.trans j).trans r).more ?_).log _;rw[T.nodes_eq t];omega
def mV (d:T):T:=if d.leaf=false∧d.kids.length=1 then d.kids.headD br else d
def bq (key:ByteArray) (t:T):T:=mV (bQ key t)
theorem Bs (h:t.good false=true):t.good true=true:=by
 rw[T.good_eq] at h ⊢;simp only[DW,D1] at h ⊢;refine⟨⟨⟨⟨⟨?_,h.1.1.1.1.2⟩,h.1.1.1.2⟩,h.1.1.2⟩,h.1.2⟩,h.2⟩;have:=h.1.1.1.1.1;simp at this;split<;>omega
theorem mW (m:t.good true=true) (v:bv t) (w:0<=t.ht) (i:bl t.slots) (x:t.slots.all (fun f=>cy f.1)=true) (p:∃ f ∈ t.slots,f.1=key):(bq key t).good true=true∧bv (bq key t)∧0<=(bq key t).ht∧(bq key t).slots=fI key t.slots∧(bq key t).slots.all (fun f=>cy f.1)=true∧bl (bq key t).slots:=by
 have c:=nK key t true m v w i p;have F:=aF m;have h:(bq key t).good true=true∧bv (bq key t)∧0<=(bq key t).ht∧(bq key t).slots=fI key t.slots:=by
  unfold bq mV;cases l:t.leaf
  ·have G:=dg m l;have H:t.size=t.kids.length:=(by simp[T.size,l]);have y:0<t.kids.length:=(by omega);obtain⟨I,z,J⟩:=fA (key:=key) (ys:=t.kids) y;have d:(bQ key t).leaf=false:=(by rw[ic l z]);have K:(bQ key t).size=(bQ key t).kids.length:=(by simp[T.size,d]);have q:0<(bQ key t).size:=(by have:=c.soft.size;omega);have r:=c.neat q;have L:=c.ht q;have s:=(aC (bQ key t)).1 r;have A:=eI d (s.2.1 d).2.2.2 (by omega);split;·rename_i j;obtain⟨g,k⟩:∃ g,(bQ key t).kids=[g]:=List.length_eq_one_iff.1 j.2;rw[k];have n:g ∈ (bQ key t).kids:=(by rw[k];exact D4 ..);refine⟨Bs (c.soft.kids g n).1,s.2.2 g n,(A g n).2,?_⟩;rw[<-c.slots,T.slots_eq (bQ key t),d,k];simp
   ·rename_i j;have o:2<=(bQ key t).size:=(by have:¬ (bQ key t).kids.length=1:=fun e=>j ⟨d,e⟩;omega);exact⟨c.soft.good true (by rw[d];simpa using o) c.soft.size.2,r,by omega,c.slots⟩
  ·have u:=i5 (key:=key) l;have d:(bQ key t).leaf=true:=(by rw[u];rfl);rw[if_neg (by rw[d];simp)];refine⟨c.soft.good true (by rw[d];simp) c.soft.size.2,?_,?_,c.slots⟩;·rw[u,aC];exact⟨fun _=>rfl,fun e=>by simp[cw] at e,fun g k=>by simp[cw] at k⟩
   ·rw[T.ht_eq,d];simp
 refine⟨h.1,h.2.1,h.2.2.1,h.2.2.2,?_,?_⟩;·rw[h.2.2.2,D9];exact fun f B=>D9.1 x f (vr B)
 ·rw[h.2.2.2];unfold fI bl;rw[List.pairwise_append];refine⟨List.Pairwise.sublist (List.take_sublist _ _) i,List.Pairwise.sublist (List.drop_sublist _ _) i,fun a C b D=>?_⟩;have j:=mP t.slots a C;have E:=dO t.slots i p;have ht:bO key t.slots=true:=(by unfold bO;exact decide_eq_true E);have o:=oR (key:=key) t.slots i b (by rw[if_pos ht];exact D);exact dh j o
theorem rS (h:bv t) (k:Nat):((t.fore k).nums++(t.rest k).nums).Sublist t.nums:=by
 have a:=(aC t).1 h;rw[T.nums_eq t];refine List.Sublist.trans ?_ (show ((t.over.filter (fun x=>x != 0))++(t.kids.map T.nums).flatten).Sublist _ by rw[Eb];exact List.sublist_append_right _ _);cases b:t.leaf;·obtain⟨d,e,c,f⟩:=a.2.1 b;simp only[T.nums_eq,T.fore,T.rest,c,if_true,List.take_nil,List.drop_nil,List.filter_nil,D7];rw[<-EF,<-EA,Et];exact EP _
 ·simp only[T.nums_eq,T.fore,T.rest,a.1 b,if_true,List.take_nil,List.drop_nil,D7,Ez,List.flatten_nil,Ej];rw[<-List.filter_append,Et];exact EP _
theorem kz {a b:T} (g:bv a) (h:bv b) (d:a.leaf=b.leaf):(ag a b).nums.Sublist (a.nums++b.nums):=by
 have e:=(aC a).1 g;have f:=(aC b).1 h;have i:(a.over.filter (fun x=>x != 0)++(a.kids.map T.nums).flatten).Sublist a.nums:=by rw[T.nums_eq a,Eb];exact List.sublist_append_right _ _
 have j:(b.over.filter (fun x=>x != 0)++(b.kids.map T.nums).flatten).Sublist b.nums:=by rw[T.nums_eq b,Eb];exact List.sublist_append_right _ _
 refine List.Sublist.trans ?_ (EI i j);rw[T.nums_eq];cases c:a.leaf;·obtain⟨m,n,k,o⟩:=e.2.1 c;obtain⟨p,q,l,r⟩:=f.2.1 (d ▸ c);simp[ag,k,l]
 ·simp[ag,e.1 c,f.1 (d ▸ c)]
theorem wY (c:0<=h) (a:ng x h) (b:wj y h) (g:2<x.size):(((i4 x y).map T.nums).flatten).Sublist (x.nums++y.nums):=by
 have d:=nI a.neat (k:=x.size - 1) (by omega);have e:=tG a.neat (by rw[a.ht];exact c) (k:=x.size - 1) (by omega);rw[a.ht] at e;have f:=jx c d b.neat e b.ht;simp only[i4,D8,Ez,Ex,List.flatten_nil,Ej];refine List.Sublist.trans (EI (EP _) (kz d b.neat f)) ?_;rw[<-Eb];exact EI (rS a.neat _) (EP _)
theorem wZ (c:0<=h) (b:wj x h) (a:ng y h) (g:2<y.size):(((jy x y).map T.nums).flatten).Sublist (x.nums++y.nums):=by
 have d:=nH a.neat (k:=1) (by omega);have e:=tF a.neat (by rw[a.ht];exact c) (k:=1) (by omega);rw[a.ht] at e;have f:=jx c b.neat d b.ht e;simp only[jy,D8,Ez,Ex,List.flatten_nil,Ej];refine List.Sublist.trans (EI (kz b.neat d f) (EP _)) ?_;rw[Eb];exact EI (EP _) (rS a.neat _)
theorem jp {f:T->T->List T} (a:ys[i]?=some x) (b:ys[i+1]?=some y) (c:(((f x y).map T.nums).flatten).Sublist (x.nums++y.nums)):(((eh ys i f).map T.nums).flatten).Sublist ((ys.map T.nums).flatten):=by
 have e:eh ys i f=ys.take i++f x y++ys.drop (i+2):=by unfold eh;simp[List.getD,a,b]
 rw[e]
 conv=>rhs;rw[Ar a b]
 simp only[EA,EF,D8,Ex];have d:=EI (EI (EP ((ys.take i).map T.nums).flatten) c) (EP ((ys.drop (i+2)).map T.nums).flatten);simpa only[Eb] using d
theorem zb (g:0<=h) (s:2<=ys.length) (e:ys[m]?=some d) (a:wj d h) (k:∀ (j:Nat) z,j≠m->ys[j]?=some z->ng z h):(((dW ys m).map T.nums).flatten).Sublist ((ys.map T.nums).flatten):=by
 have t:=Zc e;unfold dW;by_cases l:0<m∧2<(ys.getD (m - 1) br).size;·rw[if_pos l];obtain⟨x,b⟩:∃ x,ys[m - 1]?=some x:=⟨_,DQ (by omega)⟩;have q:ys.getD (m - 1) br=x:=(by simp[List.getD,b]);rw[q] at l;have n:ys[m - 1+1]?=some d:=(by rw[show m - 1+1=m by omega];exact e);exact jp b n (wY g (k (m - 1) x (by omega) b) a l.2)
 ·rw[if_neg l];by_cases f:m+1<ys.length∧2<(ys.getD (m+1) br).size;·rw[if_pos f];obtain⟨y,c⟩:∃ y,ys[m+1]?=some y:=⟨_,DQ f.1⟩;have r:ys.getD (m+1) br=y:=(by simp[List.getD,c]);rw[r] at f;exact jp e c (wZ g a (k (m+1) y (by omega) c) f.2)
  ·rw[if_neg f];by_cases u:0<m;·obtain⟨x,b⟩:∃ x,ys[m - 1]?=some x:=⟨_,DQ (by omega)⟩;have n:ys[m - 1+1]?=some d:=(by rw[show m - 1+1=m by omega];exact e);have o:=k (m - 1) x (by omega) b;exact jp b n (by simpa using kz o.neat a.neat (jx g o.neat a.neat o.ht a.ht))
   ·obtain rfl:m=0:=(by omega);obtain⟨y,c⟩:∃ y,ys[0+1]?=some y:=⟨_,DQ (by omega)⟩;have p:=k (0+1) y (by omega) c;rw[show 0 - 1=0 from rfl];exact jp (i:=0) e c (by simpa using kz a.neat p.neat (jx g a.neat p.neat a.ht p.ht))
theorem Ay (key:ByteArray):∀ (t:T) (o:Bool),t.good o=true->bv t->0<=t.ht->bl t.slots->(∃ b ∈ t.slots,b.1=key)->(bQ key t).nums.Sublist t.nums:=by
 intro t
 induction t using T.ind with
 |h t A=>
  intro o j B C D E;have k:=(aC t).1 B;have F:=aF j;cases d:t.leaf
  ·have X:=dg j d;have s:0<t.kids.length:=(by omega);obtain⟨a,n,f⟩:=fA (key:=key) (ys:=t.kids) s;obtain⟨G,H,u,I⟩:=jj d ⟨o,j⟩ D (ji (key:=key) s) n;have l:=eI d (k.2.1 d).2.2.2 C;have p:=aY j f;have v:∃ b ∈ a.slots,b.1=key:=by
    obtain⟨b,c,e⟩:=E;rw[I] at c;rcases Ei.1 c with c | c
    ·rcases Ei.1 c with c | c;·have:=G b c;rw[e] at this;exact absurd this (aQ _)
     ·exact⟨b,c,e⟩
    ·have:=H b c;rw[e] at this;exact absurd this (aQ _)
   have g:=nK key a false p (k.2.2 a f) (l a f).2 u v;have J:=A a f false p (k.2.2 a f) (l a f).2 u v;have Y:2<=a.size:=(by simpa using (aF p).1.1);have w:0<(bQ key a).size:=(by have:=g.soft.size;omega);have c:=Zc n;have K:(t.kids.set (ci key t.kids) (bQ key a))[ci key t.kids]?=some (bQ key a):=(by simp[c]);have L:∀ (q:Nat) m,q≠ci key t.kids->(t.kids.set (ci key t.kids) (bQ key a))[q]?=some m->ng m (t.ht - 1):=fun q m M x=>(by rw[EM (Ne.symm M)] at x;have r:=D5 x;exact⟨aY j r,k.2.2 m r,(l m r).1⟩);have N:(bQ key a).ht=t.ht - 1:=(by rw[g.ht w];exact (l a f).1);have O:0<=t.ht - 1:=(by have:=l a f;omega);have y:(((t.kids.set (ci key t.kids) (bQ key a)).map T.nums).flatten).Sublist ((t.kids.map T.nums).flatten):=by
    have P:t.kids=t.kids.take (ci key t.kids)++a::t.kids.drop (ci key t.kids+1):=(by rw[<-(Er.1 n).2,List.getElem_cons_drop,Et]);have Q:(t.kids.map T.nums).flatten=((t.kids.take (ci key t.kids)).map T.nums).flatten++a.nums++((t.kids.drop (ci key t.kids+1)).map T.nums).flatten:=by
     conv=>lhs;rw[P]
     simp
    rw[Q,List.set_eq_take_append_cons_drop,if_pos c];simp only[EA,EF,D8,Ex];have R:=EI (EI (EP ((t.kids.take (ci key t.kids)).map T.nums).flatten) J) (EP ((t.kids.drop (ci key t.kids+1)).map T.nums).flatten);simpa only[Eb] using R
   have S:(((ia (ci key t.kids) t.kids (bQ key a)).map T.nums).flatten).Sublist ((t.kids.map T.nums).flatten):=by
    unfold ia;split;·have Z:(bQ key a).size=1:=(by omega);have U:wj (bQ key a) (t.ht - 1):=⟨⟨g.soft.page,by omega,g.soft.leaf,g.soft.kids⟩,g.neat w,N⟩;exact List.Sublist.trans (zb O (by rw[Em];omega) K U L) y
    ·exact y
   rw[ic d n,T.nums_eq,T.nums_eq t];simp only[if_true,List.filter_nil,D7];exact List.Sublist.trans S (List.sublist_append_right _ _)
  ·obtain⟨aa,ab,ac⟩:=F.2.1 d;rw[i5 d,T.nums_eq,T.nums_eq t,k.1 d];simp only[cw,if_true,D7,Ez,List.flatten_nil,Ej];refine List.Sublist.trans ?_ (List.sublist_append_right _ _);have z:t.over=(t.keys.zip (t.vals.zip t.over)).map (fun b=>b.2.2):=(by have V:(t.keys.zip (t.vals.zip t.over)).map (fun b=>b.2)=t.vals.zip t.over:=List.map_snd_zip (by simp;omega);have:(t.keys.zip (t.vals.zip t.over)).map (fun b=>b.2.2)=((t.keys.zip (t.vals.zip t.over)).map (fun b=>b.2)).map (fun b=>b.2):=(by simp);rw[this,V];exact (List.map_snd_zip (by omega)).symm);generalize t.keys.zip (t.vals.zip t.over)=i at z ⊢;rw[z];refine List.Sublist.filter _ (List.Sublist.map _ ?_);unfold fI;have W:(i.drop (bm key i+1)).Sublist (i.drop (bm key i)):=(by rw[<-List.drop_drop];exact List.drop_sublist _ _);have:=EI (EP (i.take (bm key i))) W
   rwa [Et] at this
def jV (key:ByteArray) (zs:List (ByteArray × ByteArray × Int)):Prop:=∃ s ∈ zs,s.1=key
def mh (w:World) (P:Nat->Prop) (key:ByteArray) (t:T) (u:Value) (e:Ending) (w':World):Prop :=
 (e=.returned (.bool true)∧jV key t.slots∧(∃ P':Nat->Prop,GM w' P' (bQ key t) u∧∀ b,P' b->(P b∨w.heap.size<=b)∧b<w'.heap.size)∧Fr P w w') ∨
 (e=.returned (.bool false)∧¬ jV key t.slots∧Below w.heap.size w w')
theorem vC {P:Nat->Prop} {L:Nat} {a:Option Addr} {c:Nat} (h:su w P t L a n c) (y:t.leaf=true) (O:t.kids=[]) (Q:bl (t.keys.zip (t.vals.zip t.over))) (aq:n<=1000) (R:∀ b,P b->b<w.heap.size) (key:ByteArray) :
  Calls prog 114 #[.pointer (some ⟨L,0,none⟩),.string key] w fun e w'=>mh w P key t (.iface 110 (.pointer (some ⟨L,0,none⟩))) e w':=by
 obtain⟨z,av⟩:=Zn w.heap.size;obtain⟨d,p⟩:=Zn (t.keys.zip (t.vals.zip t.over));have S:t.slots=d:=by rw[T.slots_eq,if_pos y,O,p];simp
 have aw:Hid (bQ key t=cw (fI key d)):=by show _=_;rw[i5 y,p]
 have A:=gV h.see Q aq key;have q:=h.row;rw[p] at A q Q;have aG:d.length=n:=by have:=q.1;rw[ay uo] at this;omega
 have aH:L<z:=by have:=R L h.at';omega
 have j:∀ g,(Value.slice a n c).ownBlock=some g->P g∧g≠L∧g<z:=fun g f=>⟨(h.blk g f).1,(h.blk g f).2,by have:=R g (h.blk g f).1;omega⟩;have B:=h.box;have C:=h.at';obtain⟨aI,U⟩:=Zn t.page;rw[U] at B;have V:=hidI S;clear h p O y U S;go_enter func114,ntmps114;go_wp2_with fail
 refine A.mono ?_;rintro e W ⟨i,ax,rfl,D,E,F,k⟩;have G:=wG key d i F;have r:=(k.block L (by omega)).trans B;have H:=an q k;have aJ:=k.size;clear A B q;cases ax
 ·have I:Hid (mh w P key t (.iface 110 (.pointer (some ⟨L,0,none⟩))) (.returned (.bool false)) W):=.inr ⟨rfl,fun ⟨aK,X,e⟩=>by rw[V.out] at X;obtain⟨az,Y,rfl⟩:=List.mem_iff_getElem.1 X;exact E rfl az Y (by simpa[List.getD,Y] using e),k⟩;clear D E F G r H k;go_wp2_with fail
  go_ret;exact I.out
 ·obtain⟨Z,ab⟩:=D rfl;obtain⟨m,rfl⟩:∃ m,n=m+1:=⟨n - 1,by omega⟩;have aA:Hid (jV key t.slots):=⟨d.getD i (ByteArray.empty,ByteArray.empty,0),by rw[V.out,show d.getD i (ByteArray.empty,ByteArray.empty,0)=d[i] by simp[List.getD,Z]];exact Ey _,ab⟩;have ac:Hid (fI key d=d.take i++d.drop (i+1)):=(by show _=_;unfold fI;rw[<-G]);have aC:i<=m:=(by omega);clear D E F G Z ab;have ad:=gu r;go_wp2_with fail
  refine ad.mono ?_;rintro e s ⟨rfl,J⟩;have l:=af W L 0 (.int .i64 0);rw[<-J] at l;have u:s.heap[L]?=some (.cells #[.int .i64 0,.slice a (m+1) c] 112):=(by rw[J];simpa using aj r 0 (.int .i64 0));have pY:=am H l (fun g f e=>(j g f).2.1 e);have aL:=l.size;have ae:Fr (fun b=>P b∨z<=b) w s:=(Fr.of_below k).trans (l.weak (fun g e=>.inl (by rw[e];exact C)));clear J l r H ad k;have ag:=pT i m c a (aa aB d) s pY aC (by omega) (j6 d);obtain⟨ah,ai⟩:=au u;have aE:L<s.heap.size:=(by omega);have aF:=ar u;go_wp2_with fail
  refine ag.mono ?_;rintro e o ⟨rfl,ak,v⟩;have K:=(v.block L aE (fun e=>(j L e).2.1 rfl)).trans u;have aM:=v.size;have al:=ae.trans (v.weak (fun g e=>.inl (j g e).1));have M:=af o L 1 (.slice a m c);have ao:(o.setCell ⟨L,1,none⟩ (.slice a m c)).heap[L]?=some (.cells #[.int .i64 0,.slice a m c] 112):=(by simpa using aj K 1 (.slice a m c));have N:(Value.slice a m c).ownBlock=(Value.slice a (m+1) c).ownBlock:=(by cases a<;>rfl);have ap:=am ak M (fun g f e=>(j g (by rw[<-N];exact f)).2.1 e);have x:(fI key d).length=m:=(by rw[ac.out];simp;omega);have I:Hid (mh w P key t (.iface 110 (.pointer (some ⟨L,0,none⟩))) (.returned (.bool true)) (o.setCell ⟨L,1,none⟩ (.slice a m c))):=by
   have:=jL (w:=w) (P:=P) (L:=L) (c:=c) (a:=a) (zs:=fI key d) (w5:=o.setCell ⟨L,1,none⟩ (.slice a m c)) (by rw[av];exact al.trans (M.weak (fun g e=>.inl (by rw[e];exact C)))) (by rw[x];exact ao) (by
    rw[x,ac.out,aD,dM uo,eH uo];exact ap) C (fun g f=>by
    rw[x,N] at f;exact⟨.inl (j g f).1,(j g f).2.1⟩)
   exact .inl ⟨rfl,aA.out,by rw[aw.out];exact this.2.1,this.2.2⟩
  have aN:L<o.heap.size:=(by omega);have aO:=ar K;clear pY ak ap ae al v M u ao ah ai aF ag j N x;obtain⟨ah,ai⟩:=au K;go_wp2_with fail
  go_ret;exact I.out
theorem jX {size:Nat} {v:Value} (h:w.ownsRow base e size v n xs) {g:Nat} (a:v.ownBlock=some g):∃ b,w.heap[g]?=some (.cells b e):=by
 rcases h.2 with ⟨rfl,_⟩ | ⟨d,f,b,rfl,_,c,_⟩;·simp[Value.ownBlock] at a
 ·simp[Value.ownBlock] at a;subst a;exact⟨b,c⟩
theorem bh {size t:Nat} {v:Value} {cs:Array Value} (h:w.ownsRow base e size v n xs) (b:w.heap[g]?=some (.cells cs t)) (c:e≠t):v.ownBlock≠some g:=fun e=>by
 obtain⟨d,a⟩:=jX h e
 rw[b] at a
 simp at a
 exact c a.2.symm
def ZP (P U:Nat) (pv nv:Value) (g:Nat):Prop:=g=P∨g=U∨pv.ownBlock=some g∨nv.ownBlock=some g
def NK (w:World) (g:Nat):Prop:=∀ cs e,w.heap[g]?=some (.cells cs e)->e≠144∧e≠146
theorem jt {cs:Array Value} (h:w.heap[g]?=some (.cells cs e)) (b:e≠144) (c:e≠146):NK w g:=fun d f a=>by
 rw[h] at a
 simp at a
 rw[<-a.2]
 exact⟨b,c⟩
theorem qg {size:Nat} {v:Value} (h:w.ownsRow base e size v n xs) (a:v.ownBlock=some g) (b:e≠144) (c:e≠146):NK w g:=by
 obtain⟨f,d⟩:=jX h a;exact jt d b c
def iM (X:Nat->Prop) (w:World) (tx:Int) (cs:List Value) (c:mf):Prop:=∃ (ka:Option Addr) (kc:Nat) (ea:Option Addr) (ec:Nat),cs=[.int .i64 c.kind,.int .i64 tx,.int .i64 0,.int .i64 0,.int .i64 0,.slice ka c.kids.length kc,.slice ea c.ents.length ec,.int .i64 c.next,.string c.data] ∧
 w.ownsRow 0 144 2 (.slice ka c.kids.length kc) c.kids.length (aa ft c.kids)∧w.ownsRow 0 146 4 (.slice ea c.ents.length ec) c.ents.length (aa fu c.ents)∧(∀ g,(Value.slice ka c.kids.length kc).ownBlock=some g->¬ X g)∧∀ g,(Value.slice ea c.ents.length ec).ownBlock=some g->¬ X g
theorem iM.fr {c:mf} (h:iM X w tx cs c) (f:Fr S w w') (i:∀ g,S g->X g∨NK w g):iM X w' tx cs c:=by
 obtain⟨o,p,q,r,e,j,k,l,m⟩:=h;refine⟨o,p,q,r,e,am j f (fun g a b=>?_),am k f (fun g a b=>?_),l,m⟩;·obtain⟨s,d⟩:=jX j a;exact (i g b).elim (l g a) (fun n=>(n _ _ d).1 rfl)
 ·obtain⟨s,d⟩:=jX k a;exact (i g b).elim (m g a) (fun n=>(n _ _ d).2 rfl)
theorem iM.below {c:mf} (h:iM X w tx cs c) (a:Below w.heap.size w w'):iM X w' tx cs c:=h.fr (S:=fun _=>False) (Fr.of_below a) (fun _ e=>e.elim)
theorem iM.less {d:Nat->Prop} {c:mf} (h:iM X w tx cs c) (f:∀ g,d g->g<w.heap.size->X g):iM d w tx cs c:=by
 obtain⟨k,l,m,n,e,i,j,o,p⟩:=h;exact⟨k,l,m,n,e,i,j,fun g a b=>o g a (f g b (i.lt g a).2),fun g a b=>p g a (f g b (j.lt g a).2)⟩
theorem iM.over (nx:Int) (d:ByteArray):iM X w tx [.int .i64 4,.int .i64 tx,.int .i64 0,.int .i64 0,.int .i64 0,.slice none 0 0,.slice none 0 0,.int .i64 nx,.string d] (.over nx d):=⟨none,0,none,0,rfl,⟨rfl,.inl ⟨rfl,rfl⟩⟩,⟨rfl,.inl ⟨rfl,rfl⟩⟩,fun g e=>by simp[Value.ownBlock] at e,fun g e=>by simp[Value.ownBlock] at e⟩
structure dR (X:Nat->Prop) (w:World) (P U:Nat) (pv:Value) (a:Nat) (nv:Value) (b:Nat) (tx:Int) (s:dl):Prop where
 box:w.heap[P]?=some (.cells #[.slice (some ⟨U,0,none⟩) 1000 1000,.int .i64 tx,pv,nv,.bool s.bad] 128)
 us:w.heap[U]?=some (.cells (s.used.map Value.bool).toArray 4)
 len:s.used.length=1000
 pgs:∃ css:List (List Value),w.ownsRow 0 142 9 pv a css.flatten∧css.length=a∧∀ (i:Nat) cs,css[i]?=some cs->∃ n c,s.log[i]?=some (n,c)∧iM X w tx cs c
 nms:w.ownsRow 0 2 1 nv b (aa ac ((s.log.take b).map Prod.fst))
theorem dR.prow {s:dl} (h:dR X w P U pv a nv b tx s):∃ xs,w.ownsRow 0 142 9 pv a xs:=by
 obtain⟨d,c,_⟩:=h.pgs;exact⟨_,c⟩
theorem dR.nrow {s:dl} (h:dR X w P U pv a nv b tx s):∃ xs,w.ownsRow 0 2 1 nv b xs:=⟨_,h.nms⟩
theorem dR.ne {s:dl} (h:dR X w P U pv a nv b tx s):P≠U:=fun e=>by
 have c:=h.box
 rw[e,h.us] at c
 simp at c
theorem dR.lt {s:dl} (h:dR X w P U pv a nv b tx s) {g:Nat} (c:ZP P U pv nv g):g<w.heap.size:=by
 obtain⟨xs,d⟩:=h.prow;obtain⟨ys,e⟩:=h.nrow;rcases c with rfl | rfl | c | c;·exact (Za h.box)
 ·exact (Za h.us)
 ·exact (d.lt g c).2
 ·exact (e.lt g c).2
theorem ue {l:List (Int × mf)} {css:List (List Value)} (h:∀ (i:Nat) cs,css[i]?=some cs->∃ n a,l[i]?=some (n,a)∧iM X w tx cs a) (b:Fr S w w') (c:∀ g,S g->X g∨NK w g):∀ (i:Nat) cs,css[i]?=some cs->∃ n a,l[i]?=some (n,a)∧iM X w' tx cs a:=fun i cs d=>by
 obtain⟨n,a,e,f⟩:=h i cs d
 exact⟨n,a,e,f.fr b c⟩
theorem dR.fr {s:dl} (h:dR X w P U pv a nv b tx s) (c:Fr S w w') (d:∀ g,ZP P U pv nv g->¬ S g) (f:∀ g,S g->X g∨NK w g):dR X w' P U pv a nv b tx s:=by
 obtain⟨i,j,k,l⟩:=h.pgs
 exact⟨(c.block P (h.lt (.inl rfl)) (d P (.inl rfl))).trans h.box,(c.block U (h.lt (.inr (.inl rfl))) (d U (.inr (.inl rfl)))).trans h.us,h.len,
  ⟨i,am j c (fun g e=>d g (.inr (.inr (.inl e)))),k,ue l c f⟩,am h.nms c (fun g e=>d g (.inr (.inr (.inr e))))⟩
theorem dR.below {s:dl} (h:dR X w P U pv a nv b tx s) (c:Below w.heap.size w w'):dR X w' P U pv a nv b tx s:=h.fr (S:=fun _=>False) (Fr.of_below c) (fun _ _ e=>e) (fun _ e=>e.elim)
theorem dR.less {c:Nat->Prop} {s:dl} (h:dR X w P U pv a nv b tx s) (d:∀ g,c g->g<w.heap.size->X g):dR c w P U pv a nv b tx s:=by
 obtain⟨f,j,k,l⟩:=h.pgs;refine⟨h.box,h.us,h.len,⟨f,j,k,fun i cs m=>?_⟩,h.nms⟩;obtain⟨n,o,e,p⟩:=l i cs m;exact⟨n,o,e,p.less d⟩
theorem dR.apart {s:dl} (h:dR X w P U pv a nv b tx s):pv.ownBlock≠some P∧pv.ownBlock≠some U∧nv.ownBlock≠some P∧nv.ownBlock≠some U∧∀ g,pv.ownBlock=some g->nv.ownBlock≠some g:=by
 obtain⟨xs,c⟩:=h.prow;obtain⟨ys,d⟩:=h.nrow;refine⟨bh c h.box (by decide),bh c h.us (by decide),bh d h.box (by decide),bh d h.us (by decide),fun g e=>?_⟩;obtain⟨i,f⟩:=jX c e;exact bh d f (by decide)
theorem dR.nk {s:dl} (h:dR X w P U pv a nv b tx s) {g:Nat} (c:ZP P U pv nv g):NK w g:=by
 obtain⟨xs,d⟩:=h.prow;rcases c with rfl | rfl | c | c;·exact jt h.box (by decide) (by decide)
 ·exact jt h.us (by decide) (by decide)
 ·exact qg d c (by decide) (by decide)
 ·exact qg h.nms c (by decide) (by decide)
theorem dJ {N:Nat} {a b c d e:Value} {t:TypeId} (h:w.heap[N]?=some (.cells #[a,b,c,d,e] t)):w.cell? ⟨N,0,none⟩=some a∧w.cell? ⟨N,1,none⟩=some b∧w.cell? ⟨N,2,none⟩=some c∧w.cell? ⟨N,3,none⟩=some d∧w.cell? ⟨N,4,none⟩=some e:=by
 simp[World.cell?,h]
theorem dR.cell {s:dl} (h:dR X w P U pv a nv b tx s) {i:Nat} (d:i<1000):w.cell? ⟨U,i,none⟩=some (.bool (s.used.getD i true)):=by
 have e:=h.len;have c:i<s.used.length:=by omega
 simp[World.cell?,h.us,List.getD,DQ c]
theorem dR.mark {s:dl} (h:dR X w P U pv a nv b tx s) (i:Nat):dR X (w.setCell ⟨U,i,none⟩ (.bool true)) P U pv a nv b tx { s with used:=s.used.set i true }:=by
 have c:=af w U i (.bool true);obtain⟨o,f,p,j,q⟩:=h.apart;obtain⟨k,l,m,n⟩:=h.pgs;refine⟨(c.block P (h.lt (.inl rfl)) h.ne).trans h.box,?_,by simp[h.len],⟨k,am l c (fun g e d=>f (by rw[e,d])),m,ue n c (fun g e=>.inr (e ▸ h.nk (.inr (.inl rfl))))⟩,am h.nms c (fun g e d=>j (by rw[e,d]))⟩;rw[aj h.us];simp[List.map_set]
theorem dR.fail {s:dl} (h:dR X w P U pv a nv b tx s):dR X (w.setCell ⟨P,4,none⟩ (.bool true)) P U pv a nv b tx { s with bad:=true }:=by
 have c:=af w P 4 (.bool true);obtain⟨f,n,i,o,p⟩:=h.apart;obtain⟨j,k,l,m⟩:=h.pgs;refine⟨?_,(c.block U (h.lt (.inr (.inl rfl))) (fun e=>h.ne e.symm)).trans h.us,h.len,⟨j,am k c (fun g e d=>f (by rw[e,d])),l,ue m c (fun g e=>.inr (e ▸ h.nk (.inl rfl)))⟩,am h.nms c (fun g e d=>i (by rw[e,d]))⟩;rw[aj h.box];simp
theorem dR.pushP {v':Value} {s:dl} {css:List (List Value)} {c:mf} {m:Int} (h:dR X w P U pv a nv b tx s) (r:css.length=a) (t:∀ (i:Nat) cs,css[i]?=some cs->∃ n c,s.log[i]?=some (n,c)∧iM X w tx cs c) (u:s.log[a]?=some (m,c)) (v:iM X w tx cs c) (l:w'.ownsRow 0 142 9 v' (a+1) (css.flatten++cs)) (y:w.grownBy w' pv.ownBlock):dR X (w'.setCell ⟨P,2,none⟩ v') P U v' (a+1) nv b tx s:=by
 have k:=af w' P 2 v';have f:=Fr.of_grown y (fun g e=>e);obtain⟨z,A,B,I,C⟩:=h.apart;have o:=(f.block P (h.lt (.inl rfl)) z).trans h.box;have D:=(f.block U (h.lt (.inr (.inl rfl))) A).trans h.us;have E:=am h.nms f (fun g e j=>C g j e);have p:Fr (fun g=>pv.ownBlock=some g∨g=P) w (w'.setCell ⟨P,2,none⟩ v'):=(f.weak (fun g e=>.inl e)).trans (k.weak (fun g e=>.inr e));have q:∀ g,(pv.ownBlock=some g∨g=P)->X g∨NK w g:=fun g e=>.inr (e.elim (fun e=>h.nk (.inr (.inr (.inl e)))) (fun e=>e ▸ h.nk (.inl rfl)));refine⟨?_,(k.block U (DY (h.lt (.inr (.inl rfl))) f.size) (fun e=>h.ne e.symm)).trans D,h.len,⟨css++[cs],by rw[EF];simpa using am l k (fun g e j=>bh l o (by decide) (by rw[e,j])),by simp[r],fun i x d=>?_⟩,am E k (fun g e j=>B (by rw[e,j]))⟩;·rw[aj o];simp
 ·by_cases F:i<css.length;·rw[Ec F] at d;obtain⟨n,c,e,G⟩:=t i x d;exact⟨n,c,e,G.fr p q⟩
  ·rw[Ea (by omega)] at d;have H:i - css.length=0:=(by have:=Zc d;simp at this;omega);rw[H] at d;simp at d;subst d;obtain rfl:i=a:=(by omega);exact⟨m,c,u,v.fr p q⟩
theorem AV {l:List (Int × mf)} {y:Int} {c:mf} (h:l[b]?=some (y,c)):aa ac ((l.take b).map Prod.fst)++[.int .i64 y]=aa ac ((l.take (b+1)).map Prod.fst):=by
 rw[List.take_add_one,h];simp[aa,ac]
theorem dR.pushN {v':Value} {y:Int} {s:dl} {c:mf} (h:dR X w P U pv a nv b tx s) (l:s.log[b]?=some (y,c)) (j:w'.ownsRow 0 2 1 v' (b+1) (aa ac ((s.log.take b).map Prod.fst)++[.int .i64 y])) (m:w.grownBy w' nv.ownBlock):dR X (w'.setCell ⟨P,3,none⟩ v') P U pv a v' (b+1) tx s:=by
 have i:=af w' P 3 v';have d:=Fr.of_grown m (fun g e=>e);obtain⟨n,C,o,p,q⟩:=h.apart;obtain⟨r,t,u,v⟩:=h.pgs;have k:=(d.block P (h.lt (.inl rfl)) o).trans h.box;have x:=(d.block U (h.lt (.inr (.inl rfl))) p).trans h.us;have z:=am t d (fun g e f=>q g e f);have A:Fr (fun g=>nv.ownBlock=some g∨g=P) w (w'.setCell ⟨P,3,none⟩ v'):=(d.weak (fun g e=>.inl e)).trans (i.weak (fun g e=>.inr e));have B:∀ g,(nv.ownBlock=some g∨g=P)->X g∨NK w g:=fun g e=>.inr (e.elim (fun e=>h.nk (.inr (.inr (.inr e)))) (fun e=>e ▸ h.nk (.inl rfl)));rw[AV l] at j;refine⟨?_,(i.block U (DY (h.lt (.inr (.inl rfl))) d.size) (fun e=>h.ne e.symm)).trans x,h.len,⟨r,am z i (fun g e f=>n (by rw[e,f])),u,ue v A B⟩,am j i (fun g e f=>bh j k (by decide) (by rw[e,f]))⟩;rw[aj k];simp
theorem dR.log {s:dl} (h:dR X w P U pv a nv b tx s) (l:List (Int × mf)):dR X w P U pv a nv b tx { s with log:=s.log++l }:=by
 obtain⟨c,d,f,g⟩:=h.pgs;have j:b<=s.log.length:=by have:=h.nms.1;rw[ay (m:=1) (cs:=ac) (fun _=>rfl),Ev,D3] at this;omega
 refine⟨h.box,h.us,h.len,⟨c,d,f,fun i cs k=>?_⟩,?_⟩;·obtain⟨n,o,e,p⟩:=g i cs k;exact⟨n,o,by show (s.log++l)[i]?=_;rw[Ec (Zc e),e],p⟩
 ·show w.ownsRow _ _ _ _ _ (aa ac (((s.log++l).take b).map Prod.fst));rw[El j];exact h.nms
theorem mp (X:Nat->Prop) (P U a b:Nat) (pv nv:Value) (tx:Int) (s:dl) (w:World) (h:dR X w P U pv a nv b tx s) :
  Calls prog 72 #[.pointer (some ⟨P,0,none⟩)] w fun e w'=>e=.returned (.int .i64 (cW s).1)∧dR X w' P U pv a nv b tx (cW s).2∧Fr (fun g=>g=P∨g=U) w w':=by
 obtain⟨p,q1,q2,q3,q⟩:=dJ h.box;have r:=ar h.box;have t:=ar h.us;have u:=h.lt (.inl rfl);have v:=h.lt (.inr (.inl rfl));have f:=hidI h;clear h;go_enter func72,ntmps72;go_wp2_with fail
 go_loopw [3] (fun i wr=>∃ c:Nat,2<=c∧c<=1000∧i=.int .i64 c∧wr=w∧Hid (di s.used 2 998=di s.used c (1000 - c))) (fun i _=>1000 - (intOf i).toNat)
 case atStart=>exact⟨2,by omega,by omega,rfl,rfl,rfl⟩
 case round =>
  obtain⟨c,x,y,rfl,rfl,j⟩:=hrel;by_cases n:c<1000
  ·have l:=f.out.cell n;have m:Hid (di s.used c (1000 - c)=if s.used.getD c true then di s.used (c+1) (1000 - (c+1)) else some c):=(by show _=_;rw[show 1000 - c=(1000 - (c+1))+1 by omega,di]);cases d:s.used.getD c true;·have k:Hid (cW s=((c:Int),{ s with used:=s.used.set c true })):=(by show _=_;unfold cW;rw[j.out,m.out,d];rfl);rw[d] at l;(go_wp2_with fail);go_ret;rw[k.out];exact⟨rfl,f.out.mark c,(af wr U c (.bool true)).weak (fun g e=>.inr e)⟩
   ·have o:Hid (di s.used 2 998=di s.used (c+1) (1000 - (c+1))):=(by show _=_;rw[j.out,m.out,d];rfl);rw[d] at l;(go_wp2_with fail);go_roundw
    case rel=>exact⟨c+1,by omega,by omega,by go_num,trivial,o⟩
    case measure=>simp[intOf];omega
  ·have k:Hid (cW s=(0,{ s with bad:=true })):=(by show _=_;unfold cW;rw[j.out,show 1000 - c=0 by omega,di]);go_wp2_with fail
   go_ret;rw[k.out];exact⟨rfl,f.out.fail,(af wr P 4 (.bool true)).weak (fun g e=>.inl e)⟩
end Go.Proofs.YtgcedpmagmmikaaGreat
