import Derived.Test.YtggmghkcdfjdoaaGreatHTp
import Derived.Test.YtggmghkcdfjdoaaGreatHTga
import Derived.Test.YtggmghkcdfjdoaaGreatHTgf
import Derived.Test.YtggmghkcdfjdoaaGreatHTgh
import Derived.Test.YtggmghkcdfjdoaaGreatHTui
import Derived.Test.YtggmghkcdfjdoaaGreatHTvr
import Derived.Test.YtggmghkcdfjdoaaGreatHTvc
import Derived.Deep.QuietTactic
import Derived.BigQuiet
import Derived.Deep.RegionWith
namespace Go.Proofs.YtggmghkcdfjdoaaGreat
set_option maxHeartbeats 4000000
open Go.RowKit Tryz
set_option linter.unusedVariables false
set_option linter.unusedSimpArgs false
set_option maxRecDepth 100000
variable {M SZ:Nat} {Wd w:World} {a:Act} {con:Nat->Nat->List Value} {da len:Nat->Nat->Nat} {keep:List (Nat × Value)} {key val:ByteArray} {p:Nat->Nat} {t:T} {ts:List TN}
def bv:T->Prop
 | ⟨l,_,k,v,o,y⟩=>(l=true->y=[])∧(l=false->k=[]∧v=[]∧o=[]∧y≠[])∧∀ z,z ∈ y->bv z
theorem aC (t:T):bv t ↔ (t.leaf=true->t.kids=[])∧(t.leaf=false->t.keys=[]∧t.vals=[]∧t.over=[]∧t.kids≠[])∧∀ a ∈ t.kids,bv a:=by cases t;rw[bv]
theorem bv.shape:∀ (t:T),bv t->cg t:=by
 intro t
 induction t using T.ind with
 |h t d=>intro a;rw[aC] at a;rw[bj];exact⟨a.1,fun b c=>d b c (a.2.2 b c)⟩
theorem rH {a:Type} {l:List a} {s:Nat} {x d:a} {r:List a} (h:l.drop s=x::r):s<l.length∧l.getD s d=x∧l.drop (s+1)=r:=by
 have b:s<l.length:=by
  rcases Nat.lt_or_ge s l.length with c | c;·exact c
  ·rw[List.drop_eq_nil_of_le c] at h;cases h
 rw[List.drop_eq_getElem_cons b] at h;simp only[List.cons.injEq] at h;exact⟨b,by simp[List.getD,Eh b,h.1],h.2⟩
theorem ve {f:Nat} (e:∀ (t:T) (a:Nat) (c:List TN),bv t->t.nodes<=f->ts.drop a=t.flat a++c->rd ts f a=(t,a+t.nodes,false)):∀ (d:List T) (a:Nat) (c:List TN),(∀ b ∈ d,bv b)->(d.map T.nodes).sum<=f->ts.drop a=bJ a (d.map T.flat)++c->fm (rd ts f) (aX a (d.map T.nodes)) a=(d,a+(d.map T.nodes).sum,false)
 | [],a,c,_,_,_=>by simp[aX,fm]
 | b::r,a,c,hn,hl,hd=>by
  simp only[Ex,Ff] at hl
  simp only[Ex,bJ,EA] at hd
  have g:=hn b (Et ..)
  have i:=e b a _ g (by omega) hd
  have h:=dq b g.shape a
  rw[h] at hd
  have j:ts.drop (a+b.nodes)=bJ (a+b.nodes) (r.map T.flat)++c:=by
   rw[<-List.drop_drop,hd,<-h,List.drop_left]
  have k:=ve e r (a+b.nodes) c (fun l m=>hn l (EH _ m)) (by omega) j;simp only[Ex,aX,fm,i,if_true,EC,EO,k,Ff,Fx]
theorem xQ (ts:List TN):∀ (f:Nat) (t:T) (b:Nat) (g:List TN),bv t->t.nodes<=f->ts.drop b=t.flat b++g->rd ts f b=(t,b+t.nodes,false)
 | 0,t,b,g,hn,hf,hd=>by
  have:1<=t.nodes:=by rw[T.nodes_eq];omega
  omega
 | f+1,t,b,g,hn,hf,hd=>by
  rw[aC] at hn
  rw[T.flat_eq] at hd
  cases c:t.leaf
  ·rw[c] at hd
   simp only[EC,EO,Fj] at hd
   obtain⟨h,i,k⟩:=rH (d:=dT) hd
   obtain⟨e,l,m,o⟩:=hn.2.1 c
   have n:=T.nodes_eq t
   have q:=ve (xQ ts f) t.kids (b+1) g hn.2.2 (by omega) k
   have r:¬ (aX (b+1) (t.kids.map T.nodes)).length=0:=by
    cases s:t.kids with
    | nil=>exact absurd s o
    | cons a z=>simp[aX]
   rw[rd,if_pos h,i];simp only[EC,EO,r,q];obtain⟨u,p,v,w,x,j⟩:=t;simp only at c e l m n;subst c e l m;have y:b+1+(j.map T.nodes).sum=b+(⟨false,p,[],[],[],j⟩:T).nodes:=(by rw[n];omega);rw[<-y]
  ·rw[c] at hd;simp only[if_true,Fj,ED] at hd;obtain⟨h,i,k⟩:=rH (d:=dT) hd;have e:=hn.1 c;rw[rd,if_pos h,i];obtain⟨u,p,v,w,x,j⟩:=t;simp only at c e;subst c e;simp[T.nodes]
theorem oQ (c:t.good true=true) (b:bv t) (d:0<=t.ht) (i:t.nodes<=1000) (e:t.slots.all (fun s=>cy s.1)=true) (f:it (t.slots.map (fun s=>s.1))=true) (g:t.nums.Nodup):aZ (t.flat 0)∧rd (t.flat 0) ((t.flat 0).length+1) 0=(t,(t.flat 0).length,false):=by
 have h:=dq t b.shape 0;have j:1<=t.nodes:=by rw[T.nodes_eq];omega
 have a:=xQ (t.flat 0) ((t.flat 0).length+1) t 0 [] b (by omega) (by simp);rw[EK,<-h] at a;exact⟨⟨⟨by omega,by omega⟩,t,a,c,e,d,by omega,f,rfl,g⟩,a⟩
theorem vf (h:bv t) (o:t.size<=5):∀ k ∈ cR t,bv k:=by
 intro k b;unfold cR at b;split at b;·simp at b;subst b;exact h
 ·rename_i m;rw[aC] at h;have l:t.leaf=false->4<t.kids.length:=fun a=>(by simp[T.size,a] at m;omega);simp only[EL,Fy,or_false] at b;rcases b with rfl | rfl;·rw[aC];refine⟨fun a=>by simp[T.fore,h.1 a],fun a=>?_,fun c d=>h.2.2 c (EI d)⟩;obtain⟨e,f,g,n⟩:=h.2.1 a;have:=l a;refine⟨by simp[T.fore,e],by simp[T.fore,f],by simp[T.fore,g],fun i=>?_⟩;have j:(t.kids.take 3).length=0:=(by rw[show t.kids.take 3=[] from i];rfl);rw[Eu] at j;omega
  ·rw[aC];refine⟨fun a=>by simp[T.rest,h.1 a],fun a=>?_,fun c d=>h.2.2 c (EF d)⟩;obtain⟨e,f,g,n⟩:=h.2.1 a;have:=l a;refine⟨by simp[T.rest,e],by simp[T.rest,f],by simp[T.rest,g],fun i=>?_⟩;have j:(t.kids.drop 3).length=0:=(by rw[show t.kids.drop 3=[] from i];rfl);rw[ET] at j;omega
theorem Aj (key val:ByteArray) (l:val.size<=400):∀ (t:T) (j:Bool),t.good j=true->bv t->bv (aW key val t):=by
 intro t
 induction t using T.ind with
 |h t m=>
  intro j g k;have s:=k.shape;have e:=(aC t).1 k;cases i:t.leaf
  ·have n:0<t.kids.length:=(by have:=(dg g i).1;omega);obtain⟨b,o,c⟩:=fA (key:=key) (ys:=t.kids) n;have p:=m b c false (aY g c) (e.2.2 b c);have q:=uZ (key:=key) l (aY g c) (e.2.2 b c).shape;rw[dw i o,aC];refine⟨fun d=>by simp at d,fun _=>⟨rfl,rfl,rfl,fun d=>?_⟩,fun f a=>?_⟩;·have:=(jh (aW key val b)).1;have r:(t.kids.take (ci key t.kids)++cR (aW key val b)++t.kids.drop (ci key t.kids+1)).length=0:=(by rw[show t.kids.take (ci key t.kids)++cR (aW key val b)++t.kids.drop (ci key t.kids+1)=[] from d];rfl);rw[El,El] at r;omega
   ·rcases EG.1 a with a | a
    ·rcases EG.1 a with a | a;·exact e.2.2 f (EI a)
     ·exact vf p q f a
    ·exact e.2.2 f (EF a)
  ·rw[ed i,aC];exact⟨fun _=>rfl,fun d=>by simp[cw] at d,fun f a=>by simp[cw] at a⟩
theorem lV:∀ (d:List T),iR key d=none->∀ (a:Nat) b,d[a]?=some b->¬ oK b.low key=true
 | [],_,a,b,h=>by simp at h
 | t::r,hn,a,b,h=>by
  unfold iR at hn
  cases c:iR key r with
  | some f=>rw[c] at hn;cases hn
  |none=>
   rw[c] at hn
   simp only[ite_eq_right_iff] at hn
   cases a with
   | zero=>simp at h;subst h;intro e;exact absurd (hn e) (by simp)
   | succ a=>exact lV r c a b (by simpa using h)
theorem pE:∀ (e:List T) (c:Nat),iR key e=some c->(∃ a,e[c]?=some a∧oK a.low key=true)∧∀ (b:Nat) a,c<b->e[b]?=some a->¬ oK a.low key=true
 | [],c,h=>by simp[iR] at h
 | t::r,c,h=>by
  unfold iR at h
  cases d:iR key r with
  |some i=>
   rw[d] at h
   simp at h
   subst h
   obtain⟨⟨a,f,j⟩,k⟩:=pE r i d
   refine⟨⟨a,by simpa using f,j⟩,fun b a l g=>?_⟩
   cases b with
   | zero=>omega
   | succ b=>exact k b a (by omega) (by simpa using g)
  |none=>
   rw[d] at h
   simp only[Option.ite_none_right_eq_some,Option.some.injEq] at h
   obtain⟨f,rfl⟩:=h
   refine⟨⟨t,rfl,f⟩,fun b a l g=>?_⟩
   cases b with
   | zero=>omega
   | succ b=>exact lV r d b a (by simpa using g)
theorem ji (d:0<t.kids.length):ew t key (ci key t.kids):=by
 unfold ci;cases b:iR key t.kids with
 |none=>refine⟨d,.inl rfl,fun e a _ f=>lV _ b e a f⟩
 |some i=>obtain⟨⟨a,c,g⟩,h⟩:=pE _ _ b;exact⟨(Zc c),.inr ⟨a,c,g⟩,h⟩
theorem jj {k:T} {m:Nat} (H:t.leaf=false) (h:∃ r,t.good r=true) (I:bl t.slots) (s:ew t key m) (i:t.kids[m]?=some k) :
  (∀ b ∈ ((t.kids.take m).map T.slots).flatten,aH b.1 key=true)∧(∀ b ∈ ((t.kids.drop (m+1)).map T.slots).flatten,aH key b.1=true)∧bl k.slots∧t.slots=((t.kids.take m).map T.slots).flatten++k.slots++((t.kids.drop (m+1)).map T.slots).flatten:=by
 obtain⟨r,h⟩:=h;have J:t.slots=(t.kids.map T.slots).flatten:=by rw[T.slots_eq,if_neg (by simp[H]),ED]
 have f:∀ a ∈ t.kids,a.good false=true:=fun a j=>dX h j;have u:=Ew i;obtain⟨Y,K⟩:=EQ.1 i;have L:t.kids=t.kids.take m++k::t.kids.drop (m+1):=by rw[<-K,List.getElem_cons_drop,EV]
 have v:t.slots=((t.kids.take m).map T.slots).flatten++k.slots++((t.kids.drop (m+1)).map T.slots).flatten:=by
  rw[J]
  conv=>lhs;rw[L]
  simp
 have l:=I;unfold bl at l;rw[v,EA,List.pairwise_append] at l;obtain⟨_,w,M⟩:=l;rw[List.pairwise_append] at w;obtain⟨N,O,Z⟩:=w;refine⟨fun b g=>?_,fun b g=>?_,N,v⟩
 ·rcases s.2.1 with P | ⟨c,x,Q⟩;·subst P;simp at g
  ·have R:c=k:=(by rw[i] at x;exact (Option.some.inj x).symm);subst R;obtain⟨d,n,e⟩:=EX (jJ c (f c u));have o:=mG c (f c u) d n e;have p:=M b g d (by rw[e];simp);rw[o] at p;rcases (sZ _ _).1 Q with q | q;·exact dh p q
   ·rw[<-q];exact p
 ·obtain⟨aa,y,z⟩:=List.mem_flatten.1 g;obtain⟨a,j,rfl⟩:=EY.1 y;obtain⟨A,S,U⟩:=List.mem_iff_getElem.1 j;have B:t.kids[m+1+A]?=some a:=(by rw[<-E2,Eh S,U]);have V:=s.2.2 (m+1+A) a (by omega) B;have C:=Ew B;obtain⟨d,n,e⟩:=EX (jJ a (f a C));have o:=mG a (f a C) d n e;have D:aH key d.1=true:=by
   rw[o];apply Classical.byContradiction;intro W;apply V;rw[sZ];by_cases E:aH a.low key=true;·exact .inl E
   ·exact .inr (jH E W)
  have F:bl a.slots:=(by have G:=O;rw[List.pairwise_flatten] at G;exact G.1 _ y);rw[e] at z F;rcases EL.1 z with rfl | X;·exact D
  ·exact dh D ((List.pairwise_cons.1 F).1 b X)
theorem jP:∀ (b c:List (ByteArray × ByteArray × Int)),(∀ d ∈ b,aH d.1 key=true)->bm key (b++c)=b.length+bm key c
 | [],c,_=>by simp
 | a::b,c,h=>by
  rw[Fj,bm,if_pos (h a (Et ..)),jP b c (fun d e=>h d (EH _ e))]
  simp
  omega
theorem wR {a b:ByteArray} (h:aH a b=true):¬ aH b a=true:=fun c=>aQ _ (dh h c)
theorem nE:∀ (d a:List (ByteArray × ByteArray × Int)),(∀ e ∈ a,aH key e.1=true)->bm key (d++a)=bm key d
 | [],[],_=>rfl
 | [],c::a,h=>by
  rw[ED,show bm key (c::a)=0 from if_neg (wR (h c (Et ..)))]
  rfl
 | b::d,a,h=>by
  rw[Fj,bm,bm,nE d a h]
theorem vg {A B C:List (ByteArray × ByteArray × Int)} (j:∀ s ∈ A,aH s.1 key=true) (d:∀ s ∈ C,aH key s.1=true):ej key val (A++B++C)=A++ej key val B++C:=by
 have e:bm key (A++B++C)=A.length+bm key B:=by rw[EA,jP A _ j,nE B C d]
 have f:=tf key B;have k:bO key (A++B++C)=bO key B:=by
  unfold bO;rw[e];by_cases c:bm key B<B.length;·have:(A++B++C).getD (A.length+bm key B) (ByteArray.empty,ByteArray.empty,0)=B.getD (bm key B) (ByteArray.empty,ByteArray.empty,0):=(by simp only[List.getD];rw[EA,EB (by omega),Nat.add_sub_cancel_left,EE c]);rw[this];have g:A.length+bm key B<(A++B++C).length:=(by simp;omega);simp only[c,g,true_and]
  ·have h:bm key B=B.length:=(by omega);cases C with
   | nil=>simp[h]
   |cons a C=>have:(A++B++a::C).getD (A.length+bm key B) (ByteArray.empty,ByteArray.empty,0)=a:=(by simp only[List.getD];rw[EA,EB (by omega),Nat.add_sub_cancel_left,h,EB (Ek _)];simp);rw[this];have l:a.1≠key:=fun m=>(by have:=d a (Et ..);rw[m] at this;exact aQ _ this);simp[c,l]
 unfold ej;rw[k,e];have n:(A++B++C).take (A.length+bm key B)=A++B.take (bm key B):=by rw[EA,List.take_length_add_append,EM f]
 rw[n];have i:∀ b,b<=B.length->(A++B++C).drop (A.length+b)=B.drop b++C:=fun b o=>by rw[EA,List.drop_length_add_append,Fh o]
 by_cases ht:bO key B=true;·have g:bm key B<B.length:=(by simp[bO] at ht;exact ht.1);rw[if_pos ht,if_pos ht,Fx,i _ (by omega)];simp
 ·rw[if_neg ht,if_neg ht,i _ f];simp
theorem gP {d e:Type}:∀ (a:List d) (c:List e) (b:Nat),(a.take b).zip (c.take b)=(a.zip c).take b
 | [],c,b=>by simp
 | a::r,[],b=>by simp
 | a::r,c::q,0=>by simp
 | a::r,c::q,b+1=>by simp[gP r q b]
theorem gQ {d e:Type}:∀ (a:List d) (c:List e) (b:Nat),(a.drop b).zip (c.drop b)=(a.zip c).drop b
 | [],c,b=>by simp
 | a::r,[],b=>by simp
 | a::r,c::q,0=>by simp
 | a::r,c::q,b+1=>by simp[gQ r q b]
theorem mO (h:t.leaf=true->t.vals.length=t.keys.length∧t.over.length=t.keys.length∧t.kids=[]) (c:t.leaf=false->t.keys=[]∧t.vals=[]∧t.over=[]):((cR t).map T.slots).flatten=t.slots:=by
 unfold cR;split;·simp
 ·cases a:t.leaf;·simp only[Ex,E6,EW,List.flatten_nil,EN,T.slots_eq,T.fore,T.rest,a,EC,EO,ED];rw[<-Fc,<-E5,EV]
  ·obtain⟨d,e,b⟩:=h a;simp only[Ex,E6,EW,List.flatten_nil,EN,T.slots_eq,T.fore,T.rest,a,if_true,b,List.take_nil,List.drop_nil];rw[gP,gP,gQ,gQ,EV]
theorem ge (key val:ByteArray) (t:T):((aW key val t).leaf=true->(aW key val t).vals.length=(aW key val t).keys.length∧(aW key val t).over.length=(aW key val t).keys.length∧(aW key val t).kids=[])∧((aW key val t).leaf=false->(aW key val t).keys=[]∧(aW key val t).vals=[]∧(aW key val t).over=[]):=by
 obtain⟨b,p,c,d,e,f⟩:=t;rw[aW];cases b;·exact⟨fun a=>by simp at a,fun _=>by simp⟩
 ·exact⟨fun _=>by simp[cw],fun a=>by simp[cw] at a⟩
theorem tD (key val:ByteArray):∀ (t:T) (b:Bool),t.good b=true->bv t->bl t.slots->(aW key val t).slots=ej key val t.slots:=by
 intro t
 induction t using T.ind with
 |h t k=>
  intro b c l m;have f:=(aC t).1 l;cases a:t.leaf;·have g:0<t.kids.length:=(by have:=(dg c a).1;omega);obtain⟨d,i,e⟩:=fA (key:=key) (ys:=t.kids) g;obtain⟨n,o,p,q⟩:=jj a ⟨b,c⟩ m (ji (key:=key) g) i;have r:=k d e false (aY c e) (f.2.2 d e) p;have j:=ge key val d;rw[dw a i,q,vg n o,<-r,T.slots_eq];simp only[EC,EO,ED,E5,Fc];rw[mO j.1 j.2]
  ·rw[ed a];have s:t.slots=t.keys.zip (t.vals.zip t.over):=(by rw[T.slots_eq,a,f.1 a];simp);rw[s,T.slots_eq];simp only[cw,if_true,E6,List.flatten_nil,EN];exact mH _
theorem Ak {c:List Int} (i:c≠[]) (h:0<=T.htOf c):∀ b ∈ c,b=T.htOf c - 1∧0<=b:=by
 cases c with
 | nil=>exact absurd rfl i
 |cons a d=>
  have j:T.htOf (a::d)=if a<0 then -1 else if d.all (fun b=>b == a) then a+1 else -1:=rfl;rw[j] at h ⊢;by_cases g:a<0;·rw[if_pos g] at h;omega
  ·rw[if_neg g] at h ⊢;by_cases e:d.all (fun b=>b == a)=true
   ·rw[if_pos e] at h ⊢;intro b f;rcases EL.1 f with rfl | f;·omega
    ·have:=Ez.1 e b f;simp at this;omega
   ·rw[if_neg e] at h;omega
theorem Bq {c:List Int} {h:Int} (e:c≠[]) (j:0<=h) (d:∀ b ∈ c,b=h):T.htOf c=h+1:=by
 cases c with
 | nil=>exact absurd rfl e
 |cons a f=>have g:=d a (Et ..);subst g;show (if a<0 then -1 else if f.all (fun b=>b == a) then a+1 else -1)=_;rw[if_neg (by omega),if_pos];rw[Ez];intro b i;simpa using d b (EH _ i)
theorem eI (b:t.leaf=false) (c:t.kids≠[]) (h:0<=t.ht):∀ a ∈ t.kids,a.ht=t.ht - 1∧0<=a.ht:=by
 rw[T.ht_eq,b] at h ⊢;simp only[EC,EO] at h ⊢;intro a d;exact Ak (by simpa using c) h a.ht (EY.2 ⟨a,d,rfl⟩)
theorem gw {ys:List T} {p:Int} {a b:List ByteArray} {c:List Int} {h:Int} (e:ys≠[]) (f:0<=h) (g:∀ d ∈ ys,d.ht=h):(⟨false,p,a,b,c,ys⟩:T).ht=h+1:=by
 rw[T.ht_eq];simp only[EC,EO];exact Bq (by simpa using e) f (fun k i=>by obtain⟨d,j,rfl⟩:=EY.1 i;exact g d j)
theorem Al (h:0<=t.ht):∀ i ∈ cR t,i.ht=t.ht:=by
 intro i a;unfold cR at a;split at a;·simp at a;subst a;rfl
 ·rename_i l;cases b:t.leaf;·have j:4<t.kids.length:=(by simp[T.size,b] at l;omega);have d:=eI b (fun c=>by rw[c] at j;simp at j) h;obtain⟨e,m⟩:∃ e,e ∈ t.kids:=⟨t.kids[0],E4 _⟩;have k:0<=t.ht - 1:=(by have:=d e m;omega);simp only[EL,Fy,or_false] at a;have o:(t.fore 3).ht=t.ht - 1+1:=(by unfold T.fore;rw[b];exact gw (fun c=>absurd (show (t.kids.take 3).length=0 by rw[c];rfl) (by rw[Eu];omega)) k (fun f g=>(d f (EI g)).1));have p:(t.rest 3).ht=t.ht - 1+1:=(by unfold T.rest;rw[b];exact gw (fun c=>absurd (show (t.kids.drop 3).length=0 by rw[c];rfl) (by rw[ET];omega)) k (fun f g=>(d f (EF g)).1));rcases a with rfl | rfl<;>omega
  ·have n:t.ht=0:=(by rw[T.ht_eq,b];rfl);simp only[EL,Fy,or_false] at a;rcases a with rfl | rfl<;>(rw[n,T.ht_eq];simp[T.fore,T.rest,b])
theorem Cl (key val:ByteArray):∀ (t:T) (j:Bool),t.good j=true->0<=t.ht->(aW key val t).ht=t.ht:=by
 intro t
 induction t using T.ind with
 |h t l=>
  intro j k m;cases b:t.leaf
  ·have f:0<t.kids.length:=(by have:=(dg k b).1;omega);obtain⟨c,n,d⟩:=fA (key:=key) (ys:=t.kids) f;have e:=eI b (fun g=>by rw[g] at f;simp at f) m;have o:=l c d false (aY k d) (e c d).2;have p:=(e c d);rw[dw b n];have:=(jh (aW key val c)).1;rw[gw (h:=t.ht - 1) (fun g=>absurd (congrArg List.length g) (by rw[El,El,List.length_nil];omega)) (by omega) (fun i a=>?_)];·omega
   ·rcases EG.1 a with a | a
    ·rcases EG.1 a with a | a;·exact (e i (EI a)).1
     ·rw[Al (by omega) i a,o];exact p.1
    ·exact (e i (EF a)).1
  ·rw[ed b,T.ht_eq,T.ht_eq,b];simp[cw]
theorem pF (a:t.page=0) (h:t.leaf=true->t.kids=[]) (c:t.leaf=false->t.over=[]):((cR t).map T.nums).flatten=t.nums:=by
 unfold cR;split;·simp
 ·cases b:t.leaf;·simp only[Ex,E6,EW,List.flatten_nil,EN,T.nums_eq,T.fore,T.rest,a,c b,if_true,List.take_nil,List.drop_nil,List.filter_nil,ED];rw[<-Fc,<-E5,EV]
  ·simp only[Ex,E6,EW,List.flatten_nil,EN,T.nums_eq,T.fore,T.rest,a,h b,if_true,List.take_nil,List.drop_nil,ED];rw[<-List.filter_append,EV]
theorem nF (key val:ByteArray) (t:T):(aW key val t).page=0:=by
 obtain⟨a,p,b,c,d,e⟩:=t;rw[aW];cases a<;>simp[cw]
theorem vh (key val:ByteArray):∀ (t:T) (m:Bool),t.good m=true->bv t->(aW key val t).nums.Sublist t.nums:=by
 intro t
 induction t using T.ind with
 |h t r=>
  intro m i s;have n:=(aC t).1 s;cases g:t.leaf
  ·have u:0<t.kids.length:=(by have:=(dg i g).1;omega);obtain⟨b,o,j⟩:=fA (key:=key) (ys:=t.kids) u;have v:=r b j false (aY i j) (n.2.2 b j);obtain⟨F,w⟩:=EQ.1 o;have x:t.kids=t.kids.take (ci key t.kids)++b::t.kids.drop (ci key t.kids+1):=(by rw[<-w,List.getElem_cons_drop,EV]);have p:=ge key val b;have y:=pF (t:=aW key val b) (nF key val b) (fun k=>(p.1 k).2.2) (fun k=>(p.2 k).2.2);have z:(aW key val t).nums=((t.kids.take (ci key t.kids)).map T.nums).flatten++(aW key val b).nums++((t.kids.drop (ci key t.kids+1)).map T.nums).flatten:=(by rw[dw g o,T.nums_eq];simp only[if_true,List.filter_nil,ED,EN,E5,Fc];rw[y]);have A:(t.kids.map T.nums).flatten=((t.kids.take (ci key t.kids)).map T.nums).flatten++b.nums++((t.kids.drop (ci key t.kids+1)).map T.nums).flatten:=by
    conv=>lhs;rw[x]
    simp
   rw[z,T.nums_eq t,A];refine List.Sublist.trans ?_ (List.sublist_append_right _ _);exact Fe (Fe (Fk _) v) (Fk _)
  ·have G:=(aF i).2.1 g;rw[ed g,T.nums_eq,T.nums_eq t,n.1 g];simp only[cw,if_true,ED,E6,List.flatten_nil,EN];refine List.Sublist.trans ?_ (List.sublist_append_right _ _);have q:t.over=(t.keys.zip (t.vals.zip t.over)).map (fun a=>a.2.2):=(by have B:(t.keys.zip (t.vals.zip t.over)).map (fun a=>a.2)=t.vals.zip t.over:=List.map_snd_zip (by simp;omega);have:(t.keys.zip (t.vals.zip t.over)).map (fun a=>a.2.2)=((t.keys.zip (t.vals.zip t.over)).map (fun a=>a.2)).map (fun a=>a.2):=(by simp);rw[this,B];exact (List.map_snd_zip (by omega)).symm);generalize t.keys.zip (t.vals.zip t.over)=c at q ⊢;rw[q];unfold ej;simp only[E5,Ex,List.filter_append,List.map_take,List.map_drop];have C:List.filter (fun l=>l != 0) ((0:Int)::(c.map (fun a=>a.2.2)).drop (if bO key c=true then bm key c+1 else bm key c))=List.filter (fun l=>l != 0) ((c.map (fun a=>a.2.2)).drop (if bO key c=true then bm key c+1 else bm key c)):=(by simp);rw[C,<-List.filter_append];refine List.Sublist.filter _ ?_;have D:∀ (d:List Int) (e f:Nat),e<=f->(d.take e++d.drop f).Sublist d:=fun d e f H=>by
    have E:(d.drop f).Sublist (d.drop e):=(by rw[show f=e+(f - e) by omega,<-List.drop_drop];exact List.drop_sublist _ _);have:=Fe (Fk (d.take e)) E
    rwa [EV] at this
   exact D _ _ _ (by split<;>omega)
theorem iY:∀ (c:List (ByteArray × ByteArray × Int)),bl c->it (c.map (fun f=>f.1))=true
 | [],_=>rfl
 | [a],_=>rfl
 | a::b::r,h=>by
  have d:=List.pairwise_cons.1 h
  have e:=iY (b::r) d.2
  simp only[Ex,it,Em] at e ⊢
  exact⟨d.1 b (Et ..),e⟩
theorem mP:∀ (d:List (ByteArray × ByteArray × Int)),∀ c ∈ d.take (bm key d),aH c.1 key=true
 | [],c,b=>by simp at b
 | a::r,c,b=>by
  unfold bm at b
  split at b
  ·rename_i e
   rw[List.take_succ_cons] at b
   rcases EL.1 b with rfl | b
   ·exact e
   ·exact mP r c b
  ·simp at b
theorem oR:∀ (e:List (ByteArray × ByteArray × Int)),bl e->∀ d ∈ e.drop (if bO key e=true then bm key e+1 else bm key e),aH key d.1=true
 | [],_,d,b=>by simp at b
 | a::r,hs,d,b=>by
  have g:=List.pairwise_cons.1 hs
  by_cases h:aH a.1 key=true
  ·have c:bm key (a::r)=bm key r+1:=by rw[bm,if_pos h]
   have ht:bO key (a::r)=bO key r:=by
    unfold bO;rw[c];simp only[EU,Nat.add_lt_add_iff_right,List.getD,List.getElem?_cons_succ];exact decide_eq_decide.2 Iff.rfl
   rw[ht,c] at b;refine oR r g.2 d ?_;split at b<;>(rename_i j;simp only[j,if_true,EO,EC] at b ⊢;simpa using b)
  ·have c:bm key (a::r)=0:=(by rw[bm,if_neg h]);by_cases f:a.1=key;·have ht:bO key (a::r)=true:=(by unfold bO;rw[c];simp[List.getD,f]);rw[ht,c] at b;simp at b;rw[<-f];exact g.1 d b
   ·have ht:¬ bO key (a::r)=true:=(by unfold bO;rw[c];simp[List.getD,f]);rw[if_neg ht,c] at b;have i:aH key a.1=true:=(by apply Classical.byContradiction;intro k;exact f (jH h k));rcases EL.1 (by simpa using b) with rfl | b;·exact i
    ·exact dh i (g.1 d b)
theorem yR {zs:List (ByteArray × ByteArray × Int)} (h:bl zs):bl (ej key val zs):=by
 unfold ej bl;rw[List.pairwise_append];refine⟨List.Pairwise.sublist (List.take_sublist _ _) h,?_,fun a d e b=>?_⟩;·rw[List.pairwise_cons];exact⟨fun f g=>oR zs h f g,List.Pairwise.sublist (List.drop_sublist _ _) h⟩
 ·have c:=mP zs a d;rcases EL.1 b with rfl | b;·exact c
  ·exact dh c (oR zs h e b)
theorem yS (q:cy key=true) (f:val.size<=400) (a:t.good true=true) (b:bv t) (i:0<=t.ht) (r:t.slots.all (fun s=>cy s.1)=true) (j:bl t.slots) (u:t.nums.Nodup) (v:(bu key val t).nodes<=1000) :
  aZ ((bu key val t).flat 0)∧rd ((bu key val t).flat 0) (((bu key val t).flat 0).length+1) 0=(bu key val t,((bu key val t).flat 0).length,false)∧(bu key val t).slots=ej key val t.slots∧bv (bu key val t)∧0<=(bu key val t).ht∧(bu key val t).nums.Nodup:=by
 have k:=mN (key:=key) (val:=val) f q a b.shape r;have l:=Aj key val f t true a b;have w:=(iV key val f t true a b.shape).size.2;have x:=tD key val t true a b j;have y:=Cl key val t true a i;have z:=vh key val t true a b;have d:=ge key val t;have m:bv (bu key val t):=by
  unfold bu;split;·exact l
  ·rw[aC];exact⟨fun c=>by simp at c,fun _=>⟨rfl,rfl,rfl,fun c=>by have:=(jh (aW key val t)).1;rw[show cR (aW key val t)=[] from c] at this;simp at this⟩,fun A B=>vf l w A B⟩
 have n:(bu key val t).slots=ej key val t.slots:=by
  rw[<-x];unfold bu;split;·rfl
  ·rw[T.slots_eq];simp only[EC,EO,ED];exact mO d.1 d.2
 have o:0<=(bu key val t).ht:=by
  unfold bu;split;·omega
  ·rw[gw (h:=t.ht) (fun c=>by have:=(jh (aW key val t)).1;rw[show cR (aW key val t)=[] from c] at this;simp at this) i (fun C D=>by rw[Al (by omega) C D,y])];omega
 have p:(bu key val t).nums.Nodup:=by
  have e:=z.nodup u;unfold bu;split;·exact e
  ·rw[T.nums_eq];simp only[if_true,List.filter_nil,ED];rw[pF (nF key val t) (fun g=>(d.1 g).2.2) (fun g=>(d.2 g).2.2)];exact e
 obtain⟨e,E⟩:=oQ k.1 m o v k.2.2.2.2 (iY _ (by rw[n];exact yR j)) p;exact⟨e,E,n,m,o,p⟩
theorem Az:∀ (t:T),t.good false=true->bv t->t.nodes+1<=t.slots.length:=by
 intro t
 induction t using T.ind with
 |h t i=>
  intro e j;have f:=(aC t).1 j;have g:=aF e;cases a:t.leaf
  ·have p:=(dg e a).1;have k:∀ (c:List T),(∀ b ∈ c,b.nodes+1<=b.slots.length)->(c.map T.nodes).sum+c.length<=(c.map T.slots).flatten.length:=by
    intro c
    induction c with
    | nil=>intro _;simp
    |cons b q l=>intro d;have r:=d b (Et ..);have s:=l (fun m n=>d m (EH _ n));simp only[Ex,Ff,EU,EW,El];omega
   have:=k t.kids (fun b d=>i b d (aY e d) (f.2.2 b d));rw[T.nodes_eq,T.slots_eq,a];simp only[EC,EO,ED];omega
  ·obtain⟨u,v,_⟩:=g.2.1 a;rw[fR (f.1 a),T.slots_eq,a,f.1 a];simp only[if_true,E6,List.flatten_nil,EN,List.length_zip];have o:=g.1.1;simp[T.size,a] at o;omega
theorem fX (a:t.good true=true) (b:bv t):t.nodes<=t.slots.length+1:=by
 have d:=(aC t).1 b;cases c:t.leaf;·have e:t.good false=true:=(by rw[T.good_eq] at a ⊢;simpa[c] using a);have:=Az t e b;omega
 ·rw[fR (d.1 c)];omega
theorem xY {f:Nat} {Φ:T->Prop} {p:Int} {keys:List ByteArray} (m:∀ d e t a b,gr ts f d e=some (t,a,b)->Φ t):∀ (l:List Int) (g:List T) (d:Nat) (e:Int->Bool) (i:List T) (a:Nat) (b:Int->Bool),nh p keys (gr ts f) l g d e=some (i,a,b)->(∀ j ∈ g,Φ j)->∀ j ∈ i,Φ j
 | [],g,d,e,i,a,b,h,ha=>by
  simp[nh] at h
  obtain⟨rfl,rfl,rfl⟩:=h
  exact ha
 | k::l,g,d,e,i,a,b,h,ha=>by
  unfold nh at h
  split at h
  ·rename_i r
   split at h
   ·cases h
   ·rename_i t n o q
    split at h
    ·exact xY m l (g++[t]) n o i a b h (fun j c=>by
      rcases EG.1 c with c | c
      ·exact ha j c
      ·simp at c;subst c;exact m _ _ _ _ _ q)
    ·cases h
  ·cases h
theorem xZ (ts:List TN):∀ (k f:Nat) (g:Int->Bool) (t:T) (h:Nat) (i:Int->Bool),gr ts k f g=some (t,h,i)->(∃ j,t.good j=true)->bv t
 | 0,f,g,t,h,i,a,_=>by simp[gr] at a
 | k+1,f,g,t,h,i,a,b=>by
  unfold gr at a
  split at a
  ·cases a
  ·split at a
   ·cases a
   ·split at a
    ·split at a
     ·cases a
     ·split at a
      ·cases a
      ·simp only[Option.some.injEq,Prod.mk.injEq] at a
       obtain⟨rfl,_,_⟩:=a
       rw[aC]
       exact⟨fun _=>rfl,(fun c=>by cases c),(fun d e=>by cases e)⟩
    ·split at a
     ·cases a
     ·split at a
      ·cases a
      ·rename_i n o p l
       simp only[Option.some.injEq,Prod.mk.injEq] at a
       obtain⟨rfl,_,_⟩:=a
       obtain⟨j,b⟩:=b
       have m:=dg b rfl
       rw[aC]
       refine⟨(fun c=>by cases c),fun _=>⟨rfl,rfl,rfl,fun c=>by have:=m.1;simp only at c this;rw[c] at this;simp at this⟩,?_⟩
       have:=xY (Φ:=fun d=>(∃ j,d.good j=true)->bv d) (fun f g t h i a b=>xZ ts k f g t h i a b) _ _ _ _ _ _ _ l (fun d e=>by cases e)
       exact fun d e=>this d e ⟨false,aY b e⟩
def cE (j:Nat):TypeId:=if j<2 then 9 else 2
def cS (j:Nat):Nat:=1
structure JC (SZ:Nat) (Wd:World) (M:Nat) (da:Nat->Nat->Nat) (con:Nat->Nat->List Value) (len:Nat->Nat->Nat) (keep:List (Nat × Value)) (p:Nat->Nat) (a:Act) (w:World):Prop where
 sz:a.tmps.size=SZ
 df:a.defers=[]
 kp:∀ x ∈ keep,a.eval (.tmp x.1)=x.2
 cur:∀ j,j<4->0<p j->w.ownsRow M (cE j) (cS j) (a.eval (.tmp (da j (p j)))) (len j (p j)) (con j (p j))
 apart:∀ i j,i<4->j<4->i≠j->0<p i->0<p j->∀ g,(a.eval (.tmp (da i (p i)))).ownBlock=some g->(a.eval (.tmp (da j (p j)))).ownBlock≠some g
 fr:Fr (fun g=>M<=g) Wd w
theorem JC.move {w':World} (h:JC SZ Wd M da con len keep p a w) {j q mx:Nat} (o:j<4) (E:0<q) (F:q<=mx) (G:∀ b,b<4->p b<=mx) (H:∀ b r k s,b<4->k<4->0<r->r<=mx->0<s->s<=mx->b≠k->da b r≠da k s) (I:∀ t ∈ keep,t.1≠da j q) (J:da j q<SZ) (N:M<=w.heap.size)
  {v:Value} (K:w'.ownsRow M (cE j) (cS j) v (len j q) (con j q)) (A:Fr (fun c=>0<p j∧(a.eval (.tmp (da j (p j)))).ownBlock=some c) w w') (L:∀ c,v.ownBlock=some c->(0<p j∧(a.eval (.tmp (da j (p j)))).ownBlock=some c)∨w.heap.size<=c) :
  JC SZ Wd M da con len keep (rI p j q) (a.put (some (da j q)) v) w':=by
 have x:da j q<a.tmps.size:=by rw[h.sz];exact J
 have n:∀ b,b<4->b≠j->0<p b->(a.put (some (da j q)) v).eval (.tmp (da b (p b)))=a.eval (.tmp (da b (p b))):=fun b e m d=>ke a _ _ v (H b (p b) j q e o d (G b e) E F m);have B:∀ b,b<4->b≠j->0<p b->∀ c,(a.eval (.tmp (da b (p b)))).ownBlock=some c->v.ownBlock≠some c:=fun b e m d c f g=>by
  rcases L c g with ⟨l,C⟩ | C;·exact h.apart b j e o m d l c f C
  ·have:=((h.cur b e d).lt c f).2;omega
 refine⟨by simp[Act.put,h.sz],by simp[Act.put,h.df],fun t D=>by rw[ke a _ _ v (I t D)];exact h.kp t D,fun b e d=>?_,fun b k e u m d l c f=>?_,?_⟩
 ·by_cases i:b=j;·subst i;simp only[rI,if_true] at d ⊢;rw[jk a _ v x];exact K
  ·simp only[rI,if_neg i] at d ⊢;rw[n b e i d];exact am (h.cur b e d) A (fun c f g=>h.apart b j e o i d g.1 c f g.2)
 ·by_cases i:b=j;·subst i;have y:k≠b:=fun g=>m g.symm;simp only[rI,if_true,if_neg y] at d l f ⊢;rw[jk a _ v x] at f;rw[n k u y l];exact fun g=>B k u y l c g f
  ·by_cases z:k=j;·subst z;simp only[rI,if_true,if_neg i] at d l f ⊢;rw[jk a _ v x];rw[n b e i d] at f;exact B b e i d c f
   ·simp only[rI,if_neg i,if_neg z] at d l f ⊢;rw[n b e i d] at f;rw[n k u z l];exact h.apart b k e u m d l c f
 ·refine h.fr.trans (A.weak (fun c g=>((h.cur j o g.1).lt c g.2).1))
theorem JC.re {f:Nat->Nat} (h:JC SZ Wd M da con len keep p a w) (e:∀ b,b<4->f b=p b):JC SZ Wd M da con len keep f a w :=
 ⟨h.sz,h.df,h.kp,fun b c d=>by rw[e b c] at d ⊢;exact h.cur b c d,fun g b i c k d j=>by rw[e g i] at d ⊢;rw[e b c] at j ⊢;exact h.apart g b i c k d j,h.fr⟩
theorem JC.load (h:JC SZ Wd M da con len keep p a w) {d mx:Nat} {v:Value} (n:d<SZ) (f:∀ g ∈ keep,g.1≠d) (o:∀ b,b<4->p b<=mx) (r:∀ j q,j<4->0<q->q<=mx->da j q≠d):JC SZ Wd M da con len ((d,v)::keep) p (a.put (some d) v) w:=by
 have k:∀ b,b<4->0<p b->(a.put (some d) v).eval (.tmp (da b (p b)))=a.eval (.tmp (da b (p b))):=fun b c e=>ke a _ _ v (r b (p b) c e (o b c));refine⟨by simp[Act.put,h.sz],by simp[Act.put,h.df],fun g i=>?_,fun b c e=>by rw[k b c e];exact h.cur b c e,fun b l c f s e m=>by rw[k b c e,k l f m];exact h.apart b l c f s e m,h.fr⟩;rcases EL.1 i with rfl | i;·exact jk a _ v (by rw[h.sz];exact n)
 ·rw[ke a _ _ v (f g i)];exact h.kp g i
theorem zm {P:Program} {ops:Array Oper} {o:Oper} {K:Act->World->Prop} {Q:Exit->Act->World->Prop} {E:Prop} (b:o.guard=none) (t:TypeId) (x:Operand) (c:o.op=.load t x) {u v:Value} (d:a.eval x=u) (e:(Instr.loadAt t u).run P w=.ok v w) (h:K (a.put o.dst v) w):if Region.wanted o (yielded ops a.tmps)=true then Oper.wp P o a w K Q else E:=by
 rw[if_pos (by simp[Region.wanted,b])];unfold Oper.wp execOp;simp only[c,Sem.run_bind,Sem.run_pure,Result.andThen_ok,d,e];exact h
def dG:Array Oper:=#[
 ⟨some 19,Op.fieldAddr 25 (.tmp 3) 0,0,"l3_tree.go:244",#[],none⟩,
 ⟨some 20,Op.load 23 (.tmp 19),23,"l3_tree.go:244",#[⟨0,.data⟩],none⟩,
 ⟨some 21,Op.fieldAddr 44 (.tmp 5) 0,0,"l3_tree.go:244",#[],none⟩,
 ⟨some 22,Op.load 4 (.tmp 21),4,"l3_tree.go:244",#[⟨2,.data⟩],none⟩,
 ⟨some 23,Op.fieldAddr 44 (.tmp 5) 1,0,"l3_tree.go:244",#[],none⟩,
 ⟨some 24,Op.load 2 (.tmp 23),2,"l3_tree.go:244",#[⟨4,.data⟩],none⟩,
 ⟨some 25,Op.buildSlice 42 0 #[],42,"l3_tree.go:244",#[],none⟩,
 ⟨some 26,Op.fieldAddr 44 (.tmp 5) 2,0,"l3_tree.go:244",#[],none⟩,
 ⟨some 27,Op.load 42 (.tmp 26),42,"l3_tree.go:244",#[⟨7,.data⟩],none⟩,
 ⟨some 28,Op.call { callee:=Callee.builtin Builtin.append,args:=#[Operand.tmp 25,Operand.tmp 27],argTypes:=#[42,42] },42,"l3_tree.go:244",#[⟨6,.data⟩,⟨8,.data⟩],none⟩,
 ⟨some 29,Op.buildSlice 42 0 #[],42,"l3_tree.go:244",#[],none⟩,
 ⟨some 30,Op.fieldAddr 44 (.tmp 5) 3,0,"l3_tree.go:244",#[],none⟩,
 ⟨some 31,Op.load 42 (.tmp 30),42,"l3_tree.go:244",#[⟨11,.data⟩],none⟩,
 ⟨some 32,Op.call { callee:=Callee.builtin Builtin.append,args:=#[Operand.tmp 29,Operand.tmp 31],argTypes:=#[42,42] },42,"l3_tree.go:244",#[⟨10,.data⟩,⟨12,.data⟩,⟨9,.chain⟩],none⟩,
 ⟨some 33,Op.buildSlice 29 0 #[],29,"l3_tree.go:244",#[],none⟩,
 ⟨some 34,Op.fieldAddr 44 (.tmp 5) 4,0,"l3_tree.go:244",#[],none⟩,
 ⟨some 35,Op.load 29 (.tmp 34),29,"l3_tree.go:244",#[⟨15,.data⟩],none⟩,
 ⟨some 36,Op.call { callee:=Callee.builtin Builtin.append,args:=#[Operand.tmp 33,Operand.tmp 35],argTypes:=#[29,29] },29,"l3_tree.go:244",#[⟨14,.data⟩,⟨16,.data⟩,⟨13,.chain⟩],none⟩,
 ⟨some 37,Op.buildSlice 29 0 #[],29,"l3_tree.go:244",#[],none⟩,
 ⟨some 38,Op.fieldAddr 44 (.tmp 5) 5,0,"l3_tree.go:244",#[],none⟩,
 ⟨some 39,Op.load 29 (.tmp 38),29,"l3_tree.go:244",#[⟨19,.data⟩],none⟩,
 ⟨some 40,Op.call { callee:=Callee.builtin Builtin.append,args:=#[Operand.tmp 37,Operand.tmp 39],argTypes:=#[29,29] },29,"l3_tree.go:244",#[⟨18,.data⟩,⟨20,.data⟩,⟨17,.chain⟩],none⟩,
 ⟨some 41,Op.build 44 #[(0,Operand.tmp 22),(1,Operand.tmp 24),(2,Operand.tmp 28),(3,Operand.tmp 32),(4,Operand.tmp 36),(5,Operand.tmp 40)],44,"l3_tree.go:244",#[⟨3,.data⟩,⟨5,.data⟩,⟨9,.data⟩,⟨13,.data⟩,⟨17,.data⟩,⟨21,.data⟩],none⟩,
 ⟨some 42,Op.buildSlice 23 1 #[(0,Operand.tmp 41)],23,"l3_tree.go:244",#[⟨22,.data⟩],none⟩,
 ⟨some 43,Op.call { callee:=Callee.builtin Builtin.append,args:=#[Operand.tmp 20,Operand.tmp 42],argTypes:=#[23,23] },23,"l3_tree.go:244",#[⟨1,.data⟩,⟨23,.data⟩,⟨21,.chain⟩],none⟩,
 ⟨some 44,Op.fieldAddr 25 (.tmp 3) 0,0,"l3_tree.go:244",#[⟨0,.phase⟩,⟨1,.phase⟩,⟨2,.phase⟩,⟨3,.phase⟩,⟨4,.phase⟩,⟨5,.phase⟩,⟨6,.phase⟩,⟨7,.phase⟩,⟨8,.phase⟩,⟨9,.phase⟩,⟨10,.phase⟩,⟨11,.phase⟩,⟨12,.phase⟩,⟨13,.phase⟩,⟨14,.phase⟩,⟨15,.phase⟩,⟨16,.phase⟩,⟨17,.phase⟩,⟨18,.phase⟩,⟨19,.phase⟩,⟨20,.phase⟩,⟨21,.phase⟩,⟨22,.phase⟩,⟨23,.phase⟩,⟨24,.phase⟩],none⟩,
 ⟨none,Op.store 23 (.tmp 44) (.tmp 43),0,"l3_tree.go:244",#[⟨25,.data⟩,⟨24,.data⟩,⟨24,.chain⟩,⟨0,.phase⟩,⟨1,.phase⟩,⟨2,.phase⟩,⟨3,.phase⟩,⟨4,.phase⟩,⟨5,.phase⟩,⟨6,.phase⟩,⟨7,.phase⟩,⟨8,.phase⟩,⟨9,.phase⟩,⟨10,.phase⟩,⟨11,.phase⟩,⟨12,.phase⟩,⟨13,.phase⟩,⟨14,.phase⟩,⟨15,.phase⟩,⟨16,.phase⟩,⟨17,.phase⟩,⟨18,.phase⟩,⟨19,.phase⟩,⟨20,.phase⟩,⟨21,.phase⟩,⟨22,.phase⟩,⟨23,.phase⟩,⟨24,.phase⟩],none⟩]
def pZ (p0 p1 p2 p3 q:Nat):Array Bool:=#[true,decide (1<=q),true,true,true,true,decide (1<=p0),true,true,decide (2<=p0),decide (1<=p1),true,true,decide (2<=p1),decide (1<=p2),true,true,decide (2<=p2),decide (1<=p3),true,true,decide (2<=p3),false,false,false,false,false]
def jW (p0 p1 p2 p3:Nat):Bool:=(decide (p1<=1) || decide (p0=2)) && (decide (p2<=1) || decide (p1=2)) && (decide (p3<=1) || decide (p2=2))
def AH (p0 p1 p2 p3 q i:Nat):Bool:=(i == 1 && q == 0) || (i == 6 && p0 == 0) || (i == 10 && p1 == 0) || (i == 14 && p2 == 0) || (i == 18 && p3 == 0) || (i == 9 && p0 == 1) || (i == 13 && p1 == 1 && p0 == 2) || (i == 17 && p2 == 1 && p1 == 2) || (i == 21 && p3 == 1 && p2 == 2)
def yr:Bool:=(List.range 3).all fun p0=>(List.range 3).all fun p1=>(List.range 3).all fun p2=>(List.range 3).all fun p3=>(List.range 2).all fun q=>!(jW p0 p1 p2 p3) || (p0 == 2 && p1 == 2 && p2 == 2 && p3 == 2) || (!((Region.ready .any dG (pZ p0 p1 p2 p3 q)).isEmpty) && (Region.ready .any dG (pZ p0 p1 p2 p3 q)).all (fun i=>AH p0 p1 p2 p3 q i))
theorem tP:yr=true:=by kernel_rfl
theorem xj (b:Nat) (f:b<3) (c:Nat) (g:c<3) (d:Nat) (h:d<3) (e:Nat) (i:e<3) (q:Nat) (j:q<2) (k:jW b c d e=true) (l:¬ (b=2∧c=2∧d=2∧e=2)):Region.ready .any dG (pZ b c d e q)≠[]∧(Region.ready .any dG (pZ b c d e q)).all (fun m=>AH b c d e q m)=true:=by
 have a:=tP;unfold yr at a;have a:=Ez.1 a b (List.mem_range.2 f);have a:=Ez.1 a c (List.mem_range.2 g);have a:=Ez.1 a d (List.mem_range.2 h);have a:=Ez.1 a e (List.mem_range.2 i);have a:=Ez.1 a q (List.mem_range.2 j);rw[k] at a;simp only[Fg,E8,Bool.or_eq_true,Em,beq_iff_eq] at a;rcases a with a | a;·exact absurd ⟨a.1.1.1,a.1.1.2,a.1.2,a.2⟩ l
 ·exact⟨fun n=>by rw[n] at a;simp at a,a.2⟩
def rT (j q:Nat):Nat:=22+3*q+4*j
theorem yt (i r k s:Nat) (a:i<4) (b:k<4) (c:0<r) (d:r<=2) (e:0<s) (f:s<=2) (g:i≠k):rT i r≠rT k s:=by unfold rT;omega
def qR (xA:Nat->List Value) (j q:Nat):List Value:=if q=1 then [] else xA j
def mY (nA:Nat->Nat) (j q:Nat):Nat:=if q=1 then 0 else nA j
def lB (keep:List (Nat × Value)) (v:Value) (q:Nat):List (Nat × Value):=if q=0 then keep else (20,v)::keep
theorem cP {v:Value} {q:Nat} {x:Nat × Value} (h:x ∈ keep):x ∈ lB keep v q:=by
 unfold lB;split;·exact h
 ·exact EH _ h
theorem zo {Q:Exit->Act->World->Prop} {S:World->Prop} {R:Nat} (aq:M<=Wd.heap.size) (z:∀ w,Fr (fun y=>M<=y) Wd w->S w) (aw:45<=SZ) (ah:Nat->Value) (t:Nat->List Value) (u:Nat->Nat) (keep:List (Nat × Value)) (ac:∀ n ∈ keep,n.1≠20∧∀ b,b<4->∀ f,0<f->f<=2->n.1≠rT b f) (W:∀ b,b<4->(27+4*b,ah b) ∈ keep)
  (X:∀ b,b<4->bi Wd M (cS b) (u b) (ah b) (t b)) (G:Value) (ar:(19,.pointer (some ⟨R,0,none⟩)) ∈ keep) (au:∀ w,Fr (fun y=>M<=y) Wd w->(Instr.loadAt 23 (.pointer (some ⟨R,0,none⟩))).run prog w=.ok G w)
  (ai:∀ f a w,f<2->JC SZ Wd M rT (qR t) (mY u) (lB keep G f) (fun _=>2) a w->wpAnyH prog .any dG Q S (1 - f+5) (pZ 2 2 2 2 f) a w) :
  ∀ P g h i e f a w,g<3->h<3->i<3->e<3->f<2->jW g h i e=true->g+h+i+e+f+P=9->JC SZ Wd M rT (qR t) (mY u) (lB keep G f) (p4 g h i e) a w->wpAnyH prog .any dG Q S (P+5) (pZ g h i e f) a w:=by
 intro P
 induction P with
 |zero=>intro g h i e f a w aj T U ak al x av k;obtain rfl:g=2:=(by omega);obtain rfl:h=2:=(by omega);obtain rfl:i=2:=(by omega);obtain rfl:e=2:=(by omega);obtain rfl:f=1:=(by omega);exact ai 1 a w (by omega) (k.re (fun b p=>by unfold p4;split;rfl;split;rfl;split;rfl;rfl))
 |succ P A=>
  intro g h i e f a w aj T U ak al x av k;by_cases am:g=2∧h=2∧i=2∧e=2;·obtain⟨rfl,rfl,rfl,rfl⟩:=am;obtain rfl:f=0:=(by omega);obtain rfl:P=0:=(by omega);exact ai 0 a w (by omega) (k.re (fun b p=>by unfold p4;split;rfl;split;rfl;split;rfl;rfl))
  obtain⟨an,ao⟩:=xj g aj h T i U e ak f al x am;have H:=Eo aq k.fr.size;have Y:Below M Wd w:=⟨k.fr.os,k.fr.tape,k.fr.output,k.fr.size,fun ad c=>k.fr.block ad (by omega) (by omega)⟩;have ae:∀ m,m<4->p4 g h i e m<=2:=fun m af=>(by unfold p4;split;omega;split;omega;split;omega;omega);have ap:∀ n ∈ lB keep G f,∀ b,b<4->∀ E,0<E->E<=2->n.1≠rT b E:=fun n r b p E T U=>by
   unfold lB at r;split at r;·exact (ac n r).2 b p E T U
   ·rcases EL.1 r with rfl | r;·show 20≠rT b E;unfold rT;omega
    ·exact (ac n r).2 b p E T U
  have Z:∀ b,b<4->p4 g h i e b=0->JC SZ Wd M rT (qR t) (mY u) (lB keep G f) (rI (p4 g h i e) b 1) (a.put (some (rT b 1)) (.slice (some ⟨w.heap.size,0,none⟩) 0 0)) (w.alloc (.cells #[] (cE b))):=fun b p V =>k.move (mx:=2) p (by omega) (by omega) ae yt (fun n r=>ap n r b p 1 (by omega) (by omega)) (by unfold rT;omega) H (dp w (cE b) (cS b) M H) ⟨rfl,rfl,rfl,by simp,fun ad c _=>(Zb w _).block ad c⟩ (fun y I=>.inr (by have:=cC I;omega));have aa:∀ b,b<4->p4 g h i e b=1->∀ q s,s.ownsRow M (cE b) (cS b) q (mY u b 2) (qR t b 2)->w.grownBy s (a.eval (.tmp (rT b 1))).ownBlock->(q.ownBlock=(a.eval (.tmp (rT b 1))).ownBlock∨∀ y,q.ownBlock=some y->w.heap.size<=y)->JC SZ Wd M rT (qR t) (mY u) (lB keep G f) (rI (p4 g h i e) b 2) (a.put (some (rT b 2)) q) s:=fun b p V q s B C D =>
   k.move (mx:=2) p (by omega) (by omega) ae yt (fun n r=>ap n r b p 2 (by omega) (by omega)) (by unfold rT;omega) H B (Fr.of_grown C (fun y I=>by rw[V];exact⟨by omega,I⟩)) (fun y I=>by
    rcases D with ag | ag;·rw[ag] at I;exact .inl (by rw[V];exact⟨by omega,I⟩)
    ·exact .inr (ag y I))
  have ab:∀ b,b<4->p4 g h i e b=1->w.ownsRow M (cE b) (cS b) (a.eval (.tmp (rT b 1))) (mY u b 1) (qR t b 1):=fun b p V=>(by have:=k.cur b p (by omega);rw[V] at this;exact this);refine wpAnyH_all rfl an (fun m af=>?_);have c:=Ez.1 ao m af;clear ao an af;simp only[AH,Bool.or_eq_true,Em,beq_iff_eq] at c;rcases c with ((((((((c | c) | c) | c) | c) | c) | c) | c) | c);·obtain rfl:m=1:=c.1;obtain rfl:f=0:=c.2;refine wpOp_step (ops:=dG) (o:=⟨some 20,Op.load 23 (.tmp 19),23,"l3_tree.go:244",#[⟨0,.data⟩],none⟩) rfl (fun F l=>?_);refine zm rfl _ _ rfl (k.kp _ ar) (au w k.fr) ?_;have j:=k.load (d:=20) (mx:=2) (v:=G) (by omega) (fun n r=>(ac n r).1) ae (fun b E p T U=>by unfold rT;omega);exact l _ _ ⟨z _ j.fr,A g h i e 1 _ _ (by omega) (by omega) (by omega) (by omega) (by omega) x (by omega) j⟩
  ·obtain rfl:m=6:=c.1;obtain rfl:g=0:=c.2;refine wpOp_step (ops:=dG) (o:=⟨some 25,Op.buildSlice 42 0 #[],42,"l3_tree.go:244",#[],none⟩) rfl (fun F l=>?_);refine eC rfl 42 9 rfl (jl w) ?_;have j:=(Z 0 (by omega) rfl).re (vj 0 h i e 1);exact l _ _ ⟨z _ j.fr,A 1 h i e f _ _ (by omega) (by omega) (by omega) (by omega) (by omega) (by revert x;unfold jW;simp<;>omega) (by omega) j⟩
  ·obtain rfl:m=10:=c.1;obtain rfl:h=0:=c.2;refine wpOp_step (ops:=dG) (o:=⟨some 29,Op.buildSlice 42 0 #[],42,"l3_tree.go:244",#[],none⟩) rfl (fun F l=>?_);refine eC rfl 42 9 rfl (jl w) ?_;have j:=(Z 1 (by omega) rfl).re (vk g 0 i e 1);exact l _ _ ⟨z _ j.fr,A g 1 i e f _ _ (by omega) (by omega) (by omega) (by omega) (by omega) (by revert x;unfold jW;simp<;>omega) (by omega) j⟩
  ·obtain rfl:m=14:=c.1;obtain rfl:i=0:=c.2;refine wpOp_step (ops:=dG) (o:=⟨some 33,Op.buildSlice 29 0 #[],29,"l3_tree.go:244",#[],none⟩) rfl (fun F l=>?_);refine eC rfl 29 2 rfl (lZ w) ?_;have j:=(Z 2 (by omega) rfl).re (vp g h 0 e 1);exact l _ _ ⟨z _ j.fr,A g h 1 e f _ _ (by omega) (by omega) (by omega) (by omega) (by omega) (by revert x;unfold jW;simp<;>omega) (by omega) j⟩
  ·obtain rfl:m=18:=c.1;obtain rfl:e=0:=c.2;refine wpOp_step (ops:=dG) (o:=⟨some 37,Op.buildSlice 29 0 #[],29,"l3_tree.go:244",#[],none⟩) rfl (fun F l=>?_);refine eC rfl 29 2 rfl (lZ w) ?_;have j:=(Z 3 (by omega) rfl).re (vq g h i 0 1);exact l _ _ ⟨z _ j.fr,A g h i 1 f _ _ (by omega) (by omega) (by omega) (by omega) (by omega) (by revert x;unfold jW;simp<;>omega) (by omega) j⟩
  ·obtain rfl:m=9:=c.1;obtain rfl:g=1:=c.2;refine wpOp_step (ops:=dG) (o:=⟨some 28,Op.call { callee:=Callee.builtin Builtin.append,args:=#[Operand.tmp 25,Operand.tmp 27],argTypes:=#[42,42] },42,"l3_tree.go:244",#[⟨6,.data⟩,⟨8,.data⟩],none⟩) rfl (fun F l=>?_);obtain⟨J,K,L,N,O⟩:=info_parts fi;refine aN rfl _ _ 42 rfl M 9 J _ 1 16 underlying42 K L N O rfl (by decide) (by decide) _ _ _ rfl (ab 0 (by omega) rfl) (by simp[mY]) _ M (u 0) (t 0) (k.kp _ (cP (W 0 (by omega)))) ((X 0 (by omega)).below Y) H ?_;intro q s B C D;have j:=(aa 0 (by omega) rfl q s (by have:=B;simpa[mY,qR,cE,cS] using this) C D).re (vj 1 h i e 2);exact l _ _ ⟨z _ j.fr,A 2 h i e f _ _ (by omega) (by omega) (by omega) (by omega) (by omega) (by revert x;unfold jW;simp<;>omega) (by omega) j⟩
  ·obtain rfl:m=13:=c.1.1;obtain rfl:h=1:=c.1.2;obtain rfl:g=2:=c.2;refine wpOp_step (ops:=dG) (o:=⟨some 32,Op.call { callee:=Callee.builtin Builtin.append,args:=#[Operand.tmp 29,Operand.tmp 31],argTypes:=#[42,42] },42,"l3_tree.go:244",#[⟨10,.data⟩,⟨12,.data⟩,⟨9,.chain⟩],none⟩) rfl (fun F l=>?_);obtain⟨J,K,L,N,O⟩:=info_parts fi;refine aN rfl _ _ 42 rfl M 9 J _ 1 16 underlying42 K L N O rfl (by decide) (by decide) _ _ _ rfl (ab 1 (by omega) rfl) (by simp[mY]) _ M (u 1) (t 1) (k.kp _ (cP (W 1 (by omega)))) ((X 1 (by omega)).below Y) H ?_;intro q s B C D;have j:=(aa 1 (by omega) rfl q s (by have:=B;simpa[mY,qR,cE,cS] using this) C D).re (vk 2 1 i e 2);exact l _ _ ⟨z _ j.fr,A 2 2 i e f _ _ (by omega) (by omega) (by omega) (by omega) (by omega) (by revert x;unfold jW;simp<;>omega) (by omega) j⟩
  ·obtain rfl:m=17:=c.1.1;obtain rfl:i=1:=c.1.2;obtain rfl:h=2:=c.2;refine wpOp_step (ops:=dG) (o:=⟨some 36,Op.call { callee:=Callee.builtin Builtin.append,args:=#[Operand.tmp 33,Operand.tmp 35],argTypes:=#[29,29] },29,"l3_tree.go:244",#[⟨14,.data⟩,⟨16,.data⟩,⟨13,.chain⟩],none⟩) rfl (fun F l=>?_);obtain⟨J,K,L,N,O⟩:=info_parts gR;refine aN rfl _ _ 29 rfl M 2 J _ 1 8 underlying29 K L N O rfl (by decide) (by decide) _ _ _ rfl (ab 2 (by omega) rfl) (by simp[mY]) _ M (u 2) (t 2) (k.kp _ (cP (W 2 (by omega)))) ((X 2 (by omega)).below Y) H ?_;intro q s B C D;have j:=(aa 2 (by omega) rfl q s (by have:=B;simpa[mY,qR,cE,cS] using this) C D).re (vp g 2 1 e 2);exact l _ _ ⟨z _ j.fr,A g 2 2 e f _ _ (by omega) (by omega) (by omega) (by omega) (by omega) (by revert x;unfold jW;simp<;>omega) (by omega) j⟩
  ·obtain rfl:m=21:=c.1.1;obtain rfl:e=1:=c.1.2;obtain rfl:i=2:=c.2;refine wpOp_step (ops:=dG) (o:=⟨some 40,Op.call { callee:=Callee.builtin Builtin.append,args:=#[Operand.tmp 37,Operand.tmp 39],argTypes:=#[29,29] },29,"l3_tree.go:244",#[⟨18,.data⟩,⟨20,.data⟩,⟨17,.chain⟩],none⟩) rfl (fun F l=>?_);obtain⟨J,K,L,N,O⟩:=info_parts gR;refine aN rfl _ _ 29 rfl M 2 J _ 1 8 underlying29 K L N O rfl (by decide) (by decide) _ _ _ rfl (ab 3 (by omega) rfl) (by simp[mY]) _ M (u 3) (t 3) (k.kp _ (cP (W 3 (by omega)))) ((X 3 (by omega)).below Y) H ?_;intro q s B C D;have j:=(aa 3 (by omega) rfl q s (by have:=B;simpa[mY,qR,cE,cS] using this) C D).re (vq g h 2 1 2);exact l _ _ ⟨z _ j.fr,A g h 2 2 f _ _ (by omega) (by omega) (by omega) (by omega) (by omega) (by revert x;unfold jW;simp<;>omega) (by omega) j⟩
def p8 (x:TN):Prop:=x.keys.length<=4∧x.vals.length<=4∧x.over.length<=4∧x.kids.length<=4
theorem vO {x:TN}:∀ (e:List (Nat->List TN)) (b:Nat),x ∈ bJ b e->∃ c ∈ e,∃ d,x ∈ c d
 | [],b,a=>by simp[bJ] at a
 | c::r,b,a=>by
  rw[bJ,EG] at a
  rcases a with a | a
  ·exact⟨c,Et ..,b,a⟩
  ·obtain⟨f,g,d,h⟩:=vO r _ a
   exact⟨f,EH _ g,d,h⟩
theorem oB:∀ (b:List Nat) (a:Nat),(aX a b).length=b.length
 | [],a=>rfl
 | x::r,a=>by simp only[aX,EU,oB r]
theorem ij (t:T):(∃ f,t.good f=true)->∀ g,∀ d ∈ t.flat g,p8 d:=by
 induction t using T.ind with
 |h t j=>
  rintro ⟨f,b⟩ g d a;have k:=b;rw[T.good_eq] at b;simp only[Em,Es] at b;rw[T.flat_eq] at a;cases c:t.leaf
  ·rw[c] at a;simp only[EC,EO,EL] at a;have e:t.kids.length<=4:=(by have:=b.1.1.1.1.2;simpa[T.size,c] using this);rcases a with rfl | a;·exact⟨by simp;omega,by simp,by simp,by rw[oB,EZ];exact e⟩
   ·obtain⟨p,l,m,a⟩:=vO _ _ a;obtain⟨n,i,rfl⟩:=EY.1 l;exact j n i ⟨false,aY k i⟩ m d a
  ·rw[c] at a b;simp only[if_true,List.mem_singleton] at a;subst a;have e:t.keys.length<=4:=(by have:=b.1.1.1.1.2;simpa[T.size,c] using this);have o:=b.1.1.2;simp only[Fg,E8,Em,Es] at o;exact⟨e,by show t.vals.length<=4;omega,by show t.over.length<=4;omega,by simp⟩
theorem cj.nodes {base n c:Nat} {a:Option Addr} {us:Nat->Nat->Value} (h:cj w base (.slice a n c) (ts.map TN.nd) us) (s:n=ts.length) {w2:World} {x y z:Nat} {A:Option Addr} (B:aw w2 x y A n z ts):aw w base w.heap.size a n c ts:=by
 have W:(ts.map TN.nd).length=n:=by rw[EZ,s]
 rcases h.row.2 with ⟨l,X⟩ | ⟨u,Y,Z,l,ab,ad,af,C,_⟩;·simp only[Value.slice.injEq] at l;obtain⟨rfl,rfl,rfl⟩:=l;exact⟨s.symm,Ek _,by unfold maxLen;exact En _,fun t=>absurd t (by omega)⟩
 ·simp only[Value.slice.injEq] at l;obtain⟨rfl,_,rfl⟩:=l;refine⟨s.symm,by omega,C,fun t=>⟨u,0,rfl,h.row.lt u rfl,fun b D=>?_⟩⟩;have v:b<(ts.map TN.nd).length:=(by omega);have E:(ts.map TN.nd).getD b dN=TN.nd (ts.getD b dT):=(by simp[List.getD,show b<ts.length by omega]);have k:=fun e f=>h.cell (i:=b) (j:=e) v f;have m:=h.data b v;rw[E] at k m;obtain⟨ag,ah,_,_,F⟩:=B.2.2.2 t;obtain⟨ai,aj,ak,al,am,an,ao,on,ap,aq,ar,au,g⟩:=F b D;have o:=m 0 (by omega);have p:=m 1 (by omega);have q:=m 2 (by omega);have r:=m 3 (by omega);replace o:w.ownsRow base 9 1 (us b 0) (aa ae (ts.getD b dT).keys).length (aa ae (ts.getD b dT).keys):=o;replace p:w.ownsRow base 9 1 (us b 1) (aa ae (ts.getD b dT).vals).length (aa ae (ts.getD b dT).vals):=p;replace q:w.ownsRow base 2 1 (us b 2) (aa ac (ts.getD b dT).over).length (aa ac (ts.getD b dT).over):=q;replace r:w.ownsRow base 2 1 (us b 3) (aa ac (ts.getD b dT).kids).length (aa ac (ts.getD b dT).kids):=r;rw[cH jb] at o p;rw[cH lh] at q r;obtain⟨G,H,I,J⟩:=aR.of_owns (fit:=dm) (d:=ByteArray.empty) jb o rfl (fun e f=>g.keys.2.2.2.1 e (by rw[<-g.keys.1];exact f));obtain⟨K,L,M,N⟩:=aR.of_owns (fit:=dm) (d:=ByteArray.empty) jb p rfl (fun e f=>g.vals.2.2.2.1 e (by rw[<-g.vals.1];exact f));obtain⟨O,P,Q,R⟩:=aR.of_owns (fit:=ga) (d:=0) lh q rfl (fun e f=>g.over.2.2.2.1 e (by rw[<-g.over.1];exact f));obtain⟨S,T,U,V⟩:=aR.of_owns (fit:=ga) (d:=0) lh r rfl (fun e f=>g.kids.2.2.2.1 e (by rw[<-g.kids.1];exact f));refine⟨G,_,H,K,_,L,O,_,P,S,_,T,?_,?_,?_,?_,?_,?_,g.page,J,N,R,V⟩;·rw[EK];exact k 0 (by omega)
  ·rw[EK];exact k 1 (by omega)
  ·rw[EK,<-I];exact k 2 (by omega)
  ·rw[EK,<-M];exact k 3 (by omega)
  ·rw[EK,<-Q];exact k 4 (by omega)
  ·rw[EK,<-U];exact k 5 (by omega)
theorem rW (a b:ByteArray):(a++b).size=a.size+b.size:=by simp
theorem iK (C A B:Nat) (w:World) (h:dk w C A B) :
  Calls prog 13 #[.pointer (some ⟨C,0,none⟩)] w fun c g=>∃ i:ByteArray,c=.returned (.string i)∧cy i=true∧dk g C A B∧Fr (fun r=>r=C) w g:=by
 go_enter func13,ntmps13;go_wp2_with fail
 refine (bo C A B w h 40 (by omega) (by omega)).mono ?_;rintro c b ⟨a,rfl,D,j,k⟩;clear h;by_cases s:a=0
 ·subst s;go_wp2_with fail
  go_ret;exact⟨_,rfl,by decide,j,k⟩
 ·have E:((a:Int) == 0)=false:=(by simp;omega);have d:Below b.heap.size b (b.alloc (.cells #[.int .u8 (97+(a:Int) % 20)] 5)):=Zb _ _;have l:=gA (fe b (97+(a:Int) % 20) (by omega));obtain⟨m,e⟩:=Zn (AN [97+(a:Int) % 20]);have n:m.size=1:=(by rw[<-e,eE];rfl);rw[e] at l;have o:=dk.below j d;have p:=Fr.trans k (Fr.of_below d);clear e d;go_wp2_with fail
  rw[show (1:Int)+(a:Int) / 20=((1+a / 20:Nat):Int) by omega];refine (fc m (by omega) (1+a / 20) (by omega) _).mono ?_;rintro c F ⟨t,rfl,ht,f⟩;have q:cy ((⟨#[107]⟩:ByteArray)++t)=true:=(by unfold cy;have u:((⟨#[107]⟩:ByteArray)++t).size=1+t.size:=(by rw[rW];rfl);rw[u,ht,n];simp;omega);have v:Hid _:=q;have x:t.size=1*(1+a / 20):=(by rw[ht,n]);have G:t.size<=2:=(by omega);clear x;have y:=o.below f;have z:=p.trans (Fr.of_below f);clear ht l o p f q;go_wp2_with fail
  go_ret;exact⟨_,rfl,v.out,y,z⟩
def C4 (n:Nat):Nat:=(n+3) / 4
def DH:Nat->Nat->Nat
 | 0,n=>C4 n
 | h+1,n=>C4 n+DH h (C4 n)
def DI:Nat->Nat->Nat
 | 0,n=>C4 n
 | h+1,n=>DI h (C4 n)
structure C5 (zs:List (ByteArray × ByteArray)) (u:T):Prop where
 good:u.good true=true
 neat:bv u
 ht:0<=u.ht
 keys:u.slots.all (fun s=>cy s.1)=true
 nums:u.nums.Nodup
 slots:u.slots=ms zs
 sort:bl u.slots
theorem vU:C5 [] br:=by
 refine⟨by rw[T.good_eq];rfl,?_,by rw[T.ht_eq];exact Int.le_refl _,by rw[T.slots_eq];rfl,?_,by rw[T.slots_eq];rfl,?_⟩;·rw[aC];exact⟨fun _=>rfl,(fun a=>by cases a),(fun c b=>by cases b)⟩
 ·simp[br,T.nums]
 ·simp[br,T.slots,bl]
def DJ (h:Int) (ts:List T):Prop:=∀ t ∈ ts,bv t∧t.ht=h∧t.nums=[]
def vV (ts:List TN) (lo hi:ByteArray) (zs:List (ByteArray × ByteArray × Int)):Prop:=(¬ cF ts->zs=[])∧(cF ts->∃ t met,gr ts (ts.length+1) 0 (fun _=>false)=some (t,ts.length,met)∧zs=cQ lo hi t.slots)
end Go.Proofs.YtggmghkcdfjdoaaGreat
