import Derived.Test.YtgcedpmagmmikaaGreatHTvr
import Derived.Test.YtgcedpmagmmikaaGreatHTui
namespace Go.Proofs.YtgcedpmagmmikaaGreat
open Go.RowKit
set_option linter.unusedVariables false
set_option linter.unusedSimpArgs false
set_option maxRecDepth 100000
variable {key val:ByteArray} {t:T} {ts:List TN}
def bv:T->Prop
 | ⟨l,_,k,v,o,y⟩=>(l=true->y=[])∧(l=false->k=[]∧v=[]∧o=[]∧y≠[])∧∀ z,z ∈ y->bv z
theorem aC (t:T):bv t ↔ (t.leaf=true->t.kids=[])∧(t.leaf=false->t.keys=[]∧t.vals=[]∧t.over=[]∧t.kids≠[])∧∀ a ∈ t.kids,bv a:=by cases t;rw[bv]
theorem bv.shape:∀ (t:T),bv t->cg t:=by
 intro t
 induction t using T.ind with
 |h t d=>intro a;rw[aC] at a;rw[bj];exact⟨a.1,fun b c=>d b c (a.2.2 b c)⟩
theorem rH {a:Type} {l:List a} {s:Nat} {x d:a} {r:List a} (h:l.drop s=x::r):s<l.length∧l.getD s d=x∧l.drop (s+1)=r:=by
 have b:s<l.length:=by
  rcases Nat.lt_or_ge s l.length with c | c;·exact c
  ·rw[List.drop_eq_nil_of_le c] at h;cases h
 rw[List.drop_eq_getElem_cons b] at h;simp only[List.cons.injEq] at h;exact⟨b,by simp[List.getD,DQ b,h.1],h.2⟩
theorem ve {f:Nat} (e:∀ (t:T) (a:Nat) (c:List TN),bv t->t.nodes<=f->ts.drop a=t.flat a++c->rd ts f a=(t,a+t.nodes,false)):∀ (d:List T) (a:Nat) (c:List TN),(∀ b ∈ d,bv b)->(d.map T.nodes).sum<=f->ts.drop a=bJ a (d.map T.flat)++c->fm (rd ts f) (aX a (d.map T.nodes)) a=(d,a+(d.map T.nodes).sum,false)
 | [],a,c,_,_,_=>by simp[aX,fm]
 | b::r,a,c,hn,hl,hd=>by
  simp only[D8,EL] at hl
  simp only[D8,bJ,Eb] at hd
  have g:=hn b (D4 ..)
  have i:=e b a _ g (by omega) hd
  have h:=dq b g.shape a
  rw[h] at hd
  have j:ts.drop (a+b.nodes)=bJ (a+b.nodes) (r.map T.flat)++c:=by
   rw[<-List.drop_drop,hd,<-h,List.drop_left]
  have k:=ve e r (a+b.nodes) c (fun l m=>hn l (Eg _ m)) (by omega) j;simp only[D8,aX,fm,i,if_true,Ee,En,k,EL,EX]
theorem xQ (ts:List TN):∀ (e:Nat) (t:T) (a:Nat) (f:List TN),bv t->t.nodes<=e->ts.drop a=t.flat a++f->rd ts e a=(t,a+t.nodes,false)
 | 0,t,a,f,hn,hf,hd=>by
  have:1<=t.nodes:=by rw[T.nodes_eq];omega
  omega
 | e+1,t,a,f,hn,hf,hd=>by
  rw[aC] at hn
  rw[T.flat_eq] at hd
  cases b:t.leaf
  ·rw[b] at hd
   simp only[Ee,En,EO] at hd
   obtain⟨g,h,j⟩:=rH (d:=dT) hd
   obtain⟨c,k,l,o⟩:=hn.2.1 b
   have m:=T.nodes_eq t
   have p:=ve (xQ ts e) t.kids (a+1) f hn.2.2 (by omega) j
   have q:¬ (aX (a+1) (t.kids.map T.nodes)).length=0:=by
    cases r:t.kids with
    | nil=>exact absurd r o
    | cons y z=>simp[aX]
   rw[rd,if_pos g,h];simp only[Ee,En,q,p];obtain⟨s,n,u,v,w,i⟩:=t;simp only at b c k l m;subst b c k l;have x:a+1+(i.map T.nodes).sum=a+(⟨false,n,[],[],[],i⟩:T).nodes:=(by rw[m];omega);rw[<-x]
  ·rw[b] at hd;simp only[if_true,EO,D7] at hd;obtain⟨g,h,j⟩:=rH (d:=dT) hd;have c:=hn.1 b;rw[rd,if_pos g,h];obtain⟨s,n,u,v,w,i⟩:=t;simp only at b c;subst b c;simp[T.nodes]
theorem oQ (c:t.good true=true) (b:bv t) (d:0<=t.ht) (i:t.nodes<=1000) (e:t.slots.all (fun s=>cy s.1)=true) (f:it (t.slots.map (fun s=>s.1))=true) (g:t.nums.Nodup):aZ (t.flat 0)∧rd (t.flat 0) ((t.flat 0).length+1) 0=(t,(t.flat 0).length,false):=by
 have h:=dq t b.shape 0;have j:1<=t.nodes:=by rw[T.nodes_eq];omega
 have a:=xQ (t.flat 0) ((t.flat 0).length+1) t 0 [] b (by omega) (by simp);rw[Ed,<-h] at a;exact⟨⟨⟨by omega,by omega⟩,t,a,c,e,d,by omega,f,rfl,g⟩,a⟩
theorem vf (h:bv t) (o:t.size<=5):∀ k ∈ cR t,bv k:=by
 intro k b;unfold cR at b;split at b;·simp at b;subst b;exact h
 ·rename_i m;rw[aC] at h;have l:t.leaf=false->4<t.kids.length:=fun a=>(by simp[T.size,a] at m;omega);simp only[Ek,EW,or_false] at b;rcases b with rfl | rfl;·rw[aC];refine⟨fun a=>by simp[T.fore,h.1 a],fun a=>?_,fun c d=>h.2.2 c (Eh d)⟩;obtain⟨e,f,g,n⟩:=h.2.1 a;have:=l a;refine⟨by simp[T.fore,e],by simp[T.fore,f],by simp[T.fore,g],fun i=>?_⟩;have j:(t.kids.take 3).length=0:=(by rw[show t.kids.take 3=[] from i];rfl);rw[D3] at j;omega
  ·rw[aC];refine⟨fun a=>by simp[T.rest,h.1 a],fun a=>?_,fun c d=>h.2.2 c (Ef d)⟩;obtain⟨e,f,g,n⟩:=h.2.1 a;have:=l a;refine⟨by simp[T.rest,e],by simp[T.rest,f],by simp[T.rest,g],fun i=>?_⟩;have j:(t.kids.drop 3).length=0:=(by rw[show t.kids.drop 3=[] from i];rfl);rw[Es] at j;omega
theorem Aj (key val:ByteArray) (l:val.size<=400):∀ (t:T) (j:Bool),t.good j=true->bv t->bv (aW key val t):=by
 intro t
 induction t using T.ind with
 |h t m=>
  intro j g k;have s:=k.shape;have e:=(aC t).1 k;cases i:t.leaf
  ·have n:0<t.kids.length:=(by have:=(dg g i).1;omega);obtain⟨b,o,c⟩:=fA (key:=key) (ys:=t.kids) n;have p:=m b c false (aY g c) (e.2.2 b c);have q:=uZ (key:=key) l (aY g c) (e.2.2 b c).shape;rw[dw i o,aC];refine⟨fun d=>by simp at d,fun _=>⟨rfl,rfl,rfl,fun d=>?_⟩,fun f a=>?_⟩;·have:=(jh (aW key val b)).1;have r:(t.kids.take (ci key t.kids)++cR (aW key val b)++t.kids.drop (ci key t.kids+1)).length=0:=(by rw[show t.kids.take (ci key t.kids)++cR (aW key val b)++t.kids.drop (ci key t.kids+1)=[] from d];rfl);rw[DV,DV] at r;omega
   ·rcases Ei.1 a with a | a
    ·rcases Ei.1 a with a | a;·exact e.2.2 f (Eh a)
     ·exact vf p q f a
    ·exact e.2.2 f (Ef a)
  ·rw[ed i,aC];exact⟨fun _=>rfl,fun d=>by simp[cw] at d,fun f a=>by simp[cw] at a⟩
theorem lV:∀ (d:List T),iR key d=none->∀ (a:Nat) b,d[a]?=some b->¬ oK b.low key=true
 | [],_,a,b,h=>by simp at h
 | t::r,hn,a,b,h=>by
  unfold iR at hn
  cases c:iR key r with
  | some f=>rw[c] at hn;cases hn
  |none=>
   rw[c] at hn
   simp only[ite_eq_right_iff] at hn
   cases a with
   | zero=>simp at h;subst h;intro e;exact absurd (hn e) (by simp)
   | succ a=>exact lV r c a b (by simpa using h)
theorem pE:∀ (e:List T) (c:Nat),iR key e=some c->(∃ a,e[c]?=some a∧oK a.low key=true)∧∀ (b:Nat) a,c<b->e[b]?=some a->¬ oK a.low key=true
 | [],c,h=>by simp[iR] at h
 | t::r,c,h=>by
  unfold iR at h
  cases d:iR key r with
  |some i=>
   rw[d] at h
   simp at h
   subst h
   obtain⟨⟨a,f,j⟩,k⟩:=pE r i d
   refine⟨⟨a,by simpa using f,j⟩,fun b a l g=>?_⟩
   cases b with
   | zero=>omega
   | succ b=>exact k b a (by omega) (by simpa using g)
  |none=>
   rw[d] at h
   simp only[Option.ite_none_right_eq_some,Option.some.injEq] at h
   obtain⟨f,rfl⟩:=h
   refine⟨⟨t,rfl,f⟩,fun b a l g=>?_⟩
   cases b with
   | zero=>omega
   | succ b=>exact lV r d b a (by simpa using g)
theorem ji (d:0<t.kids.length):ew t key (ci key t.kids):=by
 unfold ci;cases b:iR key t.kids with
 |none=>refine⟨d,.inl rfl,fun e a _ f=>lV _ b e a f⟩
 |some i=>obtain⟨⟨a,c,g⟩,h⟩:=pE _ _ b;exact⟨(Zc c),.inr ⟨a,c,g⟩,h⟩
theorem jj {k:T} {m:Nat} (H:t.leaf=false) (h:∃ r,t.good r=true) (I:bl t.slots) (s:ew t key m) (i:t.kids[m]?=some k) :
  (∀ b ∈ ((t.kids.take m).map T.slots).flatten,aH b.1 key=true)∧(∀ b ∈ ((t.kids.drop (m+1)).map T.slots).flatten,aH key b.1=true)∧bl k.slots∧t.slots=((t.kids.take m).map T.slots).flatten++k.slots++((t.kids.drop (m+1)).map T.slots).flatten:=by
 obtain⟨r,h⟩:=h;have J:t.slots=(t.kids.map T.slots).flatten:=by rw[T.slots_eq,if_neg (by simp[H]),D7]
 have f:∀ a ∈ t.kids,a.good false=true:=fun a j=>dX h j;have u:=D5 i;obtain⟨Y,K⟩:=Er.1 i;have L:t.kids=t.kids.take m++k::t.kids.drop (m+1):=by rw[<-K,List.getElem_cons_drop,Et]
 have v:t.slots=((t.kids.take m).map T.slots).flatten++k.slots++((t.kids.drop (m+1)).map T.slots).flatten:=by
  rw[J]
  conv=>lhs;rw[L]
  simp
 have l:=I;unfold bl at l;rw[v,Eb,List.pairwise_append] at l;obtain⟨_,w,M⟩:=l;rw[List.pairwise_append] at w;obtain⟨N,O,Z⟩:=w;refine⟨fun b g=>?_,fun b g=>?_,N,v⟩
 ·rcases s.2.1 with P | ⟨c,x,Q⟩;·subst P;simp at g
  ·have R:c=k:=(by rw[i] at x;exact (Option.some.inj x).symm);subst R;obtain⟨d,n,e⟩:=Ep (jJ c (f c u));have o:=mG c (f c u) d n e;have p:=M b g d (by rw[e];simp);rw[o] at p;rcases (sZ _ _).1 Q with q | q;·exact dh p q
   ·rw[<-q];exact p
 ·obtain⟨aa,y,z⟩:=List.mem_flatten.1 g;obtain⟨a,j,rfl⟩:=Ew.1 y;obtain⟨A,S,U⟩:=List.mem_iff_getElem.1 j;have B:t.kids[m+1+A]?=some a:=(by rw[<-Eu,DQ S,U]);have V:=s.2.2 (m+1+A) a (by omega) B;have C:=D5 B;obtain⟨d,n,e⟩:=Ep (jJ a (f a C));have o:=mG a (f a C) d n e;have D:aH key d.1=true:=by
   rw[o];apply Classical.byContradiction;intro W;apply V;rw[sZ];by_cases E:aH a.low key=true;·exact .inl E
   ·exact .inr (jH E W)
  have F:bl a.slots:=(by have G:=O;rw[List.pairwise_flatten] at G;exact G.1 _ y);rw[e] at z F;rcases Ek.1 z with rfl | X;·exact D
  ·exact dh D ((List.pairwise_cons.1 F).1 b X)
theorem jP:∀ (b c:List (ByteArray × ByteArray × Int)),(∀ d ∈ b,aH d.1 key=true)->bm key (b++c)=b.length+bm key c
 | [],c,_=>by simp
 | a::b,c,h=>by
  rw[EO,bm,if_pos (h a (D4 ..)),jP b c (fun d e=>h d (Eg _ e))]
  simp
  omega
theorem wR {a b:ByteArray} (h:aH a b=true):¬ aH b a=true:=fun c=>aQ _ (dh h c)
theorem nE:∀ (d a:List (ByteArray × ByteArray × Int)),(∀ e ∈ a,aH key e.1=true)->bm key (d++a)=bm key d
 | [],[],_=>rfl
 | [],c::a,h=>by
  rw[D7,show bm key (c::a)=0 from if_neg (wR (h c (D4 ..)))]
  rfl
 | b::d,a,h=>by
  rw[EO,bm,bm,nE d a h]
theorem vg {A B C:List (ByteArray × ByteArray × Int)} (j:∀ s ∈ A,aH s.1 key=true) (d:∀ s ∈ C,aH key s.1=true):ej key val (A++B++C)=A++ej key val B++C:=by
 have e:bm key (A++B++C)=A.length+bm key B:=by rw[Eb,jP A _ j,nE B C d]
 have f:=tf key B;have k:bO key (A++B++C)=bO key B:=by
  unfold bO;rw[e];by_cases c:bm key B<B.length;·have:(A++B++C).getD (A.length+bm key B) (ByteArray.empty,ByteArray.empty,0)=B.getD (bm key B) (ByteArray.empty,ByteArray.empty,0):=(by simp only[List.getD];rw[Eb,Ea (by omega),Nat.add_sub_cancel_left,Ec c]);rw[this];have g:A.length+bm key B<(A++B++C).length:=(by simp;omega);simp only[c,g,true_and]
  ·have h:bm key B=B.length:=(by omega);cases C with
   | nil=>simp[h]
   |cons a C=>have:(A++B++a::C).getD (A.length+bm key B) (ByteArray.empty,ByteArray.empty,0)=a:=(by simp only[List.getD];rw[Eb,Ea (by omega),Nat.add_sub_cancel_left,h,Ea (DU _)];simp);rw[this];have l:a.1≠key:=fun m=>(by have:=d a (D4 ..);rw[m] at this;exact aQ _ this);simp[c,l]
 unfold ej;rw[k,e];have n:(A++B++C).take (A.length+bm key B)=A++B.take (bm key B):=by rw[Eb,List.take_length_add_append,El f]
 rw[n];have i:∀ b,b<=B.length->(A++B++C).drop (A.length+b)=B.drop b++C:=fun b o=>by rw[Eb,List.drop_length_add_append,EN o]
 by_cases ht:bO key B=true;·have g:bm key B<B.length:=(by simp[bO] at ht;exact ht.1);rw[if_pos ht,if_pos ht,EX,i _ (by omega)];simp
 ·rw[if_neg ht,if_neg ht,i _ f];simp
theorem gP {d e:Type}:∀ (b:List d) (c:List e) (a:Nat),(b.take a).zip (c.take a)=(b.zip c).take a
 | [],c,a=>by simp
 | b::r,[],a=>by simp
 | b::r,c::q,0=>by simp
 | b::r,c::q,a+1=>by simp[gP r q a]
theorem gQ {d e:Type}:∀ (b:List d) (c:List e) (a:Nat),(b.drop a).zip (c.drop a)=(b.zip c).drop a
 | [],c,a=>by simp
 | b::r,[],a=>by simp
 | b::r,c::q,0=>by simp
 | b::r,c::q,a+1=>by simp[gQ r q a]
theorem mO (h:t.leaf=true->t.vals.length=t.keys.length∧t.over.length=t.keys.length∧t.kids=[]) (c:t.leaf=false->t.keys=[]∧t.vals=[]∧t.over=[]):((cR t).map T.slots).flatten=t.slots:=by
 unfold cR;split;·simp
 ·cases a:t.leaf;·simp only[D8,Ez,Ex,List.flatten_nil,Ej,T.slots_eq,T.fore,T.rest,a,Ee,En,D7];rw[<-EF,<-EA,Et]
  ·obtain⟨d,e,b⟩:=h a;simp only[D8,Ez,Ex,List.flatten_nil,Ej,T.slots_eq,T.fore,T.rest,a,if_true,b,List.take_nil,List.drop_nil];rw[gP,gP,gQ,gQ,Et]
theorem ge (key val:ByteArray) (t:T):((aW key val t).leaf=true->(aW key val t).vals.length=(aW key val t).keys.length∧(aW key val t).over.length=(aW key val t).keys.length∧(aW key val t).kids=[])∧((aW key val t).leaf=false->(aW key val t).keys=[]∧(aW key val t).vals=[]∧(aW key val t).over=[]):=by
 obtain⟨b,c,d,e,f,g⟩:=t;rw[aW];cases b;·exact⟨fun a=>by simp at a,fun _=>by simp⟩
 ·exact⟨fun _=>by simp[cw],fun a=>by simp[cw] at a⟩
theorem tD (key val:ByteArray):∀ (t:T) (b:Bool),t.good b=true->bv t->bl t.slots->(aW key val t).slots=ej key val t.slots:=by
 intro t
 induction t using T.ind with
 |h t k=>
  intro b c l m;have f:=(aC t).1 l;cases a:t.leaf;·have g:0<t.kids.length:=(by have:=(dg c a).1;omega);obtain⟨d,i,e⟩:=fA (key:=key) (ys:=t.kids) g;obtain⟨n,o,p,q⟩:=jj a ⟨b,c⟩ m (ji (key:=key) g) i;have r:=k d e false (aY c e) (f.2.2 d e) p;have j:=ge key val d;rw[dw a i,q,vg n o,<-r,T.slots_eq];simp only[Ee,En,D7,EA,EF];rw[mO j.1 j.2]
  ·rw[ed a];have s:t.slots=t.keys.zip (t.vals.zip t.over):=(by rw[T.slots_eq,a,f.1 a];simp);rw[s,T.slots_eq];simp only[cw,if_true,Ez,List.flatten_nil,Ej];exact mH _
theorem Ak {c:List Int} (i:c≠[]) (h:0<=T.htOf c):∀ a ∈ c,a=T.htOf c - 1∧0<=a:=by
 cases c with
 | nil=>exact absurd rfl i
 |cons b d=>
  have j:T.htOf (b::d)=if b<0 then -1 else if d.all (fun a=>a == b) then b+1 else -1:=rfl;rw[j] at h ⊢;by_cases g:b<0;·rw[if_pos g] at h;omega
  ·rw[if_neg g] at h ⊢;by_cases e:d.all (fun a=>a == b)=true
   ·rw[if_pos e] at h ⊢;intro a f;rcases Ek.1 f with rfl | f;·omega
    ·have:=D9.1 e a f;simp at this;omega
   ·rw[if_neg e] at h;omega
theorem Bq {b:List Int} {h:Int} (e:b≠[]) (j:0<=h) (d:∀ a ∈ b,a=h):T.htOf b=h+1:=by
 cases b with
 | nil=>exact absurd rfl e
 |cons c f=>have g:=d c (D4 ..);subst g;show (if c<0 then -1 else if f.all (fun a=>a == c) then c+1 else -1)=_;rw[if_neg (by omega),if_pos];rw[D9];intro a i;simpa using d a (Eg _ i)
theorem eI (b:t.leaf=false) (c:t.kids≠[]) (h:0<=t.ht):∀ a ∈ t.kids,a.ht=t.ht - 1∧0<=a.ht:=by
 rw[T.ht_eq,b] at h ⊢;simp only[Ee,En] at h ⊢;intro a d;exact Ak (by simpa using c) h a.ht (Ew.2 ⟨a,d,rfl⟩)
theorem gw {ys:List T} {p:Int} {a b:List ByteArray} {c:List Int} {h:Int} (e:ys≠[]) (f:0<=h) (g:∀ d ∈ ys,d.ht=h):(⟨false,p,a,b,c,ys⟩:T).ht=h+1:=by
 rw[T.ht_eq];simp only[Ee,En];exact Bq (by simpa using e) f (fun k i=>by obtain⟨d,j,rfl⟩:=Ew.1 i;exact g d j)
theorem Al (h:0<=t.ht):∀ i ∈ cR t,i.ht=t.ht:=by
 intro i a;unfold cR at a;split at a;·simp at a;subst a;rfl
 ·rename_i l;cases b:t.leaf;·have j:4<t.kids.length:=(by simp[T.size,b] at l;omega);have d:=eI b (fun c=>by rw[c] at j;simp at j) h;obtain⟨e,m⟩:∃ e,e ∈ t.kids:=⟨t.kids[0],Ey _⟩;have k:0<=t.ht - 1:=(by have:=d e m;omega);simp only[Ek,EW,or_false] at a;have o:(t.fore 3).ht=t.ht - 1+1:=(by unfold T.fore;rw[b];exact gw (fun c=>absurd (show (t.kids.take 3).length=0 by rw[c];rfl) (by rw[D3];omega)) k (fun f g=>(d f (Eh g)).1));have p:(t.rest 3).ht=t.ht - 1+1:=(by unfold T.rest;rw[b];exact gw (fun c=>absurd (show (t.kids.drop 3).length=0 by rw[c];rfl) (by rw[Es];omega)) k (fun f g=>(d f (Ef g)).1));rcases a with rfl | rfl<;>omega
  ·have n:t.ht=0:=(by rw[T.ht_eq,b];rfl);simp only[Ek,EW,or_false] at a;rcases a with rfl | rfl<;>(rw[n,T.ht_eq];simp[T.fore,T.rest,b])
theorem Cl (key val:ByteArray):∀ (t:T) (j:Bool),t.good j=true->0<=t.ht->(aW key val t).ht=t.ht:=by
 intro t
 induction t using T.ind with
 |h t l=>
  intro j k m;cases b:t.leaf
  ·have f:0<t.kids.length:=(by have:=(dg k b).1;omega);obtain⟨c,n,d⟩:=fA (key:=key) (ys:=t.kids) f;have e:=eI b (fun g=>by rw[g] at f;simp at f) m;have o:=l c d false (aY k d) (e c d).2;have p:=(e c d);rw[dw b n];have:=(jh (aW key val c)).1;rw[gw (h:=t.ht - 1) (fun g=>absurd (congrArg List.length g) (by rw[DV,DV,List.length_nil];omega)) (by omega) (fun i a=>?_)];·omega
   ·rcases Ei.1 a with a | a
    ·rcases Ei.1 a with a | a;·exact (e i (Eh a)).1
     ·rw[Al (by omega) i a,o];exact p.1
    ·exact (e i (Ef a)).1
  ·rw[ed b,T.ht_eq,T.ht_eq,b];simp[cw]
theorem pF (a:t.page=0) (h:t.leaf=true->t.kids=[]) (c:t.leaf=false->t.over=[]):((cR t).map T.nums).flatten=t.nums:=by
 unfold cR;split;·simp
 ·cases b:t.leaf;·simp only[D8,Ez,Ex,List.flatten_nil,Ej,T.nums_eq,T.fore,T.rest,a,c b,if_true,List.take_nil,List.drop_nil,List.filter_nil,D7];rw[<-EF,<-EA,Et]
  ·simp only[D8,Ez,Ex,List.flatten_nil,Ej,T.nums_eq,T.fore,T.rest,a,h b,if_true,List.take_nil,List.drop_nil,D7];rw[<-List.filter_append,Et]
theorem nF (key val:ByteArray) (t:T):(aW key val t).page=0:=by
 obtain⟨a,b,c,d,e,f⟩:=t;rw[aW];cases a<;>simp[cw]
theorem vh (key val:ByteArray):∀ (t:T) (m:Bool),t.good m=true->bv t->(aW key val t).nums.Sublist t.nums:=by
 intro t
 induction t using T.ind with
 |h t r=>
  intro m i s;have n:=(aC t).1 s;cases g:t.leaf
  ·have u:0<t.kids.length:=(by have:=(dg i g).1;omega);obtain⟨b,o,j⟩:=fA (key:=key) (ys:=t.kids) u;have v:=r b j false (aY i j) (n.2.2 b j);obtain⟨F,w⟩:=Er.1 o;have x:t.kids=t.kids.take (ci key t.kids)++b::t.kids.drop (ci key t.kids+1):=(by rw[<-w,List.getElem_cons_drop,Et]);have p:=ge key val b;have y:=pF (t:=aW key val b) (nF key val b) (fun k=>(p.1 k).2.2) (fun k=>(p.2 k).2.2);have z:(aW key val t).nums=((t.kids.take (ci key t.kids)).map T.nums).flatten++(aW key val b).nums++((t.kids.drop (ci key t.kids+1)).map T.nums).flatten:=(by rw[dw g o,T.nums_eq];simp only[if_true,List.filter_nil,D7,Ej,EA,EF];rw[y]);have A:(t.kids.map T.nums).flatten=((t.kids.take (ci key t.kids)).map T.nums).flatten++b.nums++((t.kids.drop (ci key t.kids+1)).map T.nums).flatten:=by
    conv=>lhs;rw[x]
    simp
   rw[z,T.nums_eq t,A];refine List.Sublist.trans ?_ (List.sublist_append_right _ _);exact EI (EI (EP _) v) (EP _)
  ·have G:=(aF i).2.1 g;rw[ed g,T.nums_eq,T.nums_eq t,n.1 g];simp only[cw,if_true,D7,Ez,List.flatten_nil,Ej];refine List.Sublist.trans ?_ (List.sublist_append_right _ _);have q:t.over=(t.keys.zip (t.vals.zip t.over)).map (fun a=>a.2.2):=(by have B:(t.keys.zip (t.vals.zip t.over)).map (fun a=>a.2)=t.vals.zip t.over:=List.map_snd_zip (by simp;omega);have:(t.keys.zip (t.vals.zip t.over)).map (fun a=>a.2.2)=((t.keys.zip (t.vals.zip t.over)).map (fun a=>a.2)).map (fun a=>a.2):=(by simp);rw[this,B];exact (List.map_snd_zip (by omega)).symm);generalize t.keys.zip (t.vals.zip t.over)=c at q ⊢;rw[q];unfold ej;simp only[EA,D8,List.filter_append,List.map_take,List.map_drop];have C:List.filter (fun l=>l != 0) ((0:Int)::(c.map (fun a=>a.2.2)).drop (if bO key c=true then bm key c+1 else bm key c))=List.filter (fun l=>l != 0) ((c.map (fun a=>a.2.2)).drop (if bO key c=true then bm key c+1 else bm key c)):=(by simp);rw[C,<-List.filter_append];refine List.Sublist.filter _ ?_;have D:∀ (d:List Int) (e f:Nat),e<=f->(d.take e++d.drop f).Sublist d:=fun d e f H=>by
    have E:(d.drop f).Sublist (d.drop e):=(by rw[show f=e+(f - e) by omega,<-List.drop_drop];exact List.drop_sublist _ _);have:=EI (EP (d.take e)) E
    rwa [Et] at this
   exact D _ _ _ (by split<;>omega)
theorem iY:∀ (c:List (ByteArray × ByteArray × Int)),bl c->it (c.map (fun f=>f.1))=true
 | [],_=>rfl
 | [a],_=>rfl
 | a::b::r,h=>by
  have d:=List.pairwise_cons.1 h
  have e:=iY (b::r) d.2
  simp only[D8,it,DW] at e ⊢
  exact⟨d.1 b (D4 ..),e⟩
theorem mP:∀ (d:List (ByteArray × ByteArray × Int)),∀ c ∈ d.take (bm key d),aH c.1 key=true
 | [],c,b=>by simp at b
 | a::r,c,b=>by
  unfold bm at b
  split at b
  ·rename_i e
   rw[List.take_succ_cons] at b
   rcases Ek.1 b with rfl | b
   ·exact e
   ·exact mP r c b
  ·simp at b
theorem oR:∀ (e:List (ByteArray × ByteArray × Int)),bl e->∀ d ∈ e.drop (if bO key e=true then bm key e+1 else bm key e),aH key d.1=true
 | [],_,d,b=>by simp at b
 | a::r,hs,d,b=>by
  have g:=List.pairwise_cons.1 hs
  by_cases h:aH a.1 key=true
  ·have c:bm key (a::r)=bm key r+1:=by rw[bm,if_pos h]
   have ht:bO key (a::r)=bO key r:=by
    unfold bO;rw[c];simp only[Eq,Nat.add_lt_add_iff_right,List.getD,List.getElem?_cons_succ];exact decide_eq_decide.2 Iff.rfl
   rw[ht,c] at b;refine oR r g.2 d ?_;split at b<;>(rename_i j;simp only[j,if_true,En,Ee] at b ⊢;simpa using b)
  ·have c:bm key (a::r)=0:=(by rw[bm,if_neg h]);by_cases f:a.1=key;·have ht:bO key (a::r)=true:=(by unfold bO;rw[c];simp[List.getD,f]);rw[ht,c] at b;simp at b;rw[<-f];exact g.1 d b
   ·have ht:¬ bO key (a::r)=true:=(by unfold bO;rw[c];simp[List.getD,f]);rw[if_neg ht,c] at b;have i:aH key a.1=true:=(by apply Classical.byContradiction;intro k;exact f (jH h k));rcases Ek.1 (by simpa using b) with rfl | b;·exact i
    ·exact dh i (g.1 d b)
theorem yR {zs:List (ByteArray × ByteArray × Int)} (h:bl zs):bl (ej key val zs):=by
 unfold ej bl;rw[List.pairwise_append];refine⟨List.Pairwise.sublist (List.take_sublist _ _) h,?_,fun c d e a=>?_⟩;·rw[List.pairwise_cons];exact⟨fun f g=>oR zs h f g,List.Pairwise.sublist (List.drop_sublist _ _) h⟩
 ·have b:=mP zs c d;rcases Ek.1 a with rfl | a;·exact b
  ·exact dh b (oR zs h e a)
theorem yS (q:cy key=true) (f:val.size<=400) (a:t.good true=true) (b:bv t) (i:0<=t.ht) (r:t.slots.all (fun s=>cy s.1)=true) (j:bl t.slots) (u:t.nums.Nodup) (v:(bu key val t).nodes<=1000) :
  aZ ((bu key val t).flat 0)∧rd ((bu key val t).flat 0) (((bu key val t).flat 0).length+1) 0=(bu key val t,((bu key val t).flat 0).length,false)∧(bu key val t).slots=ej key val t.slots∧bv (bu key val t)∧0<=(bu key val t).ht∧(bu key val t).nums.Nodup:=by
 have k:=mN (key:=key) (val:=val) f q a b.shape r;have l:=Aj key val f t true a b;have w:=(iV key val f t true a b.shape).size.2;have x:=tD key val t true a b j;have y:=Cl key val t true a i;have z:=vh key val t true a b;have d:=ge key val t;have m:bv (bu key val t):=by
  unfold bu;split;·exact l
  ·rw[aC];exact⟨fun c=>by simp at c,fun _=>⟨rfl,rfl,rfl,fun c=>by have:=(jh (aW key val t)).1;rw[show cR (aW key val t)=[] from c] at this;simp at this⟩,fun A B=>vf l w A B⟩
 have n:(bu key val t).slots=ej key val t.slots:=by
  rw[<-x];unfold bu;split;·rfl
  ·rw[T.slots_eq];simp only[Ee,En,D7];exact mO d.1 d.2
 have o:0<=(bu key val t).ht:=by
  unfold bu;split;·omega
  ·rw[gw (h:=t.ht) (fun c=>by have:=(jh (aW key val t)).1;rw[show cR (aW key val t)=[] from c] at this;simp at this) i (fun C D=>by rw[Al (by omega) C D,y])];omega
 have p:(bu key val t).nums.Nodup:=by
  have e:=z.nodup u;unfold bu;split;·exact e
  ·rw[T.nums_eq];simp only[if_true,List.filter_nil,D7];rw[pF (nF key val t) (fun g=>(d.1 g).2.2) (fun g=>(d.2 g).2.2)];exact e
 obtain⟨e,E⟩:=oQ k.1 m o v k.2.2.2.2 (iY _ (by rw[n];exact yR j)) p;exact⟨e,E,n,m,o,p⟩
theorem Az:∀ (t:T),t.good false=true->bv t->t.nodes+1<=t.slots.length:=by
 intro t
 induction t using T.ind with
 |h t i=>
  intro e j;have f:=(aC t).1 j;have g:=aF e;cases a:t.leaf
  ·have p:=(dg e a).1;have k:∀ (c:List T),(∀ b ∈ c,b.nodes+1<=b.slots.length)->(c.map T.nodes).sum+c.length<=(c.map T.slots).flatten.length:=by
    intro c
    induction c with
    | nil=>intro _;simp
    |cons b q l=>intro d;have r:=d b (D4 ..);have s:=l (fun m n=>d m (Eg _ n));simp only[D8,EL,Eq,Ex,DV];omega
   have:=k t.kids (fun b d=>i b d (aY e d) (f.2.2 b d));rw[T.nodes_eq,T.slots_eq,a];simp only[Ee,En,D7];omega
  ·obtain⟨u,v,_⟩:=g.2.1 a;rw[fR (f.1 a),T.slots_eq,a,f.1 a];simp only[if_true,Ez,List.flatten_nil,Ej,List.length_zip];have o:=g.1.1;simp[T.size,a] at o;omega
theorem fX (a:t.good true=true) (b:bv t):t.nodes<=t.slots.length+1:=by
 have d:=(aC t).1 b;cases c:t.leaf;·have e:t.good false=true:=(by rw[T.good_eq] at a ⊢;simpa[c] using a);have:=Az t e b;omega
 ·rw[fR (d.1 c)];omega
theorem xY {f:Nat} {Φ:T->Prop} {p:Int} {keys:List ByteArray} (m:∀ d e t a b,gr ts f d e=some (t,a,b)->Φ t):∀ (l:List Int) (g:List T) (d:Nat) (e:Int->Bool) (i:List T) (a:Nat) (b:Int->Bool),nh p keys (gr ts f) l g d e=some (i,a,b)->(∀ j ∈ g,Φ j)->∀ j ∈ i,Φ j
 | [],g,d,e,i,a,b,h,ha=>by
  simp[nh] at h
  obtain⟨rfl,rfl,rfl⟩:=h
  exact ha
 | k::l,g,d,e,i,a,b,h,ha=>by
  unfold nh at h
  split at h
  ·rename_i r
   split at h
   ·cases h
   ·rename_i t n o q
    split at h
    ·exact xY m l (g++[t]) n o i a b h (fun j c=>by
      rcases Ei.1 c with c | c
      ·exact ha j c
      ·simp at c;subst c;exact m _ _ _ _ _ q)
    ·cases h
  ·cases h
theorem xZ (ts:List TN):∀ (k f:Nat) (g:Int->Bool) (t:T) (h:Nat) (i:Int->Bool),gr ts k f g=some (t,h,i)->(∃ j,t.good j=true)->bv t
 | 0,f,g,t,h,i,a,_=>by simp[gr] at a
 | k+1,f,g,t,h,i,a,b=>by
  unfold gr at a
  split at a
  ·cases a
  ·split at a
   ·cases a
   ·split at a
    ·split at a
     ·cases a
     ·split at a
      ·cases a
      ·simp only[Option.some.injEq,Prod.mk.injEq] at a
       obtain⟨rfl,_,_⟩:=a
       rw[aC]
       exact⟨fun _=>rfl,(fun c=>by cases c),(fun d e=>by cases e)⟩
    ·split at a
     ·cases a
     ·split at a
      ·cases a
      ·rename_i n o p l
       simp only[Option.some.injEq,Prod.mk.injEq] at a
       obtain⟨rfl,_,_⟩:=a
       obtain⟨j,b⟩:=b
       have m:=dg b rfl
       rw[aC]
       refine⟨(fun c=>by cases c),fun _=>⟨rfl,rfl,rfl,fun c=>by have:=m.1;simp only at c this;rw[c] at this;simp at this⟩,?_⟩
       have:=xY (Φ:=fun d=>(∃ j,d.good j=true)->bv d) (fun f g t h i a b=>xZ ts k f g t h i a b) _ _ _ _ _ _ _ l (fun d e=>by cases e)
       exact fun d e=>this d e ⟨false,aY b e⟩
def C4 (n:Nat):Nat:=(n+3) / 4
def DH:Nat->Nat->Nat
 | 0,n=>C4 n
 | h+1,n=>C4 n+DH h (C4 n)
def DI:Nat->Nat->Nat
 | 0,n=>C4 n
 | h+1,n=>DI h (C4 n)
structure C5 (zs:List (ByteArray × ByteArray)) (u:T):Prop where
 good:u.good true=true
 neat:bv u
 ht:0<=u.ht
 keys:u.slots.all (fun s=>cy s.1)=true
 nums:u.nums.Nodup
 slots:u.slots=ms zs
 sort:bl u.slots
theorem vU:C5 [] br:=by
 refine⟨by rw[T.good_eq];rfl,?_,by rw[T.ht_eq];exact Int.le_refl _,by rw[T.slots_eq];rfl,?_,by rw[T.slots_eq];rfl,?_⟩;·rw[aC];exact⟨fun _=>rfl,(fun a=>by cases a),(fun c b=>by cases b)⟩
 ·simp[br,T.nums]
 ·simp[br,T.slots,bl]
end Go.Proofs.YtgcedpmagmmikaaGreat
