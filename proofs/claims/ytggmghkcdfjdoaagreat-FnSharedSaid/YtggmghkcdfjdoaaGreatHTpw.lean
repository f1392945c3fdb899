import Derived.Test.YtggmghkcdfjdoaaGreatHTks
import Derived.Test.YtggmghkcdfjdoaaGreatHTp
import Derived.Test.YtggmghkcdfjdoaaGreatHTga
import Derived.Test.YtggmghkcdfjdoaaGreatHTlg
import Derived.Deep.RegionWith
import Derived.Deep.DeepCutAuto
import Derived.Deep.QuietTactic
import Derived.BigQuiet
namespace Go.Proofs.YtggmghkcdfjdoaaGreat
open Go.RowKit Tryz
set_option linter.unusedVariables false
set_option linter.unusedSimpArgs false
set_option maxRecDepth 100000
variable {M N base c e g n q:Nat} {S:Nat->Prop} {l:Nat->List Value} {lf:Bool} {p:Int} {u:Nat->Value} {us:Nat->Nat->Value} {v v':Value} {w w' w2 wr:World} {xs:List Value}
def mF:T->Prop
 | ⟨l,_,_,_,o,y⟩=>(l=false->o=[])∧∀ k,k ∈ y->mF k
theorem jF (t:T):mF t ↔ (t.leaf=false->t.over=[])∧∀ a ∈ t.kids,mF a:=by cases t;rw[mF]
def BO (ts:List TN) (f:Nat):Prop:=∀ nx t nx',rd ts f nx=(t,nx',false)->Df ts nx t->mF t
theorem rp {ts:List TN} {f:Nat} (l:BO ts f):∀ (b:List Int) (a:Nat) (c:List T) (e:Nat),fm (rd ts f) b a=(c,e,false)->a+(c.map T.nodes).sum<=ts.length->bJ a (c.map T.flat)=(ts.drop a).take (c.map T.nodes).sum->∀ g ∈ c,mF g
 | [],a,c,e,h,_,_=>by
  simp[fm] at h
  obtain⟨rfl,rfl⟩:=h
  simp
 | k::b,a,c,e,h,hlen,hoff=>by
  unfold fm at h
  split at h
  ·rename_i o
   subst o
   split at h
   ·simp at h
   ·rename_i p
    simp only[Prod.mk.injEq] at h
    obtain⟨q,rfl,r⟩:=h
    have m:rd ts f a=((rd ts f a).1,(rd ts f a).2.1,false):=by
     have:(rd ts f a).2.2=false:=(by simpa using p);rw[<-this]
    obtain⟨n,s,A⟩:=iy ts f _ _ _ m;generalize (rd ts f a).1=i at *;generalize (rd ts f a).2.1=d at *;have t:fm (rd ts f) b d=((fm (rd ts f) b d).1,(fm (rd ts f) b d).2.1,false):=(by rw[<-r]);generalize (fm (rd ts f) b d).1=u at *;generalize (fm (rd ts f) b d).2.1=v at *;subst q;simp only[Ex,Ff,bJ] at hlen hoff;rw[dq i n,fT] at hoff;obtain⟨w,x⟩:=List.append_inj hoff (by rw[dq i n,Eu,ET];omega);have y:=l a i d m ⟨by omega,w⟩;have z:=rp l b d u v t (by omega) (by rw[s];exact x);intro g j;rcases EL.1 j with rfl | j;·exact y
    ·exact z g j
  ·simp at h
theorem uM (ts:List TN):∀ c,BO ts c
 | 0=>by intro b j k a;simp[rd] at a
 | c+1=>by
  have l:=uM ts c
  intro b j k a m
  unfold rd at a
  split at a
  ·rename_i n
   have o:=jz n
   split at a
   ·simp only[Prod.mk.injEq] at a
    obtain⟨rfl,rfl,_⟩:=a
    rw[jF];simp
   ·rename_i u
    split at a
    ·simp at a
    ·rename_i v
     simp only[Prod.mk.injEq] at a
     obtain⟨rfl,rfl,p⟩:=a
     have g:fm (rd ts c) (ts.getD b dT).kids (b+1)=((fm (rd ts c) (ts.getD b dT).kids (b+1)).1,(fm (rd ts c) (ts.getD b dT).kids (b+1)).2.1,false):=by rw[<-p]
     generalize ts.getD b dT=d at *
     obtain⟨w,x,y⟩:=mt (iy ts c) _ _ _ _ g
     generalize (fm (rd ts c) d.kids (b+1)).1=f at *
     generalize (fm (rd ts c) d.kids (b+1)).2.1=q at *
     have r:T.nodes ⟨false,d.page,[],d.vals,d.over,f⟩=1+(f.map T.nodes).sum:=T.nodes_eq _
     obtain⟨s,e⟩:=m
     rw[r] at s e
     rw[fT,o,T.flat_eq,if_neg (by simp)] at e
     have h:=(List.cons.inj e).1
     have i:=(List.cons.inj e).2
     simp only at h i
     have t:d.over=[]:=by rw[<-h]
     rw[jF]
     exact⟨fun _=>t,rp l d.kids (b+1) f q g (by omega) i⟩
  ·simp at a
theorem j0 {t k:T} {r:Bool} (h:t.good r=true) (a:k ∈ t.kids):k.good false=true:=by
 rw[T.good_eq] at h;simp only[Em] at h;exact Ez.1 h.1.2 (k.good false) (EY.2 ⟨k,a,rfl⟩)
theorem rq (t:T):mF t->(∃ k,t.good k=true)->∀ b ∈ t.nums,ir b=true:=by
 induction t using T.ind with
 |h t p=>
  rintro ht ⟨k,f⟩ b a;rw[jF] at ht;have q:∀ c ∈ t.kids,∀ b ∈ c.nums,ir b=true:=fun c d=>p c d (ht.2 c d) ⟨false,j0 f d⟩;rw[T.good_eq] at f;simp only[Em,Es] at f;obtain⟨⟨⟨⟨y,m⟩,n⟩,z⟩,A⟩:=f;rw[T.nums_eq] at a;rcases EG.1 a with a | a
  ·rcases EG.1 a with a | a
   ·split at a;·cases a
    ·rename_i r;simp at a;subst a;simp[r] at m;exact m
   ·obtain⟨i,s⟩:=List.mem_filter.1 a;cases g:t.leaf;·rw[ht.1 g] at i;cases i
    ·simp only[g,Fg,E8,Em,Es] at n;obtain⟨⟨B,C⟩,u⟩:=n;obtain⟨o,D,e⟩:=List.mem_iff_getElem.1 i;have v:(t.vals[o]'(by omega),b) ∈ t.vals.zip t.over:=(by rw[List.mem_iff_getElem];refine⟨o,by simp;omega,by simp[e]⟩);have j:=Ez.1 u _ v;unfold aU at j;simp only[Em] at j;have w:=j.1.1.2;have x:(b == 0)=false:=(by simpa using s);simpa[x] using w
  ·obtain⟨l,g,a⟩:=List.mem_flatten.1 a;obtain⟨c,d,rfl⟩:=EY.1 g;exact q c d b a
theorem oh {b:Type} {l:List T} {f:T->List b} (h:∀ a ∈ l,(f a).length<=c*a.nodes):((l.map f).flatten).length<=c*(l.map T.nodes).sum:=by
 induction l with
 | nil=>simp
 |cons d i e=>simp only[Ex,EW,El,Ff];have j:=h d (Et ..);have k:=e (fun a g=>h a (EH _ g));rw[Nat.mul_add];omega
theorem uN (t:T):mF t->(∃ e,t.good e=true)->t.nums.length<=5*t.nodes:=by
 induction t using T.ind with
 |h t i=>
  rintro ht ⟨e,a⟩;rw[jF] at ht;have b:=oh (l:=t.kids) (f:=T.nums) (c:=5) (fun g b=>i g b (ht.2 g b) ⟨false,j0 a b⟩);rw[T.good_eq] at a;simp only[Em,Es] at a;obtain⟨⟨⟨⟨j,n⟩,k⟩,o⟩,p⟩:=a;rw[T.nums_eq,T.nodes_eq,El,El];have q:(if t.page=0 then ([]:List Int) else [t.page]).length<=1:=(by split<;>simp);have r:(t.over.filter (fun m=>m != 0)).length<=4:=by
   refine Eo (List.length_filter_le ..) ?_;cases d:t.leaf;·rw[ht.1 d];simp
   ·simp only[d,Fg,E8,Em,Es] at k;simp only[T.size,d,if_true] at j;omega
  omega
theorem dY (t:T):(∃ d,t.good d=true)->t.slots.length<=4*t.nodes:=by
 induction t using T.ind with
 |h t g=>
  rintro ⟨d,a⟩;have b:=oh (l:=t.kids) (f:=T.slots) (c:=4) (fun i b=>g i b ⟨false,j0 a b⟩);rw[T.good_eq] at a;simp only[Em,Es] at a;rw[T.slots_eq,T.nodes_eq,El];have k:(if t.leaf then t.keys.zip (t.vals.zip t.over) else []).length<=4:=by
   have e:=a.1.1.1.1;unfold T.size at e;split;·rename_i j;rw[if_pos j] at e;simp only[List.length_zip];omega
   ·simp
  omega
theorem yM (t:T):(∃ i,t.good i=true)->∀ c,∀ a ∈ t.flat c,a.over.length=a.vals.length:=by
 induction t using T.ind with
 |h t k=>
  rintro ⟨i,e⟩ c a b;have l:∀ d ∈ t.kids,∀ c,∀ a ∈ d.flat c,a.over.length=a.vals.length:=fun d f=>k d f ⟨false,j0 e f⟩;rw[T.flat_eq] at b;split at b;·rename_i m;simp at b;subst b;rw[T.good_eq] at e;simp only[Em,Es,m,Fg,E8] at e;have:=e.1.1.2;simp only;omega
  ·rcases EL.1 b with rfl | b;·rfl
   ·have:∀ (g:List T) (c:Nat),(∀ d ∈ g,∀ c,∀ a ∈ d.flat c,a.over.length=a.vals.length)->∀ a ∈ bJ c (g.map T.flat),a.over.length=a.vals.length:=by
     intro g
     induction g with
     | nil=>intro c j a b;simp[bJ] at b
     |cons n i o=>
      intro c j a b;simp only[Ex,bJ,EG] at b;rcases b with b | b;·exact j n (Et ..) c a b
      ·exact o _ (fun d f=>j d (EH _ f)) a b
    exact this t.kids _ l a b
def jw (l:List ByteArray) (k:Nat):Prop:=∀ i,i+1<k->aH (l.getD i .empty) (l.getD (i+1) .empty)=true
theorem zZ (l:List ByteArray) (h:jw l l.length):it l=true:=by
 induction l with
 | nil=>rfl
 |cons c a d=>
  cases a with
  | nil=>rfl
  |cons b a=>show (aH c b && it (b::a))=true;rw[Em];refine⟨by simpa using h 0 (by simp),d (fun e f=>?_)⟩;have:=h (e+1) (by simp at f ⊢;omega);simpa using this
theorem wC (l:List ByteArray) (h:it l=true):jw l l.length:=by
 induction l with
 | nil=>intro a b;simp at b
 |cons e c f=>
  cases c with
  | nil=>intro a b;simp at b
  |cons d c=>
   have h:(aH e d && it (d::c))=true:=h;rw[Em] at h;intro a b;cases a with
   | zero=>simpa using h.1
   |succ a=>have:=f h.2 a (by simp at b ⊢;omega);simpa using this
structure DM (lo hi:Nat) (w w':World):Prop where
 fr:Fr (fun k=>lo<=k∧k<hi) w w'
 room:∀ b o,b<w.heap.size->(∃ v,w.cell? ⟨b,o,none⟩=some v)->w.frozen? ⟨b,o,none⟩=false->(∃ v,w'.cell? ⟨b,o,none⟩=some v)∧w'.frozen? ⟨b,o,none⟩=false
def xL (w:World) (lo hi:Nat) (a:Option Addr) (n:Nat):Prop:=0<n->∃ b off,a=some ⟨b,off,none⟩∧(lo<=b∧b<hi)∧∀ i,i<n->(∃ v,w.cell? ⟨b,off+i,none⟩=some v)∧w.frozen? ⟨b,off+i,none⟩=false
def Du (w:World) (lo hi g n:Nat) (ts:List TN):Prop:=g<hi∧∃ xs,w.ownsRow lo 44 6 (.slice (some ⟨g,0,none⟩) n n) n xs∧ts.length=n∧∀ j,j<n->∃ ka kn kc va vn vc oa on oc ya yn yc,xs[j*6+2]?=some (.slice ka kn kc)∧xs[j*6+3]?=some (.slice va vn vc)∧xs[j*6+4]?=some (.slice oa on oc)∧xs[j*6+5]?=some (.slice ya yn yc) ∧
 (kn=(ts.getD j dT).keys.length∧vn=(ts.getD j dT).vals.length∧on=(ts.getD j dT).over.length∧yn=(ts.getD j dT).kids.length)∧(xL w (g+1) hi ka kn∧xL w (g+1) hi va vn∧xL w (g+1) hi oa on∧xL w (g+1) hi ya yn)
def Dj (t:TN):Nat:=2+t.keys.length+t.vals.length+t.over.length+t.kids.length
def Dv (ts:List TN):Nat:=(ts.map Dj).sum
def Dy (xs ys:List Value) (n:Nat):Prop:=∀ i,i<n->∀ r,2<=r->r<6->ys[i*6+r]?=xs[i*6+r]?
def CS (k n:Nat):List ByteArray:=(List.range n).map fun j=>Di (k+j)
def CT (k n:Nat):List Int:=(List.range n).map fun j=>((k+j:Nat):Int)
structure ND where
 leaf:Bool
 page:Int
 l:Nat->List Value
def dN:ND:=⟨false,0,fun _=>[]⟩
def oP (r:Nat):Nat:=if r<2 then 9 else 2
def iI (n:ND) (u:Nat->Value):List Value:=[.bool n.leaf,.int .i64 n.page,u 0,u 1,u 2,u 3]
structure cj (w:World) (base:Nat) (v:Value) (ns:List ND) (us:Nat->Nat->Value):Prop where
 row:w.ownsRow base 44 6 v ns.length (az (fun i=>iI (ns.getD i dN) (us i)) ns.length)
 data:∀ i,i<ns.length->∀ r,r<4->w.ownsRow base (oP r) 1 (us i r) ((ns.getD i dN).l r).length ((ns.getD i dN).l r)
 apart:∀ i r j s,i<ns.length->j<ns.length->r<4->s<4->¬ (i=j∧r=s)->∀ g,(us i r).ownBlock=some g->(us j s).ownBlock≠some g
theorem ti (n:ND) (u:Nat->Value):(iI n u).length=6:=rfl
theorem Cg (r:Nat):oP r≠44:=by unfold oP;split<;>decide
theorem gL {d e:Nat} {u:Value} {m r:Nat} {ys:List Value} (h:w.ownsRow d 44 6 v n xs) (k:w.ownsRow e (oP r) 1 u m ys) (g:Nat) (a:u.ownBlock=some g):v.ownBlock≠some g:=by
 intro b;rcases k.2 with ⟨rfl,_⟩ | ⟨i,j,l,rfl,_,f,_⟩;·simp[Value.ownBlock] at a
 ·rcases h.2 with ⟨rfl,_⟩ | ⟨o,p,q,rfl,_,c,_⟩;·simp[Value.ownBlock] at b
  ·simp[Value.ownBlock] at a b;subst a b;rw[f] at c;simp only[Option.some.injEq,Obj.cells.injEq] at c;exact Cg r c.2.1
def Ch (v:Value) (n:Nat) (us:Nat->Nat->Value) (g:Nat):Prop:=v.ownBlock=some g∨∃ i r,i<n∧r<4∧(us i r).ownBlock=some g
theorem cj.blk {b:List ND} (h:cj w base v b us) {g:Nat} (a:Ch v b.length us g):base<=g∧g<w.heap.size:=by
 rcases a with a | ⟨c,d,e,f,a⟩;·exact h.row.lt g a
 ·exact (h.data c e d f).lt g a
theorem cj.fr {a:List ND} (h:cj w base v a us) (c:Fr S w w') (d:∀ g,Ch v a.length us g->¬ S g):cj w' base v a us :=
 ⟨am h.row c (fun g b=>d g (.inl b)),fun e f i j=>am (h.data e f i j) c (fun g b=>d g (.inr ⟨e,i,f,j,b⟩)),h.apart⟩
theorem cj.below {a:List ND} (h:cj w base v a us) (b:Below w.heap.size w w'):cj w' base v a us:=h.fr (S:=fun _=>False) (Fr.of_below b) (fun _ _ e=>e)
theorem bt {b a size:Nat} (h:w.ownsRow b e size v n xs) (c:a<=b):w.ownsRow a e size v n xs:=by
 refine⟨h.1,?_⟩;rcases h.2 with d | ⟨g,f,i,j,k,l⟩;·exact .inl d
 ·exact .inr ⟨g,f,i,j,Eo c k,l⟩
theorem cj.lower {a:Nat} {b:List ND} (h:cj w base v b us) (c:a<=base):cj w a v b us :=
 ⟨bt h.row c,fun d e f g=>bt (h.data d e f g) c,h.apart⟩
theorem cj.nil (w:World) (base:Nat) (us:Nat->Nat->Value):cj w base (.slice none 0 0) [] us :=
 ⟨World.ownsRow_nil _ _ _ _,fun b a=>absurd a (Nat.not_lt_zero _),fun b c d e a=>absurd a (Nat.not_lt_zero _)⟩
theorem cj.cell {a:List ND} (h:cj w base (.slice (some ⟨g,0,none⟩) n c) a us) {i j:Nat} (d:i<a.length) (e:j<6):w.cell? ⟨g,i*6+j,none⟩=(iI (a.getD i dN) (us i))[j]?:=by
 have f:=(cu (css:=fun i=>iI (a.getD i dN) (us i)) (m:=a.length) (fun i d=>ti _ _));rcases h.row.2 with ⟨b,_⟩ | ⟨o,p,q,b,_⟩;·simp at b
 ·have k:n=a.length:=(by simp at b;omega);have l:=h.row;subst k;rw[l.cellAt (i*6+j) (by omega)];exact f.2 i j d e
theorem cj.thaw {b:List ND} (h:cj w base (.slice (some ⟨g,0,none⟩) n c) b us) (j:Nat):w.frozen? ⟨g,j,none⟩=false:=by
 rcases h.row.2 with ⟨a,_⟩ | ⟨f,i,k,a,_⟩;·simp at a
 ·have d:n=b.length:=(by simp at a;omega);have e:=h.row;subst d;exact e.frozenAt j
theorem nC {b:Type} (l:List b) (x d:b) (i j:Nat) (c:i<l.length):(l.set i x).getD j d=if j=i then x else l.getD j d:=by
 by_cases a:j=i;·subst a;rw[if_pos rfl];simp[List.getD,c]
 ·rw[if_neg a];simp[List.getD,Fl (Ne.symm a)]
def BP (n:ND):Nat:=2+(n.l 0).length+(n.l 1).length+(n.l 2).length+(n.l 3).length
def Dz (k:Nat) (n:ND):ND:=⟨((k:Int) % 3) == 0,(k:Int)+1,fun r=>if r=0 then aa ae (CS (k+2) (n.l 0).length) else if r=1 then aa ae (CS (k+2+(n.l 0).length) (n.l 1).length) else if r=2 then aa ac (CT (k+2+(n.l 0).length+(n.l 1).length) (n.l 2).length) else if r=3 then aa ac (CT (k+2+(n.l 0).length+(n.l 1).length+(n.l 2).length) (n.l 3).length) else n.l r⟩
def CU:Nat->List ND->List ND
 | _,[]=>[]
 | k,n::r=>Dz k n::CU (k+BP n) r
def kT:Nat->List ND->Nat
 | k,[]=>k
 | k,n::r=>kT (k+BP n) r
def DN (k:Nat) (ns:List ND) (j:Nat):List ND:=CU k (ns.take j)++ns.drop j
theorem eB {size:Nat} (h:w.ownsRow base e size v n xs):∃ a c,v=.slice a n c:=by
 rcases h.2 with ⟨rfl,rfl⟩ | ⟨g,b,d,rfl,_⟩;·exact⟨none,0,rfl⟩
 ·exact⟨_,_,rfl⟩
theorem cH {a:Type} {cs:a->List Value} (b:∀ x,(cs x).length=1) (zs:List a):(aa cs zs).length=zs.length:=by rw[ay b];omega
def TN.nd (t:TN):ND:=⟨t.leaf,t.page,fun r=>if r=0 then aa ae t.keys else if r=1 then aa ae t.vals else if r=2 then aa ac t.over else if r=3 then aa ac t.kids else []⟩
theorem wL {a:List ND} {nd:ND}:az (fun b=>iI ((a++[nd]).getD b dN) (if b=a.length then u else us b)) (a++[nd]).length=az (fun b=>iI (a.getD b dN) (us b)) a.length++iI nd u:=by
 have c:(a++[nd]).length=a.length+1:=by simp
 rw[c,dv,cZ (css:=fun b=>iI (a.getD b dN) (us b)) (fun b d=>?_)]
 ·congr 1
  show iI ((a++[nd]).getD a.length dN) (if a.length=a.length then u else us a.length)=iI nd u;rw[if_pos rfl];simp[List.getD]
 ·show iI ((a++[nd]).getD b dN) (if b=a.length then u else us b)=iI (a.getD b dN) (us b);rw[if_neg (by omega)];simp[List.getD,EE d]
theorem wM (a:List ND) (nd:ND) (i:Nat):(a++[nd]).getD i dN=if i=a.length then nd else a.getD i dN:=by
 by_cases b:i=a.length;·rw[if_pos b,b];simp[List.getD]
 ·rw[if_neg b];by_cases c:i<a.length;·simp[List.getD,EE c]
  ·simp[List.getD,EB (by omega:a.length<=i),show ¬ i<a.length by omega,List.getElem?_eq_none (by simp;omega:[nd].length<=i - a.length)]
theorem cj.push {s w3:World} {b:List ND} {nd:ND} (h:cj s base v b us) (j:∀ g,Ch v b.length us g->g<M) (z:base<=M) (A:Fr (fun g=>M<=g) s w2)
  (k:∀ a,a<4->w2.ownsRow M (oP a) 1 (u a) (nd.l a).length (nd.l a)) (B:∀ a i,a<4->i<4->a≠i->∀ g,(u a).ownBlock=some g->(u i).ownBlock≠some g)
  (C:w3.ownsRow base 44 6 v' (b.length+1) (az (fun c=>iI (b.getD c dN) (us c)) b.length++iI nd u)) (D:w2.grownBy w3 v.ownBlock) :
  cj w3 base v' (b++[nd]) (fun c=>if c=b.length then u else us c):=by
 have p:=h.fr A (fun g d e=>by have:=j g d;omega);have t:=Fr.of_grown D (fun g e=>e);refine⟨?_,?_,?_⟩;·rw[wL,show (b++[nd]).length=b.length+1 by simp];exact C
 ·intro c q a f;rw[show (b++[nd]).length=b.length+1 by simp] at q;rw[wM];by_cases l:c=b.length;·rw[if_pos l];simp only[l,if_true];exact am (bt (k a f) z) t (fun g d e=>by have w:=(k a f).lt g d;have:=j g (.inl e);omega)
  ·rw[if_neg l];simp only[l,EO];have x:c<b.length:=(by omega);exact am (p.data c x a f) t (fun g d e=>gL p.row (p.data c x a f) g d e)
 ·intro c a r i q E f m y g d;rw[show (b++[nd]).length=b.length+1 by simp] at q E;by_cases n:c=b.length<;>by_cases o:r=b.length;·simp only[n,o,if_true] at d ⊢;exact B a i f m (fun e=>y ⟨by omega,e⟩) g d
  ·simp only[n,if_true] at d;simp only[o,EO];intro e;have w:=((k a f).lt g d).1;have:=j g (.inr ⟨r,i,by omega,m,e⟩);omega
  ·simp only[n,EO] at d;simp only[o,if_true];intro e;have w:=((k i m).lt g e).1;have:=j g (.inr ⟨c,a,by omega,f,d⟩);omega
  ·simp only[n,EO] at d;simp only[o,EO];exact h.apart c a r i (by omega) (by omega) f m y g d
theorem cj.app {d:List ND} (h:cj w base (.slice (some ⟨g,0,none⟩) n c) d us) {j q:Nat} (t:j<d.length) (x:q<4) {v':Value} {zs:List Value}
  (L:w2.ownsRow base (oP q) 1 v' zs.length zs) (M:w.grownBy w2 (us j q).ownBlock) (F:v'.ownBlock=(us j q).ownBlock∨∀ f,v'.ownBlock=some f->w.heap.size<=f) :
  cj (w2.setCell ⟨g,j*6+2+q,none⟩ v') base (.slice (some ⟨g,0,none⟩) n c) (d.set j ⟨(d.getD j dN).leaf,(d.getD j dN).page,fun a=>if a=q then zs else (d.getD j dN).l a⟩) (fun b a=>if b=j∧a=q then v' else us b a)∧Fr (fun f=>f=g∨(us j q).ownBlock=some f) w (w2.setCell ⟨g,j*6+2+q,none⟩ v'):=by
 have z:=Fr.of_grown M (fun f e=>e);have A:Fr (fun f=>f=g) w2 (w2.setCell ⟨g,j*6+2+q,none⟩ v'):=af w2 g _ v';have N:n=d.length:=by
  rcases h.row.2 with ⟨B,_⟩ | ⟨X,Y,Z,B,_⟩;·simp at B
  ·simp at B;omega
 have aa:=h.row.lt g rfl;have O:=am h.row z (fun f i e=>gL h.row (h.data j t q x) f e i);have P:v'.ownBlock≠some g:=by
  rcases F with e | e;·rw[e];intro o;exact gL h.row (h.data j t q x) g o rfl
  ·intro o;have:=e g o;omega
 have G:∀ b a,b<d.length->a<4->¬ (b=j∧a=q)->∀ f,(us b a).ownBlock=some f->v'.ownBlock≠some f:=fun b a k r y f i=>by
  rcases F with e | e;·rw[e];exact h.apart b a j q k t r x y f i
  ·intro o;have:=e f o;have:=(h.data b k a r).lt f i;omega
 subst N;have Q:=(O.stored (j*6+2+q) v').1;refine⟨⟨?_,?_,?_⟩,(z.weak (fun f e=>.inr e)).trans (A.weak (fun f e=>.inl e))⟩
 ·rw[EP];have R:(az (fun b=>iI (d.getD b dN) (us b)) d.length).set (j*6+2+q) v'=az (fun b=>iI ((d.set j ⟨(d.getD j dN).leaf,(d.getD j dN).page,fun a=>if a=q then zs else (d.getD j dN).l a⟩).getD b dN) (fun a=>if b=j∧a=q then v' else us b a)) d.length:=by
   have S:=cu (css:=fun b=>iI (d.getD b dN) (us b)) (m:=d.length) (fun b k=>ti _ _);have i:=cu (css:=fun b=>iI ((d.set j ⟨(d.getD j dN).leaf,(d.getD j dN).page,fun a=>if a=q then zs else (d.getD j dN).l a⟩).getD b dN) (fun a=>if b=j∧a=q then v' else us b a)) (m:=d.length) (fun b k=>ti _ _);refine List.ext_getElem? (fun p=>?_);by_cases ab:p<d.length*6
   ·have k:p / 6<d.length:=(by omega);have H:p % 6<6:=(by omega);have e:=i.2 (p / 6) (p % 6) k H;have o:=S.2 (p / 6) (p % 6) k H;rw[show p / 6*6+p % 6=p by omega] at e o;rw[e];show _=(iI ((d.set j _).getD (p / 6) dN) (fun a=>if p / 6=j∧a=q then v' else us (p / 6) a))[p % 6]?;rw[nC _ _ _ _ _ t];by_cases s:p / 6=j
    ·rw[if_pos s];have l:p % 6=0∨p % 6=1∨p % 6=2∨p % 6=3∨p % 6=4∨p % 6=5:=(by omega);by_cases I:p=j*6+2+q;·rw[I,List.getElem?_set_self (by omega),<-I];have T:p % 6=2+q:=(by omega);rw[T];have U:q=0∨q=1∨q=2∨q=3:=(by omega);rcases U with rfl | rfl | rfl | rfl<;>simp[iI,s]
     ·rw[Fl (by omega),o,s];rcases l with l | l | l | l | l | l<;>rw[l]<;>simp[iI]<;>intro ac<;>omega
    ·rw[if_neg s,Fl (by omega),o];simp[s]
   ·rw[List.getElem?_eq_none (by simp only[EP];omega),List.getElem?_eq_none (by omega)]
  rw[<-R];exact Q
 ·intro b k a r;rw[EP] at k;rw[nC _ _ _ _ _ t];by_cases l:b=j∧a=q;·obtain⟨rfl,rfl⟩:=l;simp only[if_true,and_self];exact am L A (fun f i e=>by rw[e] at i;exact P i)
  ·have V:w2.ownsRow base (oP a) 1 (us b a) ((d.getD b dN).l a).length ((d.getD b dN).l a):=am (h.data b k a r) z (fun f i e=>h.apart b a j q k t r x l f i e);have J:=am V A (fun f i e=>by rw[e] at i;exact gL h.row (h.data b k a r) g i rfl);simp only[l,EO];by_cases s:b=j;·subst s;have W:¬ a=q:=fun e=>l ⟨rfl,e⟩;simp only[if_true,W,EO];exact J
   ·simp only[s,EO];exact J
 ·intro b a C D k E r K y f i;rw[EP] at k E;by_cases u:b=j∧a=q<;>by_cases v:C=j∧D=q;·exact absurd ⟨u.1.trans v.1.symm,u.2.trans v.2.symm⟩ y
  ·simp only[u,and_self,if_true] at i;simp only[v,EO];exact fun e=>G C D E K v f e i
  ·simp only[u,EO] at i;simp only[v,and_self,if_true];exact G b a k r u f i
  ·simp only[u,EO] at i;simp only[v,EO];exact h.apart b a C D k E r K y f i
structure LL (w:World) (M:Nat) (u:Nat->Value) (l:Nat->List Value):Prop where
 row:∀ r,r<4->w.ownsRow M (oP r) 1 (u r) (l r).length (l r)
 apart:∀ r s,r<4->s<4->r≠s->∀ g,(u r).ownBlock=some g->(u s).ownBlock≠some g
theorem LL.fr (h:LL w M u l) (d:Fr S w w') (e:∀ g,M<=g->g<w.heap.size->¬ S g):LL w' M u l :=
 ⟨fun a b=>am (h.row a b) d (fun g c=>e g ((h.row a b).lt g c).1 ((h.row a b).lt g c).2),h.apart⟩
theorem LL.below (h:LL w M u l) (a:Below w.heap.size w w'):LL w' M u l:=h.fr (S:=fun _=>False) (Fr.of_below a) (fun _ _ _ e=>e)
theorem LL.nil (w:World) (M:Nat):LL w M (fun _=>.slice none 0 0) (fun _=>[]) :=
 ⟨fun a c=>World.ownsRow_nil _ _ _ _,fun a d _ _ _ g b=>by simp[Value.ownBlock] at b⟩
theorem LL.app {zs:List Value} (h:LL w M u l) (n:q<4) (s:w2.ownsRow M (oP q) 1 v' zs.length zs) (t:w.grownBy w2 (u q).ownBlock) (v:v'.ownBlock=(u q).ownBlock∨∀ b,v'.ownBlock=some b->w.heap.size<=b) :
  LL w2 M (fun a=>if a=q then v' else u a) (fun a=>if a=q then zs else l a):=by
 have x:=Fr.of_grown t (fun b e=>e);have o:∀ a,a<4->a≠q->∀ b,(u a).ownBlock=some b->v'.ownBlock≠some b:=fun a c j b p=>by
  rcases v with e | e;·rw[e];exact h.apart a q c n j b p
  ·intro y;have:=e b y;have:=(h.row a c).lt b p;omega
 refine⟨fun a c=>?_,fun a k c r j g d=>?_⟩
 ·by_cases m:a=q;·subst m;simp only[if_true];exact s
  ·simp only[m,EO];exact am (h.row a c) x (fun g d e=>h.apart a q c n m g d e)
 ·by_cases f:a=q<;>by_cases i:k=q;·omega
  ·simp only[f,if_true] at d;simp only[i,EO];exact fun e=>o k r i g e d
  ·simp only[f,EO] at d;simp only[i,if_true];exact o a c f g d
  ·simp only[f,EO] at d;simp only[i,EO];exact h.apart a k c r j g d
theorem gv {a b c d e f:Value} {t:TypeId} (h:w.heap[N]?=some (.cells #[a,b,c,d,e,f] t)):w.cell? ⟨N,0,none⟩=some a∧w.cell? ⟨N,1,none⟩=some b∧w.cell? ⟨N,2,none⟩=some c∧w.cell? ⟨N,3,none⟩=some d∧w.cell? ⟨N,4,none⟩=some e∧w.cell? ⟨N,5,none⟩=some f:=by
 refine⟨?_,?_,?_,?_,?_,?_⟩<;>simp[World.cell?,h]
theorem Y9 {t:Nat} {cs:Array Value} (h:w.heap[M]?=some (.cells cs t)) (j:Nat):w.frozen? ⟨M,j,none⟩=false:=by simp[World.frozen?,h]
theorem lQ {a b c:Value} {t:TypeId} (h:w.heap[N]?=some (.cells #[a,b,c] t)):w.cell? ⟨N,0,none⟩=some a∧w.cell? ⟨N,1,none⟩=some b∧w.cell? ⟨N,2,none⟩=some c:=by
 refine⟨?_,?_,?_⟩<;>simp[World.cell?,h]
theorem fa {x:Obj} (h:w.heap[N]?=some x) (a:Below w.heap.size w w'):w'.heap[N]?=some x:=(a.block N (Za h)).trans h
theorem fB {x:Obj} (h:w.heap[N]?=some x) (a:Fr S w w') (b:¬ S N):w'.heap[N]?=some x:=(a.block N (Za h) b).trans h
structure fC (w' wr:World) (N:Nat) (lf:Bool) (p:Int) (u:Nat->Value) (l:Nat->List Value):Prop where
 box:wr.heap[N]?=some (.cells #[.bool lf,.int .i64 p,u 0,u 1,u 2,u 3] 44)
 ll:LL wr (N+1) u l
 fr:Fr (fun g=>N<=g) w' wr
theorem fC.below {b:World} (h:fC w' wr N lf p u l) (a:Below wr.heap.size wr b):fC w' b N lf p u l :=
 ⟨fa h.box a,h.ll.below a,h.fr.trans (Fr.of_below a)⟩
theorem fC.lt (h:fC w' wr N lf p u l):N<wr.heap.size:=Za h.box
theorem fC.app {zs:List Value} (h:fC w' wr N lf p u l) (c:q<4) (j:w2.ownsRow (N+1) (oP q) 1 v' zs.length zs) (d:wr.grownBy w2 (u q).ownBlock) (k:v'.ownBlock=(u q).ownBlock∨∀ a,v'.ownBlock=some a->wr.heap.size<=a) :
  fC w' (w2.setCell ⟨N,2+q,none⟩ v') N lf p (fun b=>if b=q then v' else u b) (fun b=>if b=q then zs else l b):=by
 have m:=h.ll.app c j d k;have f:Fr (fun a=>a=N) w2 (w2.setCell ⟨N,2+q,none⟩ v'):=af w2 N _ v';have i:=Fr.of_grown d (fun a e=>e);have n:=fB h.box i (fun e=>by have:=((h.ll.row q c).lt N e).1;omega);refine⟨?_,m.fr f (fun g r _ e=>by omega),(h.fr.trans (i.weak (fun a e=>by have:=((h.ll.row q c).lt a e).1;omega))).trans (f.weak (fun a e=>by omega))⟩;have o:q=0∨q=1∨q=2∨q=3:=by omega
 rcases o with rfl | rfl | rfl | rfl<;>simp[World.setCell,Array.getElem?_modify,n]
theorem px {a:Type} {cs:a->List Value} (zs:List a) (d:a) (k:Nat) (b:k<zs.length):aa cs (zs.take (k+1))=aa cs (zs.take k)++cs (zs.getD k d):=by
 have e:zs.getD k d=zs[k]:=by simp[List.getD,b]
 rw[ER b,aa,List.flatMap_append,e]
 congr 1
 simp only[List.flatMap_cons,List.flatMap_nil,EN]
def xM (t:T) (k:Nat):Nat->List Value:=fun r=>if r=0 then aa ae (t.keys.take k) else if r=1 then aa ae (t.vals.take k) else if r=2 then aa ac (t.over.take k) else []
theorem fD {size:Nat} {k:Nat} (h:w.ownsRow base e size v (k+1) xs):∃ g a,v=.slice (some ⟨g,0,none⟩) (k+1) a:=by
 rcases h.2 with ⟨_,b⟩ | ⟨g,a,c,e,_⟩;·omega
 ·exact⟨g,a,e⟩
theorem jM {a:Option Addr} (h:w.ownsRow M (oP q) 1 (.slice a n c) n xs) {S:Nat} (b:(Value.slice a n c).ownBlock=some S) {f g i:Value} (d:w.heap[S]?=some (.cells #[f,g,i] 75)):False:=by
 rcases h.2 with ⟨e,_⟩ | ⟨k,l,m,e,_,j,_⟩;·rw[e] at b;simp[Value.ownBlock] at b
 ·rw[e] at b;simp[Value.ownBlock] at b;subst b;rw[j] at d;simp only[Option.some.injEq,Obj.cells.injEq] at d;have:=d.2.1;unfold oP at this;split at this<;>exact absurd this (by decide)
set_option maxHeartbeats 8000000 in
theorem wN {P:Nat->Prop} {t:T} {L:Nat} {a:Option Addr} (h:gI w P t L a n c) (bl:t.vals.length=n) (bm:t.over.length=n) (cU:n<=1000) (aR:∀ f,P f->f<base) (w':World) (aS:Below base w w') (aT:Option Addr) (on aU:Nat) (I:List ND) (us:Nat->Nat->Value) (bn:cj w' base (.slice aT on aU) I us) (bo:on=I.length) (cV:on<=10000000) (bp:base<=w'.heap.size) :
  Calls prog 116 #[.pointer (some ⟨L,0,none⟩),.slice aT on aU] w' fun e w2=>∃ bq br b2,e=.returned (.slice bq (on+1) br)∧cj w2 base (.slice bq (on+1) br) (I++[TN.nd ⟨true,t.page,t.keys,t.vals,t.over,[]⟩]) b2∧Fr (fun b=>base<=b) w' w2:=by
 have b3:=aR L h.at';have bs:=(aS.block L b3).trans h.box;obtain⟨aV,bu⟩:=au bs;have aW:L<w'.heap.size:=by omega
 have J:=h.row.keep (fun f b4=>aS.block f (aR f b4)) (fun f h=>h);obtain⟨bv,bw,bx,bz,bA⟩:=info_parts gg;obtain⟨b5,b6,b7,b8,b9⟩:=info_parts du;obtain⟨b',ca,cb,cc,cd⟩:=info_parts gh;have D:Hid (t.keys.length=n∧t.vals.length=n∧t.over.length=n):=⟨h.len.symm,bl,bm⟩;have cW:=J.2.1;have ce:=J.2.2.1;unfold maxLen at ce;obtain⟨N,ar⟩:∃ N,N=w'.heap.size:=⟨_,rfl⟩;have cf:Hid (∀ wr,Fr (fun g=>N<=g) w' wr->∀ b,b<n->∃ f,a=some ⟨f,0,none⟩∧f<wr.heap.size∧wr.cell? ⟨f,b*3,none⟩=some (.string (t.keys.getD b .empty))∧wr.cell? ⟨f,b*3+1,none⟩=some (.string (t.vals.getD b .empty))∧wr.cell? ⟨f,b*3+2,none⟩=some (.int .i64 (t.over.getD b 0))):=fun wr bB b bC=>by obtain⟨f,e,cg,ch⟩:=J.2.2.2 (by omega);have cX:=aR f cg;have bD:b<(t.keys.zip (t.vals.zip t.over)).length:=(by rw[J.1];exact bC);have ci:(t.keys.zip (t.vals.zip t.over)).getD b (ByteArray.empty,ByteArray.empty,0)=(t.keys.getD b .empty,t.vals.getD b .empty,t.over.getD b 0):=(by obtain⟨F,K,aX⟩:=D.out;simp[List.getD,List.getElem?_zip_eq_some,Eh (show b<t.keys.length by omega),Eh (show b<t.vals.length by omega),Eh (show b<t.over.length by omega),Eh bD]);have aY:∀ d,d<3->wr.cell? ⟨f,b*3+d,none⟩=(aB (t.keys.getD b .empty,t.vals.getD b .empty,t.over.getD b 0))[d]?:=fun d aG=>(by rw[Ep (w:=w') (a:=⟨f,b*3+d,none⟩) (bB.block f (by omega) (by omega)),ch (b*3+d) (by omega),bI uo (ByteArray.empty,ByteArray.empty,0) _ b d bD aG,ci]);exact⟨f,e,by have:=bB.size;omega,by simpa[aB] using aY 0 (by omega),by simpa[aB] using aY 1 (by omega),by simpa[aB] using aY 2 (by omega)⟩
 have av:=hidI bn;have bE:=hidI bo;have aZ:Hid (base<=N):=by rw[ar];exact bp
 have bF:=hidI ar.symm;have aH:Below w'.heap.size w' (w'.alloc (.cells (Z0 true t.page) 44)):=Zb _ _;have a0:=Ej w' (.cells (Z0 true t.page) 44);rw[<-ar] at a0;have aI:Hid (fC w' (w'.alloc (.cells (Z0 true t.page) 44)) N true t.page (fun _=>.slice none 0 0) (fun _=>[])):=⟨a0,LL.nil _ _,Fr.of_below aH⟩;have a1:=(aH.cell (p:=⟨L,0,none⟩) aW).trans aV;have a2:=(aH.cell (p:=⟨L,1,none⟩) aW).trans bu;have a3:L<(w'.alloc (.cells (Z0 true t.page) 44)).heap.size:=by simp;omega
 clear h bs J aS bn bo bp bl bm a0 aH;obtain⟨k,bG⟩:∃ k,k=t.page:=⟨_,rfl⟩;rw[<-bG] at aV aI a1 a2 a3 ⊢;clear bG;go_enter func116,ntmps116;go_upto_region 2 with fail
 rw[<-ar];generalize w'.alloc (.cells (Z0 true k) 44)=cY at aI a1 a2 a3 ⊢;clear ar aV bu aW;go_wp2_with fail
 go_loopw [7,19] (fun _ G wr=>∃ (b:Nat) (u:Nat->Value),b<=n∧G=.int .i64 b∧Hid (u 3=.slice none 0 0∧fC w' wr N true k u (xM t b))) (fun _ G _=>n - (intOf G).toNat)
 case atStart=>exact⟨0,fun _=>.slice none 0 0,En _,rfl,rfl,by have e:xM t 0=fun _=>[]:=(by funext d;simp[xM,aa]);rw[e];exact aI.out⟩
 case round =>
  clear aI a1 a2 a3;obtain⟨b,u,bC,rfl,O⟩:=hrel;have ag:=hidI O.out.1;by_cases ck:b<n
  ·obtain⟨f,rfl,cl,Q,R,U⟩:=cf.out wr O.out.2.fr b ck;obtain⟨m,a4⟩:∃ aw,aw=t.keys.getD b .empty:=⟨_,rfl⟩;obtain⟨r,a5⟩:∃ aw,aw=t.vals.getD b .empty:=⟨_,rfl⟩;obtain⟨s,a6⟩:∃ aw,aw=t.over.getD b 0:=⟨_,rfl⟩;rw[<-a4] at Q;rw[<-a5] at R;rw[<-a6] at U;have bH:Hid (xM t (b+1)=(fun d=>if d=2 then aa ac (t.over.take b)++[.int .i64 s] else (fun d=>if d=1 then aa ae (t.vals.take b)++[.string r] else (fun d=>if d=0 then aa ae (t.keys.take b)++[.string m] else (xM t b) d) d) d)):=by
    obtain⟨F,K,aX⟩:=D.out;funext d;unfold xM;rw[px t.keys ByteArray.empty b (by omega),px t.vals ByteArray.empty b (by omega),px t.over 0 b (by omega),<-a4,<-a5,<-a6];by_cases ax:d=0;·subst ax;rfl
    ·by_cases ay:d=1;·subst ay;rfl
     ·by_cases aA:d=2;·subst aA;rfl
      ·simp[ax,ay,aA]
   clear a4 a5 a6;have ah:Below wr.heap.size wr (wr.alloc (.cells #[.string m,.string r,.int .i64 s] 75)):=Zb _ _;have i:=Ej wr (.cells #[.string m,.string r,.int .i64 s] 75);have ai:=hidI (O.out.2.below ah);have cm:=O.out.2.lt;obtain⟨S,a7⟩:∃ S,S=wr.heap.size:=⟨_,rfl⟩;rw[<-a7] at i;have cZ:N<S:=(by omega);clear O ah;go_upto_region 5 with fail
   rw[<-a7];clear a7;generalize wr.alloc (.cells #[.string m,.string r,.int .i64 s] 75)=V at i ai ⊢;clear Q R U cl cm;have aj:V.ownsRow (N+1) 9 1 (u 0) b (aa ae (t.keys.take b)):=by
    have W:=ai.out.ll.row 0 (by omega);have aC:(aa ae (t.keys.take b)).length=b:=(by rw[cH jb,Eu];have:=D.out;omega);have aD:V.ownsRow (N+1) 9 1 (u 0) (aa ae (t.keys.take b)).length (aa ae (t.keys.take b)):=W
    rwa [aC] at aD
   obtain⟨x,a8,y⟩:=eB aj;rw[y] at aj;have bJ:=(gv ai.out.box);have a9:V.cell? ⟨N,2,none⟩=some (.slice x b a8):=(by rw[<-y];exact bJ.2.2.1);clear bJ;obtain⟨Q,R,U⟩:=lQ i;have cn:=ai.out.lt;have co:=Za i;have aJ:Below V.heap.size V (V.alloc (.cells #[.string m] 9)):=Zb _ _;have a':=ai.out.below aJ;have bK:=cell_one_new V (.string m) 9;have bL:=a'.box;have bM:∀ g,(u 0).ownBlock=some g->N+1<=g:=fun g v=>(by rw[y] at v;exact (aj.lt g v).1);go_upto_region 6 with (at_builtin;refine ak _ rfl _ _ 42 rfl (N+1) 9 bv _ 1 16 underlying42 bw bx bz bA rfl (by decide) _ _ _ rfl (aj.alloc _) ⟨V.heap.size,0,none⟩ 1 1 [.string m] rfl rfl bK (by simp[Value.oneCell']) (by unfold maxLen;omega) (by omega) (by simp;omega) ?_;intro v' aK l j E;obtain⟨al,am,rfl⟩:=fD l;have o:=fB bL (Fr.of_grown (S:=fun f=>(Value.slice x b a8).ownBlock=some f) j (fun f e=>e)) (fun e=>by have:=bM N (by rw[y];exact e);omega);have cp:=(gv o).2.2.1;have cq:=Y9 o 2;have cr:N<aK.heap.size:=(Za o))
   have an:Hid (fC w' (aK.setCell ⟨N,2,none⟩ (.slice (some ⟨al,0,none⟩) (b+1) am)) N true k (fun d=>if d=0 then .slice (some ⟨al,0,none⟩) (b+1) am else u d) (fun d=>if d=0 then aa ae (t.keys.take b)++[.string m] else (xM t b) d)):=by
    refine a'.app (q:=0) (zs:=aa ae (t.keys.take b)++[.string m]) (by omega) ?_ ?_ ?_;·rw[El,show (aa ae (t.keys.take b)).length=b by rw[cH jb,Eu];have:=D.out;omega];exact l
    ·show World.grownBy _ _ (u 0).ownBlock;rw[y];exact j
    ·show _=(u 0).ownBlock∨_;rw[y];exact E
   have ba:(aK.setCell ⟨N,2,none⟩ (.slice (some ⟨al,0,none⟩) (b+1) am)).heap[S]?=some (.cells #[.string m,.string r,.int .i64 s] 75):=(by refine fB (fB (fa i aJ) (Fr.of_grown (S:=fun f=>(Value.slice x b a8).ownBlock=some f) j (fun f e=>e)) (fun e=>?_)) (af _ N 2 _) (by omega);have W:=fa i aJ;exact jM (q:=0) aj e i);clear l j E o cp cq cr a' bL bM bK aJ a9 aj Q R U i ai cn co;generalize aK.setCell ⟨N,2,none⟩ (.slice (some ⟨al,0,none⟩) (b+1) am)=X at an ba ⊢;have i:=ba;clear ba;have ao:X.ownsRow (N+1) 9 1 (u 1) b (aa ae (t.vals.take b)):=by
    have W:=an.out.ll.row 1 (by omega);have aC:(aa ae (t.vals.take b)).length=b:=(by rw[cH jb,Eu];have:=D.out;omega);have aD:X.ownsRow (N+1) 9 1 (u 1) (aa ae (t.vals.take b)).length (aa ae (t.vals.take b)):=W
    rwa [aC] at aD
   obtain⟨z,bb,A⟩:=eB ao;rw[A] at ao;have bN:=(gv an.out.box);have bc:X.cell? ⟨N,3,none⟩=some (.slice z b bb):=(by rw[<-A];exact bN.2.2.2.1);clear bN;obtain⟨Q,R,U⟩:=lQ i;have cs:=an.out.lt;have ct:=Za i;have aL:Below X.heap.size X (X.alloc (.cells #[.string r] 9)):=Zb _ _;have bd:=an.out.below aL;have bO:=cell_one_new X (.string r) 9;have bP:=bd.box;have bQ:∀ g,(u 1).ownBlock=some g->N+1<=g:=fun g v=>(by rw[A] at v;exact (ao.lt g v).1);go_upto_region 7 with (at_builtin;refine ak _ rfl _ _ 42 rfl (N+1) 9 bv _ 1 16 underlying42 bw bx bz bA rfl (by decide) _ _ _ rfl (ao.alloc _) ⟨X.heap.size,0,none⟩ 1 1 [.string r] rfl rfl bO (by simp[Value.oneCell']) (by unfold maxLen;omega) (by omega) (by simp;omega) ?_;intro v' w2 l j E;obtain⟨aE,F,rfl⟩:=fD l;have o:=fB bP (Fr.of_grown (S:=fun f=>(Value.slice z b bb).ownBlock=some f) j (fun f e=>e)) (fun e=>by have:=bQ N (by rw[A];exact e);omega);have cu:=(gv o).2.2.2.1;have cv:=Y9 o 3;have cw:N<w2.heap.size:=(Za o))
   have ap:Hid (fC w' (w2.setCell ⟨N,3,none⟩ (.slice (some ⟨aE,0,none⟩) (b+1) F)) N true k (fun d=>if d=1 then .slice (some ⟨aE,0,none⟩) (b+1) F else (fun d=>if d=0 then .slice (some ⟨al,0,none⟩) (b+1) am else u d) d) (fun d=>if d=1 then aa ae (t.vals.take b)++[.string r] else (fun d=>if d=0 then aa ae (t.keys.take b)++[.string m] else (xM t b) d) d)):=by
    refine bd.app (q:=1) (zs:=aa ae (t.vals.take b)++[.string r]) (by omega) ?_ ?_ ?_;·rw[El,show (aa ae (t.vals.take b)).length=b by rw[cH jb,Eu];have:=D.out;omega];exact l
    ·show World.grownBy _ _ (u 1).ownBlock;rw[A];exact j
    ·show _=(u 1).ownBlock∨_;rw[A];exact E
   have be:(w2.setCell ⟨N,3,none⟩ (.slice (some ⟨aE,0,none⟩) (b+1) F)).heap[S]?=some (.cells #[.string m,.string r,.int .i64 s] 75):=(by refine fB (fB (fa i aL) (Fr.of_grown (S:=fun f=>(Value.slice z b bb).ownBlock=some f) j (fun f e=>e)) (fun e=>?_)) (af _ N 3 _) (by omega);have W:=fa i aL;exact jM (q:=1) ao e i);clear l j E o cu cv cw bd bP bQ bO aL bc ao Q R U i an cs ct;generalize w2.setCell ⟨N,3,none⟩ (.slice (some ⟨aE,0,none⟩) (b+1) F)=Y at ap be ⊢;have i:=be;clear be;have aq:Y.ownsRow (N+1) 2 1 (u 2) b (aa ac (t.over.take b)):=by
    have W:=ap.out.ll.row 2 (by omega);have aC:(aa ac (t.over.take b)).length=b:=(by rw[cH lh,Eu];have:=D.out;omega);have aD:Y.ownsRow (N+1) 2 1 (u 2) (aa ac (t.over.take b)).length (aa ac (t.over.take b)):=W
    rwa [aC] at aD
   obtain⟨B,bf,C⟩:=eB aq;rw[C] at aq;have bR:=(gv ap.out.box);have bg:Y.cell? ⟨N,4,none⟩=some (.slice B b bf):=(by rw[<-C];exact bR.2.2.2.2.1);clear bR;obtain⟨Q,R,U⟩:=lQ i;have cx:=ap.out.lt;have cy:=Za i;have aM:Below Y.heap.size Y (Y.alloc (.cells #[.int .i64 s] 2)):=Zb _ _;have bh:=ap.out.below aM;have bS:=cell_one_new Y (.int .i64 s) 2;have bT:=bh.box;have bU:∀ g,(u 2).ownBlock=some g->N+1<=g:=fun g v=>(by rw[C] at v;exact (aq.lt g v).1);go_upto_region 8 with (at_builtin;refine ak _ rfl _ _ 29 rfl (N+1) 2 b5 _ 1 8 underlying29 b6 b7 b8 b9 rfl (by decide) _ _ _ rfl (aq.alloc _) ⟨Y.heap.size,0,none⟩ 1 1 [.int .i64 s] rfl rfl bS (by simp[Value.oneCell']) (by unfold maxLen;omega) (by omega) (by simp;omega) ?_;intro v' aN l j E;obtain⟨aO,K,rfl⟩:=fD l;have o:=fB bT (Fr.of_grown (S:=fun f=>(Value.slice B b bf).ownBlock=some f) j (fun f e=>e)) (fun e=>by have:=bU N (by rw[C];exact e);omega);have cz:=(gv o).2.2.2.2.1;have cA:=Y9 o 4;have cB:N<aN.heap.size:=(Za o))
   have bi:Hid (fC w' (aN.setCell ⟨N,4,none⟩ (.slice (some ⟨aO,0,none⟩) (b+1) K)) N true k (fun d=>if d=2 then .slice (some ⟨aO,0,none⟩) (b+1) K else (fun d=>if d=1 then .slice (some ⟨aE,0,none⟩) (b+1) F else (fun d=>if d=0 then .slice (some ⟨al,0,none⟩) (b+1) am else u d) d) d) (fun d=>if d=2 then aa ac (t.over.take b)++[.int .i64 s] else (fun d=>if d=1 then aa ae (t.vals.take b)++[.string r] else (fun d=>if d=0 then aa ae (t.keys.take b)++[.string m] else (xM t b) d) d) d)):=by
    refine bh.app (q:=2) (zs:=aa ac (t.over.take b)++[.int .i64 s]) (by omega) ?_ ?_ ?_;·rw[El,show (aa ac (t.over.take b)).length=b by rw[cH lh,Eu];have:=D.out;omega];exact l
    ·show World.grownBy _ _ (u 2).ownBlock;rw[C];exact j
    ·show _=(u 2).ownBlock∨_;rw[C];exact E
   have bj:(aN.setCell ⟨N,4,none⟩ (.slice (some ⟨aO,0,none⟩) (b+1) K)).heap[S]?=some (.cells #[.string m,.string r,.int .i64 s] 75):=(by refine fB (fB (fa i aM) (Fr.of_grown (S:=fun f=>(Value.slice B b bf).ownBlock=some f) j (fun f e=>e)) (fun e=>?_)) (af _ N 4 _) (by omega);have W:=fa i aM;exact jM (q:=2) aq e i);clear l j E o cz cA cB bh bT bU bS aM bg aq Q R U i ap cx cy;generalize aN.setCell ⟨N,4,none⟩ (.slice (some ⟨aO,0,none⟩) (b+1) K)=cC at bi bj ⊢;have i:=bj;clear bj;obtain⟨aP,cD⟩:∃ aP:Nat->Value,Hid (aP 3=.slice none 0 0∧fC w' cC N true k aP (xM t (b+1))):=(by refine⟨_,And.intro ?_ (by rw[bH.out];exact bi.out)⟩;exact ag.out);clear bi i bH ag;go_wp2_with fail
   go_roundw
   case rel=>exact⟨b+1,aP,by omega,by go_num,cD⟩
   case measure=>simp[intOf];omega
  ·obtain rfl:b=n:=(by omega);have cE:xM t b=(TN.nd ⟨true,k,t.keys,t.vals,t.over,[]⟩).l:=by
    obtain⟨F,K,aX⟩:=D.out;funext d;unfold xM TN.nd;rw[Ey (by omega),Ey (by omega),Ey (by omega)];simp only[aa,List.flatMap_nil];by_cases ax:d=0;·simp[ax]
    ·by_cases ay:d=1;·simp[ay]
     ·by_cases aA:d=2;·simp[aA]
      ·by_cases bV:d=3;·simp[bV]
       ·simp[ax,ay,aA,bV]
   have H:=O.out.2;have ag:=O.out.1;clear O;have aQ:∀ d,d<3->(xM t b d).length=b:=fun d aG=>by
    obtain⟨F,K,aX⟩:=D.out;have:d=0∨d=1∨d=2:=(by omega);rcases this with rfl | rfl | rfl;·show (aa ae (t.keys.take b)).length=b;rw[cH jb,Eu];omega
    ·show (aa ae (t.vals.take b)).length=b;rw[cH jb,Eu];omega
    ·show (aa ac (t.over.take b)).length=b;rw[cH lh,Eu];omega
   obtain⟨x,Z,y⟩:=eB (H.ll.row 0 (by omega));obtain⟨z,ab,A⟩:=eB (H.ll.row 1 (by omega));obtain⟨B,ad,C⟩:=eB (H.ll.row 2 (by omega));rw[aQ 0 (by omega)] at y;rw[aQ 1 (by omega)] at A;rw[aQ 2 (by omega)] at C;have bk:=H.box;rw[y,A,C,ag] at bk;obtain⟨a9,bc,bg,cF,cG,cI⟩:=gv bk;have c0:=H.lt;have ah:Below wr.heap.size wr (wr.alloc (.cells (Zs true k x b Z z b ab B b ad none 0 0) 44)):=Zb _ _;have bW:=av.out.fr H.fr (fun g v e=>by have:=av.out.blk v;have:=bF.out;omega);have J:wr.ownsRow base 44 6 (.slice aT on aU) on (az (fun G=>iI (I.getD G dN) (us G)) I.length):=by
    obtain⟨bX,cJ⟩:∃ bX,bX=az (fun G=>iI (I.getD G dN) (us G)) I.length:=⟨_,rfl⟩;have bY:=bW.row;rw[<-cJ] at bY ⊢
    rwa [<-bE.out] at bY
   have bZ:=fv wr (.bool true) (.int .i64 k) (.slice x b Z) (.slice z b ab) (.slice B b ad) (.slice none 0 0) 44;have c1:base<=wr.heap.size:=(by have:=aZ.out;omega);have b0:=(H.ll.below ah);have b1:=H.fr.trans (Fr.of_below ah);have aF:Hid (LL (wr.alloc (.cells (Zs true k x b Z z b ab B b ad none 0 0) 44)) (N+1) u (xM t b)∧Fr (fun g=>N<=g) w' (wr.alloc (.cells (Zs true k x b Z z b ab B b ad none 0 0) 44))):=⟨b0,b1⟩;have cK:Hid (u 0=.slice x b Z∧u 1=.slice z b ab∧u 2=.slice B b ad∧u 3=.slice none 0 0):=⟨y,A,C,ag⟩;clear b0 b1 H bW bk y A C ag aQ;go_wp2_with (at_builtin;refine ak _ rfl _ _ 23 rfl base 44 b' _ 6 112 underlying23 ca cb cc cd rfl (by decide) _ _ _ rfl (J.alloc _) ⟨wr.heap.size,0,none⟩ 1 1 [.bool true,.int .i64 k,.slice x b Z,.slice z b ab,.slice B b ad,.slice none 0 0] rfl rfl bZ (by simp[Value.oneCell']) (by unfold maxLen;omega) (by omega) (by simp;omega) ?_;intro v' cL l j E;obtain⟨cM,cN,rfl⟩:=fD l)
   obtain⟨cO,cP,cQ,cR⟩:=cK.out;have cS:=cj.push (nd:=TN.nd ⟨true,k,t.keys,t.vals,t.over,[]⟩) (u:=u) (M:=N) (v':=.slice (some ⟨cM,0,none⟩) (on+1) cN) av.out (fun g v=>by have:=av.out.blk v;have:=bF.out;omega) aZ.out aF.out.2 (fun d aG=>by rw[<-cE];exact bt (aF.out.1.row d aG) (by omega)) aF.out.1.apart (by have e:iI (TN.nd ⟨true,k,t.keys,t.vals,t.over,[]⟩) u=[.bool true,.int .i64 k,.slice x b Z,.slice z b ab,.slice B b ad,.slice none 0 0]:=(by unfold iI;rw[cO,cP,cQ,cR];rfl);rw[e,show I.length+1=on+1 by have:=bE.out;omega];exact l) j;have cT:Fr (fun q=>base<=q) w' cL:=(aF.out.2.weak (fun q e=>by have:=aZ.out;omega)).trans (Fr.of_grown j (fun q e=>(av.out.row.lt q e).1));clear l j E bZ J a9 bc bg cF cG cI aF ah;go_ret;exact⟨_,_,_,rfl,cS,cT⟩
end Go.Proofs.YtggmghkcdfjdoaaGreat
