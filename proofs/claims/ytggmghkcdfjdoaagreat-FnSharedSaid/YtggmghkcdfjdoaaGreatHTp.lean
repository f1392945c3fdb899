import Derived.Test.YtggmghkcdfjdoaaGreatHTks
import Derived.Test.YtggmghkcdfjdoaaGreatHMem
namespace Go.Proofs.YtggmghkcdfjdoaaGreat
set_option maxHeartbeats 1000000
open Go.RowKit Tryz
set_option linter.unusedVariables false
set_option linter.unusedSimpArgs false
set_option maxRecDepth 100000
variable {A B f kc kn oc on vc vn yc:Nat} {P:Nat->Prop} {a b:Int->Bool} {css:Nat->List Value} {h:Int} {ka oa va ya:Option Addr} {l r:List Int} {ts:List TN} {w w':World}
structure T where
 leaf:Bool
 page:Int
 keys:List ByteArray
 vals:List ByteArray
 over:List Int
 kids:List T
namespace T
theorem kid_lt {t k:T} (h:k ∈ t.kids):SizeOf.sizeOf k<SizeOf.sizeOf t:=by
 cases t;have:=List.sizeOf_lt_of_mem h;simp at this ⊢;omega
theorem ind {P:T->Prop} (h:∀ a,(∀ c ∈ a.kids,P c)->P a):∀ a,P a:=by
 have:∀ b a,SizeOf.sizeOf a<b->P a:=by
  intro b
  induction b with
  | zero=>intro a ht;omega
  | succ b d=>intro a ht;exact h a (fun c e=>d c (by have:=T.kid_lt e;omega))
 exact fun a=>this _ a (Nat.lt_succ_self _)
def size (t:T):Nat:=if t.leaf then t.keys.length else t.kids.length
def nodes:T->Nat
 | ⟨_,_,_,_,_,y⟩=>1+(y.map nodes).sum
theorem nodes_eq (t:T):t.nodes=1+(t.kids.map nodes).sum:=by cases t;rw[nodes]
def low:T->ByteArray
 | ⟨l,_,k,_,_,y⟩=>if l then k.headD ByteArray.empty else match y with
  | []=>ByteArray.empty
  | t::_=>t.low
theorem low_leaf {t:T} (h:t.leaf=true):t.low=t.keys.headD ByteArray.empty:=by
 obtain⟨l,a,b,c,d,e⟩:=t;simp at h;rw[low.eq_def];simp[h]
theorem low_inner {t k:T} {r:List T} (h:t.leaf=false) (a:t.kids=k::r):t.low=k.low:=by
 obtain⟨l,b,c,d,e,f⟩:=t;simp at h a;subst a;rw[low.eq_def];simp[h]
def htOf:List Int->Int
 | []=>0
 | h::r=>if h<0 then -1 else if r.all (fun x=>x == h) then h+1 else -1
def ht:T->Int
 | ⟨l,_,_,_,_,y⟩=>if l then 0 else htOf (y.map ht)
theorem ht_eq (t:T):t.ht=if t.leaf then 0 else htOf (t.kids.map ht):=by cases t;rw[ht]
def slots:T->List (ByteArray × ByteArray × Int)
 | ⟨l,_,k,v,o,y⟩=>(if l then k.zip (v.zip o) else [])++(y.map slots).flatten
theorem slots_eq (t:T):t.slots=(if t.leaf then t.keys.zip (t.vals.zip t.over) else [])++(t.kids.map slots).flatten:=by cases t;rw[slots]
def nums:T->List Int
 | ⟨_,p,_,_,o,y⟩=>(if p=0 then [] else [p])++(o.filter (fun x=>x != 0))++(y.map nums).flatten
theorem nums_eq (t:T):t.nums=(if t.page=0 then [] else [t.page])++(t.over.filter (fun a=>a != 0))++(t.kids.map nums).flatten:=by cases t;rw[nums]
end T
def aX:Nat->List Nat->List Int
 | _,[]=>[]
 | s,n::r=>(s:Int)::aX (s+n) r
def bJ:Nat->List (Nat->List TN)->List TN
 | _,[]=>[]
 | s,g::r=>g s++bJ (s+(g s).length) r
namespace T
def flat:T->Nat->List TN
 | ⟨l,p,k,v,o,y⟩,s=>if l then [⟨true,p,k,v,o,[]⟩] else ⟨false,p,y.tail.map low,[],[],aX (s+1) (y.map nodes)⟩::bJ (s+1) (y.map flat)
theorem flat_eq (t:T) (s:Nat):t.flat s=if t.leaf then [⟨true,t.page,t.keys,t.vals,t.over,[]⟩] else ⟨false,t.page,t.kids.tail.map low,[],[],aX (s+1) (t.kids.map nodes)⟩::bJ (s+1) (t.kids.map flat):=by cases t;rw[flat]
end T
def ir (x:Int):Bool:=decide (2<=x∧x<=999)
def aU (page:Int) (v:ByteArray) (o:Int):Bool:=decide (v.size<=400) && (o == 0 || ir o) && !(o != 0 && decide (v.size<=8)) && !(o == 0 && decide (8<v.size) && page != 0)
namespace T
def good:T->Bool->Bool
 | ⟨l,p,k,v,o,y⟩,root =>
  (decide ((if root && l then 0 else 2)<=(if l then k.length else y.length)∧(if l then k.length else y.length)<=4)) && (p == 0 || ir p) &&
  (!l || (decide (v.length=k.length) && decide (o.length=k.length) && (v.zip o).all (fun x=>aU p x.1 x.2))) &&
  (y.map (fun t=>t.good false)).all id && y.all (fun t=>!(p != 0 && t.page == 0))
theorem good_eq (t:T) (a:Bool):t.good a=((decide ((if a && t.leaf then 0 else 2)<=t.size∧t.size<=4)) && (t.page == 0 || ir t.page) &&
  (!t.leaf || (decide (t.vals.length=t.keys.length) && decide (t.over.length=t.keys.length) && (t.vals.zip t.over).all (fun b=>aU t.page b.1 b.2))) &&
  (t.kids.map (fun t=>t.good false)).all id && t.kids.all (fun c=>!(t.page != 0 && c.page == 0))):=by
 cases t;rw[good];simp[size]
end T
def br:T:=⟨true,0,[],[],[],[]⟩
def fm (one:Nat->T × Nat × Bool):List Int->Nat->List T × Nat × Bool
 | [],nx=>([],nx,false)
 | k::ks,nx =>
  if k=nx then
   if (one nx).2.2 then ([(one nx).1],(one nx).2.1,true)
   else ((one nx).1::(fm one ks (one nx).2.1).1,(fm one ks (one nx).2.1).2.1,(fm one ks (one nx).2.1).2.2)
  else ([],nx,true)
def rd (ts:List TN):Nat->Nat->T × Nat × Bool
 | 0,nx=>(br,nx,true)
 | f+1,nx =>
  if nx<ts.length then
   if (ts.getD nx dT).leaf then (⟨true,(ts.getD nx dT).page,(ts.getD nx dT).keys,(ts.getD nx dT).vals,(ts.getD nx dT).over,[]⟩,nx+1,false)
   else if (ts.getD nx dT).kids.length=0 then (⟨false,(ts.getD nx dT).page,[],(ts.getD nx dT).vals,(ts.getD nx dT).over,[]⟩,nx+1,true)
   else (⟨false,(ts.getD nx dT).page,[],(ts.getD nx dT).vals,(ts.getD nx dT).over,(fm (rd ts f) (ts.getD nx dT).kids (nx+1)).1⟩,(fm (rd ts f) (ts.getD nx dT).kids (nx+1)).2.1,(fm (rd ts f) (ts.getD nx dT).kids (nx+1)).2.2)
  else (br,nx,true)
def eT (met:Int->Bool) (x:Int):Option (Int->Bool):=if x=0 then some met else if ir x && !met x then some (fun y=>met y || y == x) else none
def lI (p:Int) (v:ByteArray) (o:Int):Bool:=if v.size<=8 then o == 0 else decide (v.size<=400) && (p == 0 || o != 0)
def gH (p:Int):List (ByteArray × Int)->(Int->Bool)->Option (Int->Bool)
 | [],met=>some met
 | x::r,met=>match eT met x.2 with
  | none=>none
  | some m=>if lI p x.1 x.2 then gH p r m else none
def ju (p:Int) (acc:List T) (t:T):Bool:=decide (2<=t.size) && !(p != 0 && t.page == 0) && (match acc with | []=>true | a::_=>a.ht == t.ht)
def nh (p:Int) (keys:List ByteArray) (one:Nat->(Int->Bool)->Option (T × Nat × (Int->Bool))):List Int->List T->Nat->(Int->Bool)->Option (List T × Nat × (Int->Bool))
 | [],acc,nx,met=>some (acc,nx,met)
 | k::ks,acc,nx,met =>
  if k=nx then
   match one nx met with
   | none=>none
   | some (t,nx',m')=>if ju p acc t && (decide (acc.length=0) || decide (t.low=keys.getD (acc.length - 1) .empty)) then nh p keys one ks (acc++[t]) nx' m' else none
  else none
def gr (ts:List TN):Nat->Nat->(Int->Bool)->Option (T × Nat × (Int->Bool))
 | 0,_,_=>none
 | f+1,nx,met =>
  if nx=ts.length then none else
   match eT met (ts.getD nx dT).page with
   | none=>none
   |some m=>
    if (ts.getD nx dT).leaf then
     if 4<(ts.getD nx dT).keys.length∨(ts.getD nx dT).vals.length≠(ts.getD nx dT).keys.length∨(ts.getD nx dT).over.length≠(ts.getD nx dT).keys.length∨0<(ts.getD nx dT).kids.length then none
     else match gH (ts.getD nx dT).page ((ts.getD nx dT).vals.zip (ts.getD nx dT).over) m with
      | none=>none
      | some m'=>some (⟨true,(ts.getD nx dT).page,(ts.getD nx dT).keys,(ts.getD nx dT).vals,(ts.getD nx dT).over,[]⟩,nx+1,m')
    else
     if (ts.getD nx dT).kids.length<2∨4<(ts.getD nx dT).kids.length∨(ts.getD nx dT).keys.length+1≠(ts.getD nx dT).kids.length∨0<(ts.getD nx dT).vals.length∨0<(ts.getD nx dT).over.length then none
     else match nh (ts.getD nx dT).page (ts.getD nx dT).keys (gr ts f) (ts.getD nx dT).kids [] (nx+1) m with
      | none=>none
      | some (ys,nx',m')=>some (⟨false,(ts.getD nx dT).page,[],[],[],ys⟩,nx',m')
def aH (a b:ByteArray):Bool:=Op.bytesLess a.toList b.toList
def it:List ByteArray->Bool
 | []=>true
 | [_]=>true
 | a::b::r=>aH a b && it (b::r)
def cy (s:ByteArray):Bool:=decide (1<=s.size) && decide (s.size<=8)
def iu (met:Int->Bool) (l:List Int) (m:Int->Bool):Prop:=∀ y,m y=(met y || decide (y ∈ l))
def gT (met:Int->Bool) (l:List Int):Prop:=l.Nodup∧∀ x ∈ l,met x=false
theorem iu.nil (a:Int->Bool):iu a [] a:=by intro b;simp
theorem gT.nil (a:Int->Bool):gT a []:=⟨List.nodup_nil,by simp⟩
theorem iu.trans {c:Int->Bool} (h:iu a l b) (k:iu b r c):iu a (l++r) c:=by
 intro d;rw[k d,h d,Bool.or_assoc];simp
theorem gT.append (h:gT a l) (e:iu a l b) (k:gT b r):gT a (l++r):=by
 refine⟨List.nodup_append.2 ⟨h.1,k.1,fun d c i f g=>?_⟩,fun d c=>?_⟩;·subst g;have:=k.2 d f;rw[e d] at this;simp[c] at this
 ·rcases EG.1 c with c | c;·exact h.2 d c
  ·have:=k.2 d c;rw[e d] at this;simp at this;exact this.1
theorem gT.left (h:gT a (l++r)):gT a l:=⟨(List.nodup_append.1 h.1).1,fun b c=>h.2 b (List.mem_append_left _ c)⟩
theorem gT.right (h:gT a (l++r)) (e:iu a l b):gT b r:=by
 refine⟨(List.nodup_append.1 h.1).2.1,fun c d=>?_⟩;rw[e c,h.2 c (List.mem_append_right _ d)];simp;intro f;exact (List.nodup_append.1 h.1).2.2 c f c d rfl
def oI (x:Int):List Int:=if x=0 then [] else [x]
theorem rh {b m:Int->Bool} {x:Int} (h:eT b x=some m):(x == 0 || ir x)=true∧gT b (oI x)∧iu b (oI x) m:=by
 unfold eT at h;unfold oI;by_cases c:x=0;·simp[c] at h ⊢;subst h;exact⟨gT.nil _,iu.nil _⟩
 ·rw[if_neg c] at h ⊢;by_cases a:(ir x && !b x)=true;·rw[if_pos a] at h;simp at a h;subst h;refine⟨by simp[a.1],⟨by simp,by simpa using a.2⟩,fun d=>?_⟩;by_cases e:d=x<;>simp[e]
  ·rw[if_neg a] at h;exact absurd h (by simp)
theorem sj {b:Int->Bool} {x:Int} (h:(x == 0 || ir x)=true) (e:gT b (oI x)):∃ d,eT b x=some d∧iu b (oI x) d:=by
 unfold eT;by_cases a:x=0;·exact⟨b,by simp[a],by simp[oI,a];exact iu.nil _⟩
 ·have f:ir x=true:=(by simpa[a] using h);have g:=e.2 x (by simp[oI,a]);refine⟨fun c=>b c || c == x,by simp[a,f,g],fun c=>?_⟩;by_cases i:c=x<;>simp[oI,a,i]
theorem ur (p:Int) (v:ByteArray) (o:Int):aU p v o=(lI p v o && (o == 0 || ir o)):=by
 unfold aU lI;by_cases h:v.size<=8
 ·have f:v.size<=400:=(by omega);have d:¬ 8<v.size:=(by omega);by_cases a:o=0;·simp[h,f,a,d]
  ·have b:(o == 0)=false:=(by simpa using a);have c:(o != 0)=true:=(by simpa using a);simp[h,f,b,c]
 ·have d:8<v.size:=(by omega);by_cases a:o=0
  ·subst a;by_cases e:p=0;·simp[h,e]
   ·have b:(p == 0)=false:=(by simpa using e);have c:(p != 0)=true:=(by simpa using e);simp[h,d,b,c]
  ·have b:(o == 0)=false:=(by simpa using a);have c:(o != 0)=true:=(by simpa using a);simp[h,b,c]
theorem oV {p:Int}:∀ (d:List (ByteArray × Int)) (b c:Int->Bool),gH p d b=some c->d.all (fun a=>aU p a.1 a.2)=true∧gT b ((d.map (fun a=>a.2)).filter (fun a=>a != 0))∧iu b ((d.map (fun a=>a.2)).filter (fun a=>a != 0)) c
 | [],b,c,h=>by
  simp[gH] at h
  subst h
  exact⟨rfl,gT.nil _,iu.nil _⟩
 | a::r,b,c,h=>by
  unfold gH at h
  split at h
  ·cases h
  ·rename_i f g
   split at h
   ·rename_i i
    obtain⟨j,k,e⟩:=rh g
    obtain⟨l,m,n⟩:=oV r f c h
    have o:((a::r).map (fun a=>a.2)).filter (fun a=>a != 0)=oI a.2++(r.map (fun a=>a.2)).filter (fun a=>a != 0):=by
     unfold oI;by_cases q:a.2=0<;>simp[q]
    rw[o];refine⟨?_,k.append e m,e.trans n⟩;rw[List.all_cons,l,ur,i,j];rfl
   ·cases h
theorem ut {p:Int}:∀ (c:List (ByteArray × Int)) (b:Int->Bool),c.all (fun a=>aU p a.1 a.2)=true->gT b ((c.map (fun a=>a.2)).filter (fun a=>a != 0))->∃ d,gH p c b=some d∧iu b ((c.map (fun a=>a.2)).filter (fun a=>a != 0)) d
 | [],b,h,hn=>⟨b,rfl,iu.nil _⟩
 | a::r,b,h,hn=>by
  have f:((a::r).map (fun a=>a.2)).filter (fun a=>a != 0)=oI a.2++(r.map (fun a=>a.2)).filter (fun a=>a != 0):=by
   unfold oI;by_cases g:a.2=0<;>simp[g]
  rw[f] at hn ⊢;rw[List.all_cons,ur] at h;simp only[Em] at h;obtain⟨i,j,e⟩:=sj h.1.2 hn.left;obtain⟨d,k,l⟩:=ut r i h.2 (hn.right e);refine⟨d,?_,e.trans l⟩;unfold gH;rw[j];simp[h.1.1,k]
def Df (ts:List TN) (nx:Nat) (t:T):Prop:=nx+t.nodes<=ts.length∧t.flat nx=(ts.drop nx).take t.nodes
theorem zP (s:Nat) (ys:List T) (h:∀ a ∈ ys,∀ s,(a.flat s).length=a.nodes):(bJ s (ys.map T.flat)).length=(ys.map T.nodes).sum:=by
 induction ys generalizing s with
 | nil=>rfl
 |cons a r b=>simp only[Ex,bJ,El,Ff];rw[b _ (fun a c=>h a (EH _ c)),h a (Et ..)]
theorem fR {t:T} (h:t.kids=[]):t.nodes=1:=by rw[T.nodes_eq,h];rfl
def cg:T->Prop
 | ⟨l,_,_,_,_,y⟩=>(l=true->y=[])∧∀ k,k ∈ y->cg k
theorem bj (t:T):cg t ↔ (t.leaf=true->t.kids=[])∧∀ a ∈ t.kids,cg a:=by cases t;rw[cg]
theorem dq (t:T):cg t->∀ b,(t.flat b).length=t.nodes:=by
 induction t using T.ind with
 |h t e=>
  intro a b;rw[bj] at a;rw[T.flat_eq];split;·rename_i f;rw[fR (a.1 f)];rfl
  ·rw[EU,zP _ _ (fun c d=>e c d (a.2 c d)),T.nodes_eq];omega
theorem fT {c:Type} (l:List c) (n a b:Nat):(l.drop n).take (a+b)=(l.drop n).take a++(l.drop (n+a)).take b:=by
 rw[List.take_add,List.drop_drop]
theorem jz {nx:Nat} (h:nx<ts.length):(ts.drop nx).take 1=[ts.getD nx dT]:=by
 rw[List.take_one,List.head?_drop,Eh h];simp[List.getD,h]
theorem wn {t:T} (h:t.good true=true) (a:2<=t.size):t.good false=true:=by
 rw[T.good_eq] at h ⊢;simp only[Em,Es] at h ⊢;refine⟨⟨⟨⟨⟨by simpa using a,h.1.1.1.1.2⟩,h.1.1.1.2⟩,h.1.1.2⟩,h.1.2⟩,h.2⟩
theorem nl {t:T} (h:t.good false=true):t.good true=true∧2<=t.size:=by
 rw[T.good_eq] at h ⊢;simp only[Em,Es] at h ⊢;have a:2<=t.size:=by simpa using h.1.1.1.1.1
 refine⟨⟨⟨⟨⟨⟨?_,h.1.1.1.1.2⟩,h.1.1.1.2⟩,h.1.1.2⟩,h.1.2⟩,h.2⟩,a⟩;split<;>omega
theorem oW (s:Nat) (a:List Nat):(aX s a).length=a.length:=by
 induction a generalizing s with
 | nil=>rfl
 | cons c r b=>simp[aX,b]
theorem oX (d:0<=h) (b:∀ a ∈ r,a=h):T.htOf (h::r)=h+1:=by
 show (if h<0 then (-1:Int) else if r.all (fun a=>a == h) then h+1 else -1)=h+1;rw[if_neg (by omega),if_pos];rw[Ez];intro a c;simp[b a c]
theorem uu (b:0<=T.htOf (h::r)):0<=h∧∀ a ∈ r,a=h:=by
 have b:0<=(if h<0 then (-1:Int) else if r.all (fun a=>a == h) then h+1 else -1):=b;by_cases c:h<0;·rw[if_pos c] at b;omega
 ·rw[if_neg c] at b;by_cases d:r.all (fun a=>a == h)=true;·refine⟨by omega,fun a e=>?_⟩;have:=Ez.1 d a e;simpa using this
  ·rw[if_neg d] at b;omega
def BK (ts:List TN) (f:Nat):Prop:=∀ nx met t nx' met',nx<=ts.length->gr ts f nx met=some (t,nx',met')->rd ts f nx=(t,nx',false)∧nx'=nx+t.nodes∧cg t∧Df ts nx t∧t.good true=true∧0<=t.ht∧gT met t.nums∧iu met t.nums met'
theorem uv (w:BK ts f) {p:Int} {keys:List ByteArray}:∀ (l:List Int) (d:List T) (g:Nat) (m:Int->Bool) (n:List T) (j:Nat) (o:Int->Bool),g<=ts.length->nh p keys (gr ts f) l d g m=some (n,j,o) ->
  ∃ b,n=d++b∧b.length=l.length∧fm (rd ts f) l g=(b,j,false)∧l=aX g (b.map T.nodes)∧j=g+(b.map T.nodes).sum∧j<=ts.length∧bJ g (b.map T.flat)=(ts.drop g).take (b.map T.nodes).sum ∧
   (∀ c ∈ b,cg c∧c.good false=true∧(!(p != 0 && c.page == 0))=true∧0<=c.ht)∧(∀ c ∈ b,∀ a,(d++b).head?=some a->a.ht=c.ht)∧(∀ i c,b[i]?=some c->d.length+i=0∨c.low=keys.getD (d.length+i - 1) .empty)∧gT m (b.map T.nums).flatten∧iu m (b.map T.nums).flatten o
 | [],d,g,m,n,j,o,hnx,h=>by
  simp[nh] at h
  obtain⟨rfl,rfl,rfl⟩:=h
  exact⟨[],by simp,rfl,rfl,rfl,by simp,hnx,by simp[bJ],by simp,by simp,by simp,gT.nil _,iu.nil _⟩
 | k::l,d,g,m,n,j,o,hnx,h=>by
  unfold nh at h
  split at h
  ·rename_i B
   subst B
   split at h
   ·cases h
   ·rename_i u x C D
    split at h
    ·rename_i v
     simp only[Em] at v
     obtain⟨E,t,y,z,F,G,H,A⟩:=w _ _ _ _ _ hnx D
     have I:x<=ts.length:=by rw[t];exact z.1
     obtain⟨b,rfl,J,K,L,M,N,O,P,Q,R,S,U⟩:=uv w l (d++[u]) x C n j o I h
     have q:=v.1
     unfold ju at q
     simp only[Em,Es] at q
     refine⟨u::b,by simp,by simp[J],?_,?_,?_,N,?_,?_,?_,?_,?_,?_⟩
     ·unfold fm
      rw[if_pos rfl,E]
      simp[K]
     ·simp only[Ex,aX]
      rw[<-t,<-L]
     ·rw[M,t];simp;omega
     ·simp only[Ex,bJ,Ff]
      rw[dq u y,fT,<-z.2,<-t,<-O]
     ·intro c e
      rcases EL.1 e with rfl | e
      ·exact⟨y,wn F q.1.1,q.1.2,G⟩
      ·exact P c e
     ·intro c e a s
      rcases EL.1 e with rfl | e
      ·cases d with
       | nil=>simp at s;rw[s]
       | cons V r=>simp at s;subst s;simpa using q.2
      ·exact Q c e a (by simpa using s)
     ·intro i c e
      cases i with
      |zero=>
       simp at e
       subst e
       have:=v.2
       simp only[Bool.or_eq_true,Es] at this
       simpa using this
      |succ i=>
       have:=R i c (by simpa using e)
       simp only[El,List.length_singleton] at this
       rw[show d.length+(i+1)=d.length+1+i by omega]
       exact this
     ·simp only[Ex,EW]
      exact H.append A S
     ·simp only[Ex,EW]
      exact A.trans U
    ·cases h
  ·cases h
theorem iw (ts:List TN):∀ f,BK ts f
 | 0=>by intro i H I J K L h;simp[gr] at h
 | f+1=>by
  have M:=iw ts f
  intro i H I J K L h
  unfold gr at h
  split at h
  ·cases h
  ·rename_i ah
   have m:i<ts.length:=by omega
   have e:=jz m
   generalize ts.getD i dT=c at h e
   split at h
   ·cases h
   ·rename_i ai N
    obtain⟨y,z,o⟩:=rh N
    split at h
    ·rename_i j
     split at h
     ·cases h
     ·rename_i O
      split at h
      ·cases h
      ·rename_i P p
       simp only[Option.some.injEq,Prod.mk.injEq] at h
       obtain⟨rfl,rfl,rfl⟩:=h
       obtain⟨Q,A,B⟩:=oV _ _ _ p
       have n:(c.vals.zip c.over).map (fun c=>c.2)=c.over:=by
        rw[show (fun c:ByteArray × Int=>c.2)=Prod.snd from rfl,List.map_snd_zip (by omega)]
       rw[n] at A B;have C:c.kids=[]:=E7 (by omega);have q:c=⟨true,c.page,c.keys,c.vals,c.over,[]⟩:=(by cases c;simp at j C ⊢;exact⟨j,C⟩);have g:T.nodes ⟨true,c.page,c.keys,c.vals,c.over,[]⟩=1:=fR rfl;refine⟨?_,by rw[g],?_,?_,?_,?_,?_,?_⟩;·unfold rd;rw[if_pos m];have s:ts.getD i dT=c:=(by rw[jz m] at e;simpa using e);rw[s,if_pos j]
       ·rw[bj];simp
       ·refine⟨by rw[g];omega,?_⟩;rw[g,e,T.flat_eq,if_pos rfl];exact congrArg (fun t=>[t]) q.symm
       ·rw[T.good_eq];simp only[T.size,if_true,Em,Es,Bool.true_and,Fg,E8,E6,List.all_nil,and_true];exact⟨⟨⟨by omega,by omega⟩,y⟩,⟨by omega,by omega⟩,Q⟩
       ·rw[T.ht_eq,if_pos rfl];omega
       ·rw[T.nums_eq];simp only[E6,List.flatten_nil,EN];exact z.append o A
       ·rw[T.nums_eq];simp only[E6,List.flatten_nil,EN];exact o.trans B
    ·rename_i j;split at h;·cases h
     ·rename_i O;split at h;·cases h
      ·rename_i d aj P p;simp only[Option.some.injEq,Prod.mk.injEq] at h;obtain⟨rfl,rfl,rfl⟩:=h;obtain⟨ak,D,E,R,S,U,al,V,k,u,W,X,Y⟩:=uv M _ _ _ _ _ _ _ (by omega) p;rw[ED] at D;subst D;have s:ts.getD i dT=c:=(by rw[jz m] at e;simpa using e);have v:c.vals=[]:=E7 (by omega);have w:c.over=[]:=E7 (by omega);have F:c.leaf=false:=(by simpa using j);have g:T.nodes ⟨false,c.page,[],[],[],d⟩=1+(d.map T.nodes).sum:=T.nodes_eq _;have Z:d.tail.map T.low=c.keys:=by
        apply List.ext_getElem?;intro x;rw[List.getElem?_map,List.getElem?_tail];by_cases G:x+1<d.length
        ·have:=W (x+1) d[x+1] (Eh G);simp only[List.length_nil,EK,Nat.add_sub_cancel] at this;rcases this with h | h;·omega
         ·rw[Eh G,Option.map_some,h,List.getD,Eh (by omega)];rfl
        ·rw[List.getElem?_eq_none (by omega),Option.map_none,List.getElem?_eq_none (by omega)]
       have q:c=⟨false,c.page,d.tail.map T.low,[],[],aX (i+1) (d.map T.nodes)⟩:=(by rw[Z,<-S];cases c;simp at F v w ⊢;exact⟨F,v,w⟩);refine⟨?_,by rw[g,U];omega,?_,?_,?_,?_,?_,?_⟩;·unfold rd;rw[if_pos m,s,if_neg j,if_neg (by omega),R,v,w]
       ·rw[bj];exact⟨by simp,fun aa ab=>(k aa ab).1⟩
       ·refine⟨by rw[g];omega,?_⟩;rw[g,fT,e,T.flat_eq,if_neg (by simp),<-V];exact congrArg (fun t=>t::_) q.symm
       ·rw[T.good_eq];simp only[T.size,EC,EO,Em,Es,Bool.and_false,Bool.not_false,Bool.true_or,and_true];refine⟨⟨⟨⟨by omega,by omega⟩,y⟩,?_⟩,?_⟩;·rw[Ez];intro b ac;obtain⟨l,n,rfl⟩:=EY.1 ac;exact (k l n).2.1
        ·rw[Ez];intro l n;exact (k l n).2.2.1
       ·rw[T.ht_eq,if_neg (by simp)]
        match d,k,u,E with
        | [],_,_,E=>simp[T.htOf]
        | l::r,k,u,_ =>
         simp only[Ex];have ad:=(k l (Et ..)).2.2.2;rw[oX ad];·omega
         ·intro a ae;obtain⟨af,ag,rfl⟩:=EY.1 ae;exact (u af (EH _ ag) l (by simp)).symm
       ·rw[T.nums_eq];simp only[List.filter_nil,EN];exact z.append o X
       ·rw[T.nums_eq];simp only[List.filter_nil,EN];exact o.trans Y
def BL (ts:List TN) (f:Nat):Prop:=∀ nx t nx',rd ts f nx=(t,nx',false)->cg t∧nx'=nx+t.nodes∧nx<ts.length
theorem mt (i:BL ts f):∀ (c:List Int) (a:Nat) (b:List T) (d:Nat),fm (rd ts f) c a=(b,d,false)->(∀ e ∈ b,cg e)∧d=a+(b.map T.nodes).sum∧b.length=c.length
 | [],a,b,d,h=>by
  simp[fm] at h
  obtain⟨rfl,rfl⟩:=h
  simp
 | k::c,a,b,d,h=>by
  unfold fm at h
  split at h
  ·split at h
   ·simp at h
   ·rename_i j
    simp only[Prod.mk.injEq] at h
    obtain⟨rfl,rfl,l⟩:=h
    obtain⟨m,n,_⟩:=i a (rd ts f a).1 (rd ts f a).2.1 (by
     have:(rd ts f a).2.2=false:=by simpa using j
     rw[<-this])
    obtain⟨o,p,q⟩:=mt i c (rd ts f a).2.1 _ _ (by
     rw[<-l])
    refine⟨?_,?_,by simp[q]⟩
    ·intro e g
     rcases EL.1 g with rfl | g
     ·exact m
     ·exact o e g
    ·rw[p,n];simp;omega
  ·simp at h
theorem iy (ts:List TN):∀ f,BL ts f
 | 0=>by intro a c d h;simp[rd] at h
 | f+1=>by
  have e:=iy ts f
  intro a c d h
  unfold rd at h
  split at h
  ·rename_i b
   split at h
   ·simp only[Prod.mk.injEq] at h
    obtain⟨rfl,rfl,_⟩:=h
    exact⟨by rw[bj];simp,by rw[fR rfl],b⟩
   ·split at h
    ·simp at h
    ·simp only[Prod.mk.injEq] at h
     obtain⟨rfl,rfl,g⟩:=h
     obtain⟨i,j,k⟩:=mt e _ (a+1) _ _ (by rw[<-g])
     refine⟨by rw[bj];exact⟨by simp,i⟩,?_,b⟩
     rw[j,T.nodes_eq];show _=a+(1+(List.map T.nodes (fm (rd ts f) (ts.getD a dT).kids (a+1)).1).sum);omega
  ·simp at h
def BM (ts:List TN) (f:Nat):Prop:=∀ nx met t nx',rd ts f nx=(t,nx',false)->Df ts nx t->t.good true=true->0<=t.ht->gT met t.nums->∃ met',gr ts f nx met=some (t,nx',met')∧iu met t.nums met'
theorem zQ (q:BM ts f) {p:Int} {keys:List ByteArray}:∀ (g:List Int) (b:List T) (c:Nat) (j:Int->Bool) (e:List T) (o:Nat),fm (rd ts f) g c=(e,o,false)->c+(e.map T.nodes).sum<=ts.length->bJ c (e.map T.flat)=(ts.drop c).take (e.map T.nodes).sum ->
  (∀ d ∈ e,d.good false=true∧(!(p != 0 && d.page == 0))=true∧0<=d.ht)->(∀ d ∈ e,∀ a,(b++e).head?=some a->a.ht=d.ht)->(∀ l d,e[l]?=some d->b.length+l=0∨d.low=keys.getD (b.length+l - 1) .empty)->gT j (e.map T.nums).flatten ->
  ∃ s,nh p keys (gr ts f) g b c j=some (b++e,o,s)∧iu j (e.map T.nums).flatten s
 | [],b,c,j,e,o,h,_,_,_,_,_,_=>by
  simp[fm] at h
  obtain⟨rfl,rfl⟩:=h
  exact⟨j,by simp[nh],by simpa using iu.nil j⟩
 | k::g,b,c,j,e,o,h,hlen,hoff,hall,hht,hlow,hnew=>by
  unfold fm at h
  split at h
  ·rename_i x
   subst x
   split at h
   ·simp at h
   ·rename_i y
    simp only[Prod.mk.injEq] at h
    obtain⟨z,rfl,A⟩:=h
    have t:rd ts f c=((rd ts f c).1,(rd ts f c).2.1,false):=by
     have:(rd ts f c).2.2=false:=(by simpa using y);rw[<-this]
    obtain⟨u,B,Q⟩:=iy ts f _ _ _ t;generalize (rd ts f c).1=i at *;generalize (rd ts f c).2.1=m at *;have C:fm (rd ts f) g m=((fm (rd ts f) g m).1,(fm (rd ts f) g m).2.1,false):=(by rw[<-A]);generalize (fm (rd ts f) g m).1=D at *;generalize (fm (rd ts f) g m).2.1=E at *;subst z;simp only[Ex,Ff,bJ,EW] at hlen hoff hnew ⊢;rw[dq i u,fT] at hoff;obtain⟨F,G⟩:=List.append_inj hoff (by rw[dq i u,Eu,ET];omega);obtain⟨v,H,I⟩:=hall i (Et ..);obtain⟨J,K,w⟩:=q c j i m t ⟨by omega,F⟩ (nl v).1 I hnew.left;obtain⟨L,M,N⟩:=zQ q g (b++[i]) m J D E C (by omega) (by rw[B];exact G) (fun d n=>hall d (EH _ n)) (fun d n a O=>hht d (EH _ n) a (by simpa using O)) (fun l d n=>by have:=hlow (l+1) d (by simpa using n);simp only[El,List.length_singleton];rw[show b.length+1+l=b.length+(l+1) by omega];exact this) (hnew.right w);refine⟨L,?_,w.trans N⟩;unfold nh;rw[if_pos rfl,K];have P:(ju p b i && (decide (b.length=0) || decide (i.low=keys.getD (b.length - 1) .empty)))=true:=by
     rw[Em];constructor
     ·unfold ju;simp only[Em,Es];refine⟨⟨(nl v).2,H⟩,?_⟩;cases b with
      | nil=>rfl
      | cons a r=>simpa using hht i (Et ..) a (by simp)
     ·simpa using hlow 0 i (by simp)
    simp only[P,if_true,M];simp
  ·simp at h
theorem zS (ts:List TN):∀ f,BM ts f
 | 0=>by intro c M N O h;simp[rd] at h
 | f+1=>by
  have P:=zS ts f
  intro c M N O h B k m i
  unfold rd at h
  split at h
  ·rename_i Q
   have C:=jz Q
   have D:¬ c=ts.length:=by omega
   split at h
   ·rename_i v
    simp only[Prod.mk.injEq] at h
    obtain⟨rfl,rfl,_⟩:=h
    unfold gr
    rw[if_neg D]
    generalize ts.getD c dT=b at *
    have w:T.nodes ⟨true,b.page,b.keys,b.vals,b.over,[]⟩=1:=fR rfl
    obtain⟨_,l⟩:=B
    rw[w,C,T.flat_eq,if_pos rfl] at l
    have R:b.kids=[]:=by
     have:=(List.cons.inj l).1;rw[<-this]
    rw[T.good_eq] at k;simp only[T.size,if_true,Em,Es,Bool.true_and,Fg,E8,E6,List.all_nil,and_true] at k;rw[T.nums_eq] at i ⊢;simp only[E6,List.flatten_nil,EN] at i ⊢;obtain⟨x,y,n⟩:=sj k.1.2 i.left;have o:(b.vals.zip b.over).map (fun b=>b.2)=b.over:=(by rw[show (fun b:ByteArray × Int=>b.2)=Prod.snd from rfl,List.map_snd_zip (by omega)]);obtain⟨z,A,q⟩:=ut (p:=b.page) (b.vals.zip b.over) x k.2.2 (by rw[o];exact i.right n);rw[o] at q;refine⟨z,?_,n.trans q⟩;rw[y];simp only[v,if_true];rw[if_neg (by rw[R];simp;omega),A]
   ·rename_i v;split at h;·simp at h
    ·rename_i ab;simp only[Prod.mk.injEq] at h;obtain⟨rfl,rfl,S⟩:=h;have E:fm (rd ts f) (ts.getD c dT).kids (c+1)=((fm (rd ts f) (ts.getD c dT).kids (c+1)).1,(fm (rd ts f) (ts.getD c dT).kids (c+1)).2.1,false):=(by rw[<-S]);unfold gr;rw[if_neg D];generalize ts.getD c dT=b at *;obtain⟨ac,ad,ae⟩:=mt (iy ts f) _ _ _ _ E;generalize (fm (rd ts f) b.kids (c+1)).1=j at *;generalize (fm (rd ts f) b.kids (c+1)).2.1=U at *;have w:T.nodes ⟨false,b.page,[],b.vals,b.over,j⟩=1+(j.map T.nodes).sum:=T.nodes_eq _;obtain⟨V,l⟩:=B;rw[w] at V l;rw[fT,C,T.flat_eq,if_neg (by simp)] at l;have s:=(List.cons.inj l).1;have F:=(List.cons.inj l).2;simp only at s F;have G:b.keys=j.tail.map T.low:=(by rw[<-s]);have H:b.vals=[]:=(by rw[<-s]);have W:b.over=[]:=(by rw[<-s]);rw[T.good_eq] at k;simp only[T.size,EC,EO,Em,Es,Bool.and_false,Bool.not_false,Bool.true_or,and_true] at k;obtain⟨⟨⟨⟨af,ag⟩,X⟩,t⟩,u⟩:=k;rw[T.nums_eq] at i ⊢;simp only[W,List.filter_nil,EN] at i ⊢;obtain⟨x,y,n⟩:=sj X i.left;rw[T.ht_eq,if_neg (by simp)] at m;have I:(∀ e ∈ j,e.good false=true∧(!(b.page != 0 && e.page == 0))=true∧0<=e.ht)∧(∀ e ∈ j,∀ a,j.head?=some a->a.ht=e.ht):=by
      match j,m,t,u with
      | [],_,_,_=>simp
      | e::r,m,t,u =>
       simp only[Ex] at m;obtain⟨Y,Z⟩:=uu m;have J:∀ d ∈ e::r,d.ht=e.ht:=by
        intro d g;rcases EL.1 g with rfl | g;·rfl
        ·exact Z d.ht (List.mem_map_of_mem g)
       rw[Ez] at t u;refine⟨fun d g=>⟨t (d.good false) (EY.2 ⟨d,g,rfl⟩),u d g,by rw[J d g];exact Y⟩,fun d g a K=>?_⟩;simp at K;subst K;exact (J d g).symm
     obtain⟨z,A,q⟩:=zQ P (p:=b.page) (keys:=b.keys) b.kids [] (c+1) x j U E (by omega) F I.1 (by simpa using I.2) (fun L e o=>by
      cases L with
      | zero=>exact .inl rfl
      |succ L=>right;have ah:=Zc o;rw[G];simp only[List.length_nil,EK,Nat.add_sub_cancel,List.getD];rw[List.getElem?_map,List.getElem?_tail,o];rfl) (i.right n)
     refine⟨z,?_,n.trans q⟩;rw[y];have aa:b.leaf=false:=(by simpa using v);have ai:b.keys.length+1=b.kids.length:=(by rw[G,EZ,List.length_tail];omega);simp only[aa,EC,EO];rw[if_neg (by rw[H];simp;omega),A,H];simp
  ·simp at h
def aZ (ts:List TN):Prop:=(1<=ts.length∧ts.length<=1000)∧∃ t,rd ts (ts.length+1) 0=(t,ts.length,false)∧t.good true=true∧t.slots.all (fun s=>cy s.1)=true∧0<=t.ht∧t.nodes=ts.length∧it (t.slots.map (fun s=>s.1))=true∧t.flat 0=ts∧t.nums.Nodup
def cF (ts:List TN):Prop:=ts.length<=1000∧∃ t met,gr ts (ts.length+1) 0 (fun _=>false)=some (t,ts.length,met)∧t.slots.all (fun s=>cy s.1)=true∧it (t.slots.map (fun s=>s.1))=true
theorem fg (ts:List TN):aZ ts ↔ cF ts:=by
 constructor;·rintro ⟨⟨h,c⟩,a,i,j,d,k,b,e,l,m⟩;obtain⟨g,f,_⟩:=zS ts _ 0 (fun _=>false) a ts.length i ⟨by omega,by rw[l,b];simp⟩ j k ⟨m,fun _ _=>rfl⟩;exact⟨c,a,g,f,d,e⟩
 ·rintro ⟨c,a,g,f,d,e⟩;obtain⟨n,s,t,o,p,q,r,u⟩:=iw ts _ 0 _ _ _ _ (En _) f;have b:a.nodes=ts.length:=(by omega);have h:1<=a.nodes:=(by rw[T.nodes_eq];omega);refine⟨⟨by omega,c⟩,a,n,p,d,q,b,e,?_,r.1⟩;rw[o.2,b];simp
theorem aS {g:Nat} {a b c d e f:Value} {t:TypeId} (h:w.heap[g]?=some (.cells #[a,b,c,d,e,f] t)):w.cell? ⟨g,0,none⟩=some a∧w.cell? ⟨g,1,none⟩=some b∧w.cell? ⟨g,2,none⟩=some c∧w.cell? ⟨g,3,none⟩=some d∧w.cell? ⟨g,4,none⟩=some e∧w.cell? ⟨g,5,none⟩=some f:=by
 simp[World.cell?,h]
def cN (w:World) (A B:Nat) (P:Nat->Prop):T->List Value->Prop
 | ⟨l,p,k,v,o,y⟩,cs=>∃ (ka:Option Addr) (kn kc:Nat) (va:Option Addr) (vn vc:Nat) (oa:Option Addr) (on oc:Nat) (ya:Option Addr) (yc:Nat) (css:Nat->List Value),cs=[.bool l,.int .i64 p,.slice ka kn kc,.slice va vn vc,.slice oa on oc,.slice ya y.length yc]∧ga p∧aP w A B ka kn kc k∧aP w A B va vn vc v∧bf w A B oa on oc o∧(y.length<=yc∧yc<=maxLen) ∧
  (0<y.length->∃ b off,ya=some ⟨b,off,none⟩∧P b∧∀ i,i<y.length->∀ j,j<6->w.cell? ⟨b,off+i*6+j,none⟩=(css i)[j]?)∧∀ i,∀ t ∈ y,y[i]?=some t->cN w A B P t (css i)
structure bz (w:World) (A B:Nat) (P:Nat->Prop) (t:T) (ka:Option Addr) (kn kc:Nat) (va:Option Addr) (vn vc:Nat) (oa:Option Addr) (on oc:Nat) (ya:Option Addr) (yc:Nat) (css:Nat->List Value):Prop where
 page:ga t.page
 keys:aP w A B ka kn kc t.keys
 vals:aP w A B va vn vc t.vals
 over:bf w A B oa on oc t.over
 cap:t.kids.length<=yc∧yc<=maxLen
 cell:0<t.kids.length->∃ b off,ya=some ⟨b,off,none⟩∧P b∧∀ i,i<t.kids.length->∀ j,j<6->w.cell? ⟨b,off+i*6+j,none⟩=(css i)[j]?
 kid:∀ i,∀ k ∈ t.kids,t.kids[i]?=some k->cN w A B P k (css i)
theorem cN.out {t:T} {cs:List Value} (h:cN w A B P t cs):∃ ka kn kc va vn vc oa on oc ya yc css,cs=[.bool t.leaf,.int .i64 t.page,.slice ka kn kc,.slice va vn vc,.slice oa on oc,.slice ya t.kids.length yc]∧bz w A B P t ka kn kc va vn vc oa on oc ya yc css:=by
 obtain⟨l,j,k,m,n,o⟩:=t;rw[cN.eq_def] at h;obtain⟨ka,kn,kc,va,vn,vc,oa,on,oc,ya,yc,css,a,b,c,d,e,f,g,i⟩:=h;exact⟨ka,kn,kc,va,vn,vc,oa,on,oc,ya,yc,css,a,b,c,d,e,f,g,i⟩
theorem bz.mk' {t:T} (h:bz w A B P t ka kn kc va vn vc oa on oc ya yc css):cN w A B P t [.bool t.leaf,.int .i64 t.page,.slice ka kn kc,.slice va vn vc,.slice oa on oc,.slice ya t.kids.length yc]:=by
 obtain⟨l,a,b,c,d,e⟩:=t;rw[cN.eq_def];exact⟨ka,kn,kc,va,vn,vc,oa,on,oc,ya,yc,css,rfl,h.page,h.keys,h.vals,h.over,h.cap,h.cell,h.kid⟩
theorem cN.keep {k l:Nat} {Q:Nat->Prop} (e:eS A B w w') (r:∀ b,P b->w'.heap[b]?=w.heap[b]?) (s:∀ b,P b->Q b) (f:k<=A) (g:B<=l):∀ c i,cN w A B P c i->cN w' k l Q c i:=by
 intro c
 induction c using T.ind with
 |h c t=>intro i h;obtain⟨ka,kn,kc,va,vn,vc,oa,on,oc,ya,yc,css,rfl,u,v,x,y,z,C,D⟩:=h.out;refine bz.mk' (css:=css) ⟨u,(v.keep e).up f g,(x.keep e).up f g,(y.keep e).up f g,z,fun E=>?_,fun d m n j=>t m n _ (D d m n j)⟩;obtain⟨b,o,F,p,G⟩:=C E;exact⟨b,o,F,s b p,fun d j q H=>(Ep (w:=w) (a:=⟨b,o+d*6+q,none⟩) (r b p)).trans (G d j q H)⟩
abbrev lu (w:World) (C:Nat) (t:T) (cs:List Value):Prop:=cN w 0 C (fun b=>b<C) t cs
theorem lu.below {C:Nat} {t:T} {cs:List Value} (h:lu w C t cs) (a:Below C w w'):lu w' C t cs :=
 cN.keep (.of_below a) (fun b c=>a.block b c) (fun _ h=>h) (Ek _) (Ek _) t cs h
theorem bz.at {t:T} (h:bz w A B P t ka kn kc va vn vc oa on oc ya yc css) {i:Nat} (e:i<t.kids.length) :
  ∃ b a,ya=some ⟨b,a,none⟩∧P b∧∃ d,t.kids[i]?=some d∧d ∈ t.kids∧∃ ka kn kc va vn vc oa on oc ya yc css,bz w A B P d ka kn kc va vn vc oa on oc ya yc css ∧
   w.cell? ⟨b,a+i*6,none⟩=some (.bool d.leaf)∧w.cell? ⟨b,a+i*6+1,none⟩=some (.int .i64 d.page)∧w.cell? ⟨b,a+i*6+2,none⟩=some (.slice ka kn kc)∧w.cell? ⟨b,a+i*6+3,none⟩=some (.slice va vn vc)∧w.cell? ⟨b,a+i*6+4,none⟩=some (.slice oa on oc)∧w.cell? ⟨b,a+i*6+5,none⟩=some (.slice ya d.kids.length yc):=by
 obtain⟨b,a,j,k,c⟩:=h.cell (by omega);have f:=Eh e;have g:=E4 e;obtain⟨ka,kn,kc,va,vn,vc,oa,on,oc,ya,yc,l,m,n⟩:=(h.kid i _ g f).out;have c:=c i e;rw[m] at c;exact⟨b,a,j,k,_,f,g,ka,kn,kc,va,vn,vc,oa,on,oc,ya,yc,l,n,by simpa using c 0 (by omega),by simpa using c 1 (by omega),by simpa using c 2 (by omega),by simpa using c 3 (by omega),by simpa using c 4 (by omega),by simpa using c 5 (by omega)⟩
theorem bz.belowC {C:Nat} {t:T} (h:bz w 0 C (fun b=>b<C) t ka kn kc va vn vc oa on oc ya yc css) (c:Below C w w'):bz w' 0 C (fun b=>b<C) t ka kn kc va vn vc oa on oc ya yc css :=
 ⟨h.page,h.keys.below c,h.vals.below c,h.over.below c,h.cap,fun k=>by
  obtain⟨b,f,l,g,m⟩:=h.cell k
  exact⟨b,f,l,g,fun d e i n=>(Ep (w:=w) (a:=⟨b,f+d*6+i,none⟩) (c.block b g)).trans (m d e i n)⟩,fun d j o e=>(show lu w C j (css d) from h.kid d j o e).below c⟩
def Dg (f:Nat) (C:Nat) (t:T) (more:Array Value) (Q:World->Ending->World->Prop):Prop :=
 ∀ w ka kn kc va vn vc oa on oc ya yc css,C<=w.heap.size->bz w 0 C (fun b=>b<C) t ka kn kc va vn vc oa on oc ya yc css ->
  Calls prog f (#[.agg (Zs t.leaf t.page ka kn kc va vn vc oa on oc ya t.kids.length yc)]++more) w (Q w)
theorem aY {t k:T} {r:Bool} (h:t.good r=true) (a:k ∈ t.kids):k.good false=true:=by
 rw[T.good_eq] at h;simp only[Em] at h;exact Ez.1 h.1.2 (k.good false) (EY.2 ⟨k,a,rfl⟩)
theorem dg {t:T} {r:Bool} (h:t.good r=true) (a:t.leaf=false):2<=t.kids.length∧t.kids.length<=4:=by
 rw[T.good_eq] at h;simp only[Em,Es] at h;have:=h.1.1.1.1;simpa[T.size,a] using this
theorem fV (t:T) (ka:Option Addr) (kn kc:Nat) (va:Option Addr) (vn vc:Nat) (oa:Option Addr) (on oc:Nat) (ya:Option Addr) (yc:Nat) (w:World) (e:t.keys.length=kn) :
  Calls prog 53 #[.agg (Zs t.leaf t.page ka kn kc va vn vc oa on oc ya t.kids.length yc)] w fun g w'=>g=.returned (.int .i64 t.size)∧Below w.heap.size w w':=by
 have h:=hidI e;clear e;obtain⟨b,c⟩:∃ b,b=t.kids.length:=⟨_,rfl⟩;have i:=hidI c;rw[<-c];clear c;generalize t.page=j;by_cases a:t.leaf=true
 ·have d:Hid (t.size=kn):=(by show _=_;unfold T.size;rw[if_pos a];exact h.out);rw[a];go_enter func53,ntmps53;go_wp2
  go_ret;exact⟨by rw[d.out];rfl,Zb _ _⟩
 ·have f:t.leaf=false:=(by simpa using a);have d:Hid (t.size=b):=(by show _=_;unfold T.size;rw[if_neg a];exact i.out.symm);rw[f];clear a f;go_enter func53,ntmps53;go_wp2
  go_ret;exact⟨by rw[d.out];rfl,Zb _ _⟩
theorem ri (C:Nat):∀ (c:T),(∃ r,c.good r=true)->∀ (w:World) (ka:Option Addr) (kn kc:Nat) (va:Option Addr) (vn vc:Nat) (oa:Option Addr) (on oc:Nat) (ya:Option Addr) (yc:Nat) (css:Nat->List Value),C<=w.heap.size->bz w 0 C (fun b=>b<C) c ka kn kc va vn vc oa on oc ya yc css ->
  Calls prog 39 #[.agg (Zs c.leaf c.page ka kn kc va vn vc oa on oc ya c.kids.length yc)] w fun e w'=>e=.returned (.string c.low)∧Below w.heap.size w w':=by
 intro c
 induction c using T.ind with
 |h c z=>
  rintro ⟨r,E⟩ w ka kn kc va vn vc oa on oc ya yc css H A;have d:Below w.heap.size w (w.alloc (.cells (Zs c.leaf c.page ka kn kc va vn vc oa on oc ya c.kids.length yc) 57)):=Zb _ _;have m:=A.belowC (d.mono H);by_cases g:c.leaf=true
  ·have j:Hid (c.low=c.keys.headD ByteArray.empty):=T.low_leaf g;have f:=m.keys;have I:=hidI f.1;clear A m z;obtain⟨k,l⟩:∃ k,k=c.kids.length:=⟨_,rfl⟩;rw[<-l] at d f ⊢;clear l;rw[g] at d f ⊢;generalize c.page=J at d f ⊢;clear g;by_cases K:kn=0;·subst K;have n:Hid (c.low=ByteArray.empty):=(by show _=_;rw[j.out,E7 I.out];rfl);go_enter func39,ntmps39;(go_wp2);go_ret;exact⟨by rw[n.out];rfl,d⟩
   ·obtain⟨b,L,rfl,_,_,F⟩:=aP.at f (i:=0) (by omega);have n:Hid (c.low=c.keys.getD 0 .empty):=(by show _=_;rw[j.out];cases c.keys<;>rfl);rw[Fu] at F;generalize c.keys.getD 0 .empty=ac at F n;clear f j;go_enter func39,ntmps39;(go_wp2);go_ret;exact⟨by rw[n.out];rfl,d⟩
  ·have o:c.leaf=false:=(by simpa using g);obtain⟨B,M⟩:=dg E o;obtain⟨b,L,rfl,ad,G,p,D,N,O,P,Q,R,S,U,V,W,X,Y,Z,q,s,t,u,v,x,y⟩:=m.at (i:=0) (by omega);have j:Hid (c.low=G.low):=by
    show _=_;cases e:c.kids with
    | nil=>rw[e] at B;simp at B
    | cons a r=>rw[e] at p;simp at p;subst p;exact T.low_inner o e
   have aa:=z G D ⟨false,aY E D⟩;simp only[Nat.zero_mul,Fu] at s t u v x y;clear A m p D z;obtain⟨k,l⟩:∃ k,k=c.kids.length:=⟨_,rfl⟩;rw[<-l] at d q s t u v x y B M ⊢;clear l;rw[o] at d q s t u v x y ⊢;generalize c.page=J at d q s t u v x y ⊢;clear g o;go_enter func39,ntmps39;go_wp2_with fail
   refine (aa _ N O P Q R S U V W X Y Z (by simp;omega) q).mono ?_;rintro e ae ⟨rfl,ab⟩;go_wp2_with fail
   go_ret;exact⟨by rw[j.out];rfl,d.trans (ab.mono (by simp))⟩
theorem iH {l:List Nat} {k:Nat} (h:k<l.length):(l.take (k+1)).sum=(l.take k).sum+l[k]:=by
 rw[ER h,List.sum_append];simp
theorem jA (l:List Nat) (k:Nat):(l.take k).sum<=l.sum:=by
 have:=EV k l;have a:=congrArg List.sum this;rw[List.sum_append] at a;omega
theorem iO {t k:T} {i:Nat} (h:t.kids[i]?=some k):k.nodes<t.nodes:=by
 rw[T.nodes_eq t];obtain⟨a,b⟩:=EQ.1 h;have c:=iH (l:=t.kids.map T.nodes) (k:=i) (by simpa using a);have d:=jA (t.kids.map T.nodes) (i+1);simp[b] at c;omega
theorem iB (C:Nat):∀ (a:T),a.nodes<=1000000->∀ (w:World) (ka:Option Addr) (kn kc:Nat) (va:Option Addr) (vn vc:Nat) (oa:Option Addr) (on oc:Nat) (ya:Option Addr) (yc:Nat) (css:Nat->List Value),C<=w.heap.size->bz w 0 C (fun b=>b<C) a ka kn kc va vn vc oa on oc ya yc css ->
  Calls prog 36 #[.agg (Zs a.leaf a.page ka kn kc va vn vc oa on oc ya a.kids.length yc)] w fun e w'=>e=.returned (.int .i64 a.nodes)∧Below w.heap.size w w':=by
 intro a
 induction a using T.ind with
 |h a y=>
  intro az w ka kn kc va vn vc oa on oc ya yc css L p;have f:Below w.heap.size w (w.alloc (.cells (Zs a.leaf a.page ka kn kc va vn vc oa on oc ya a.kids.length yc) 57)):=Zb _ _;have z:=p.belowC (f.mono L);have n:=Ej w (.cells (Zs a.leaf a.page ka kn kc va vn vc oa on oc ya a.kids.length yc) 57);have q:(w.alloc (.cells (Zs a.leaf a.page ka kn kc va vn vc oa on oc ya a.kids.length yc) 57)).heap.size=w.heap.size+1:=(by simp);have A:=hidI (T.nodes_eq a);have B:=Eo p.cap.1 p.cap.2;unfold maxLen at B
  have M:Hid (∀ (g:Nat) (c:T),a.kids[g]?=some c->c ∈ a.kids->c.nodes<=1000000->∀ (w:World) (ka:Option Addr) (kn kc:Nat) (va:Option Addr) (vn vc:Nat) (oa:Option Addr) (on oc:Nat) (ya:Option Addr) (yc:Nat) (css:Nat->List Value),C<=w.heap.size->bz w 0 C (fun b=>b<C) c ka kn kc va vn vc oa on oc ya yc css ->
   Calls prog 36 #[.agg (Zs c.leaf c.page ka kn kc va vn vc oa on oc ya c.kids.length yc)] w fun e w'=>e=.returned (.int .i64 c.nodes)∧Below w.heap.size w w'):=fun g c _ N=>y c N
  have o:=hidI z;clear p z y;obtain⟨j,s⟩:∃ j,j=a.kids.length:=⟨_,rfl⟩;have u:=hidI s;rw[<-s] at f n q B ⊢;rw[<-s] at o;clear s;generalize a.leaf=O at f n q o ⊢;generalize a.page=P at f n q o ⊢;go_enter func36,ntmps36;go_wp2
  generalize w.alloc (.cells (Zs O P ka kn kc va vn vc oa on oc ya j yc) 57)=D at f n q o ⊢;go_loopw [3,4] (fun Q g wr=>∃ (d:Nat) (r:Nat),d<=j∧g=.int .i64 d∧Q=.int .i64 r∧r<=1000000∧Hid (r=1+((a.kids.map T.nodes).take d).sum)∧Below D.heap.size D wr) (fun _ g _=>j - (intOf g).toNat)
  case atStart=>exact⟨0,1,En _,rfl,rfl,by omega,by show _=_;simp,Ev _ _⟩
  case round =>
   obtain⟨d,r,aA,rfl,rfl,aB,E,m⟩:=hrel;have F:=(m.block _ (by omega)).trans n;obtain⟨R,S,U,V,W,X⟩:=aS F;have aC:w.heap.size<wr.heap.size:=(by have:=m.size;omega);by_cases aD:d<j
   ·obtain⟨b,aE,rfl,aF,c,t,G,Y,Z,aa,ab,ac,ad,ae,af,ag,ah,ai,aj,H,ak,al,am,an,ao,ap⟩:=(o.out.belowC (m.mono (by omega))).at (i:=d) (by have:=u.out;omega);have aq:=iO t;have v:Hid (((a.kids.map T.nodes).take (d+1)).sum=((a.kids.map T.nodes).take d).sum+c.nodes∧((a.kids.map T.nodes).take (d+1)).sum<=(a.kids.map T.nodes).sum):=(by refine⟨?_,jA _ _⟩;have:=iH (l:=a.kids.map T.nodes) (k:=d) (by simp;have:=u.out;omega);obtain⟨aG,e⟩:=EQ.1 t;simp only[List.getElem_map,e] at this;exact this);have I:=M.out d c t G (by omega);clear t G;(go_wp2_with fail);refine (I wr Y Z aa ab ac ad ae af ag ah ai aj (by omega) H).mono ?_;rintro e aH ⟨rfl,ar⟩;have J:Hid (r+c.nodes=1+((a.kids.map T.nodes).take (d+1)).sum):=(by have x:=E.out;have K:=v.out.1;show _=_;omega);have au:r+c.nodes<=1000000:=(by have x:=J.out;have K:=v.out.2;have av:=A.out;omega);have aw:=m.trans (ar.mono m.size);clear ak al am an ao ap H I v aq R S U V W X F;generalize c.nodes=ax at *;(go_wp2);go_roundw
    case rel=>exact⟨d+1,r+ax,by omega,by go_num,by go_num,au,J,aw⟩
    case measure=>simp[intOf];omega
   ·have ay:Hid (a.nodes=r):=by have x:=E.out;have K:=A.out;have av:=u.out;rw[Ey (by simp;omega)] at x;show _=_;omega
    (go_wp2);go_ret;exact⟨by rw[ay.out];rfl,f.trans (m.mono (by omega))⟩
def ep (f C:Nat) (t:T) (more:List Value) (Q:World->Ending->World->Prop):Prop :=
 ∀ (w:World) (ka:Option Addr) (kn kc:Nat) (va:Option Addr) (vn vc:Nat) (oa:Option Addr) (on oc:Nat) (ya:Option Addr) (yc:Nat) (css:Nat->List Value),C<=w.heap.size->bz w 0 C (fun b=>b<C) t ka kn kc va vn vc oa on oc ya yc css ->
  Calls prog f ((Value.agg (Zs t.leaf t.page ka kn kc va vn vc oa on oc ya t.kids.length yc))::more).toArray w (Q w)
theorem o8 {l:List Nat} {x:Nat} (h:x ∈ l):x<=l.sum:=by
 induction l with
 | nil=>cases h
 |cons a r b=>
  rcases EL.1 h with rfl | h;·simp
  ·have:=b h;simp;omega
theorem BN (t:T):-1<=t.ht∧t.ht<t.nodes:=by
 induction t using T.ind with
 |h t a=>
  rw[T.ht_eq,T.nodes_eq];split;·omega
  ·match b:t.kids with
   | []=>simp[T.htOf]
   | k::r =>
    have c:=a k (by rw[b];exact Et ..);simp only[Ex,Ff];have d:T.htOf (k.ht::r.map T.ht)=(if k.ht<0 then (-1:Int) else if (r.map T.ht).all (fun e=>e == k.ht) then k.ht+1 else -1):=rfl;rw[d];split;·have:=c.1;omega
    ·split<;>omega
theorem uB {j:Nat} {v:Int} (b:l[j]?=some v) (d:∀ i c,i<j->l[i]?=some c->c=h∧0<=h) (f:v<0∨(0<j∧v≠h)):T.htOf l=-1:=by
 cases l with
 | nil=>simp at b
 |cons a r=>
  show (if a<0 then (-1:Int) else if r.all (fun c=>c == a) then a+1 else -1)=-1;cases j with
  |zero=>simp at b;subst b;rw[if_pos (by omega)]
  |succ j=>have g:=d 0 a (by omega) (by simp);rw[if_neg (by omega),if_neg];intro e;have:=Ez.1 e v (by simp at b;exact Ew b);simp at this;omega
theorem zV (d:∀ b c,b<l.length->l[b]?=some c->c=h∧0<=h) (f:l.length=0->h=-1):T.htOf l=h+1:=by
 cases l with
 | nil=>rw[f rfl];rfl
 |cons a r=>
  have i:=d 0 a (by simp) (by simp);rw[oX (by omega)];·omega
  ·intro c g;obtain⟨b,e⟩:=List.mem_iff_getElem?.1 g;have:=d (b+1) c (by have:=Zc e;simp;omega) (by simpa using e);omega
theorem sG (C:Nat):∀ (a:T),a.nodes<=1000000->ep 35 C a [] (fun w x w'=>x=.returned (.int .i64 a.ht)∧Below w.heap.size w w'):=by
 intro a
 induction a using T.ind with
 |h a H=>
  intro aD w ka kn kc va vn vc oa on oc ya yc css U y;have j:Below w.heap.size w (w.alloc (.cells (Zs a.leaf a.page ka kn kc va vn vc oa on oc ya a.kids.length yc) 57)):=Zb _ _;have I:=y.belowC (j.mono U);have n:=Ej w (.cells (Zs a.leaf a.page ka kn kc va vn vc oa on oc ya a.kids.length yc) 57);have s:(w.alloc (.cells (Zs a.leaf a.page ka kn kc va vn vc oa on oc ya a.kids.length yc) 57)).heap.size=w.heap.size+1:=(by simp);have z:=hidI (T.ht_eq a);have J:=Eo y.cap.1 y.cap.2;unfold maxLen at J;have V:Hid (∀ (c:Nat) (e:T),a.kids[c]?=some e->e ∈ a.kids->ep 35 C e [] (fun w x w'=>x=.returned (.int .i64 e.ht)∧Below w.heap.size w w')):=fun c e k W=>H e W (by have:=iO k;omega);have o:=hidI I;have X:Hid (∀ (c:Nat) (e:T),a.kids[c]?=some e->-1<=e.ht∧e.ht<1000000):=fun c e k=>(by have:=iO k;have:=BN e;omega);clear y I H;obtain⟨p,A⟩:∃ p,p=a.kids.length:=⟨_,rfl⟩;have K:=hidI A;rw[<-A] at j n s J ⊢;rw[<-A] at o;clear A;by_cases q:a.leaf=true
  ·have t:Hid (a.ht=0):=(by show _=_;rw[z.out,if_pos q]);rw[q] at j ⊢;generalize a.page=L at j ⊢;clear n s o z q;go_enter func35,ntmps35;go_wp2
   go_ret;exact⟨by rw[t.out];rfl,j⟩
  have t:Hid (a.ht=T.htOf (a.kids.map T.ht)):=(by show _=_;rw[z.out,if_neg q]);have M:a.leaf=false:=(by simpa using q);rw[M] at j n s o ⊢;clear q M z;generalize a.page=L at j n s o ⊢;go_enter func35,ntmps35;go_wp2
  generalize w.alloc (.cells (Zs false L ka kn kc va vn vc oa on oc ya p yc) 57)=N at j n s o ⊢;go_loopw [3,4] (fun Y c wr=>∃ (d:Nat) (h:Int),d<=p∧c=.int .i64 d∧Y=.int .i64 h∧(-1<=h∧h<1000000)∧Hid ((∀ c f,c<d->(a.kids.map T.ht)[c]?=some f->f=h∧0<=h)∧(d=0->h=-1))∧Below N.heap.size N wr) (fun _ c _=>p - (intOf c).toNat)
  case atStart=>exact⟨0,-1,En _,rfl,rfl,by omega,⟨fun c f k=>by omega,fun _=>rfl⟩,Ev _ _⟩
  case round =>
   obtain⟨d,h,aE,rfl,rfl,aF,m,r⟩:=hrel;have O:=(r.block _ (by omega)).trans n;obtain⟨Z,aa,ab,ac,ad,ae⟩:=aS O;have aG:w.heap.size<wr.heap.size:=(by have:=r.size;omega);by_cases aH:d<p
   ·obtain⟨b,aI,rfl,aJ,e,B,P,af,ag,ah,ai,aj,ak,al,am,an,ao,ap,aq,Q,ar,au,av,aw,ax,ay⟩:=(o.out.belowC (r.mono (by omega))).at (i:=d) (by have:=K.out;omega);have D:Hid ((a.kids.map T.ht)[d]?=some e.ht):=(by show _=_;rw[List.getElem?_map,B];rfl);have aK:=X.out d e B;have R:=V.out d e B P;clear B P;(go_wp2_with fail);refine (R wr af ag ah ai aj ak al am an ao ap aq (by omega) Q).mono ?_;rintro x aL ⟨rfl,az⟩;have E:=r.trans (az.mono r.size);clear ar au av aw ax ay Q R Z aa ab ac ad ae O;generalize e.ht=g at *;by_cases aA:g<0;·have u:Hid (a.ht=-1):=(by show _=_;rw[t.out];exact uB D.out m.out.1 (.inl aA));(go_wp2);go_ret;exact⟨by rw[u.out];rfl,j.trans (E.mono (by omega))⟩
    ·by_cases aB:0<d
     ·by_cases v:g=h
      ·have aC:(g != h)=false:=(by simp[v]);have F:Hid ((∀ c f,c<d+1->(a.kids.map T.ht)[c]?=some f->f=g∧0<=g)∧(d+1=0->g=-1)):=by
        refine⟨fun c f k l=>?_,fun h=>by omega⟩;by_cases G:c=d;·subst G;rw[D.out] at l;simp at l;omega
        ·have:=m.out.1 c f (by omega) l;omega
       clear m v;(go_wp2);go_roundw
       case rel=>exact⟨d+1,g,by omega,by go_num,rfl,by omega,F,E⟩
       case measure=>simp[intOf];omega
      ·have aC:(g != h)=true:=(by simpa using v);have u:Hid (a.ht=-1):=(by show _=_;rw[t.out];exact uB D.out m.out.1 (.inr ⟨aB,v⟩));clear v;(go_wp2);go_ret;exact⟨by rw[u.out];rfl,j.trans (E.mono (by omega))⟩
     ·have F:Hid ((∀ c f,c<d+1->(a.kids.map T.ht)[c]?=some f->f=g∧0<=g)∧(d+1=0->g=-1)):=(by refine⟨fun c f k l=>?_,fun h=>by omega⟩;have G:c=d:=(by omega);subst G;rw[D.out] at l;simp at l;omega);clear m;(go_wp2);go_roundw
      case rel=>exact⟨d+1,g,by omega,by go_num,rfl,by omega,F,E⟩
      case measure=>simp[intOf];omega
   ·have u:Hid (a.ht=h+1):=by have S:=K.out;show _=_;rw[t.out];exact zV (fun c f k l=>m.out.1 c f (by simp at k;omega) l) (fun h=>m.out.2 (by simp at h;rw[h] at S;simp at S;omega))
    (go_wp2);go_ret;exact⟨by rw[u.out];rfl,j.trans (r.mono (by omega))⟩
end Go.Proofs.YtggmghkcdfjdoaaGreat
