import Derived.Test.YtggmghkcdfjdoaaGreatHTks
import Derived.Test.YtggmghkcdfjdoaaGreatHTpw
import Derived.Test.YtggmghkcdfjdoaaGreatHTlm
import Derived.Test.YtggmghkcdfjdoaaGreatHTgf
import Derived.Test.YtggmghkcdfjdoaaGreatHTvc
import Derived.Test.YtggmghkcdfjdoaaGreatHTwq
import Derived.Test.YtggmghkcdfjdoaaGreatHTpx
import Derived.Test.YtggmghkcdfjdoaaGreatHTdp
import Derived.Deep.LoopGhost
import Derived.Deep.DeepCutAuto
namespace Go.Proofs.YtggmghkcdfjdoaaGreat
set_option maxHeartbeats 8000000
open Go.RowKit Tryz
set_option linter.unusedVariables false
set_option linter.unusedSimpArgs false
set_option maxRecDepth 100000
variable {A Bn N P U a b base e ec em g m n nc pc xc xm:Nat} {S X Y:Nat->Prop} {bx:Array Value} {cs xs:List Value} {ea na pa xa:Option Addr} {es:List PE} {kd p tx:Int} {ks:List PK} {nv nv0 ov pv pv0:Value} {ol:List Int} {t:T} {v:ByteArray} {w w' w1 wr:World}
structure mf where
 kind:Int
 next:Int
 data:ByteArray
 ents:List (ByteArray × ByteArray × Int × Int)
 kids:List (ByteArray × Int)
def mf.over (next:Int) (data:ByteArray):mf:=⟨4,next,data,[],[]⟩
def mf.leaf (ents:List (ByteArray × ByteArray × Int × Int)):mf:=⟨3,0,ByteArray.empty,ents,[]⟩
def mf.branch (kids:List (ByteArray × Int)):mf:=⟨2,0,ByteArray.empty,[],kids⟩
def vw (x:ByteArray × ByteArray × Int):ByteArray × ByteArray × Int × Int:=if 8<x.2.1.size then (x.1,ByteArray.empty,x.2.2,(x.2.1.size:Int)) else (x.1,x.2.1,0,(x.2.1.size:Int))
def fL (ys:List T):List (ByteArray × Int):=ys.zipIdx.map (fun x=>(if x.2=0 then ByteArray.empty else x.1.low,x.1.page))
structure dl where
 used:List Bool
 bad:Bool
 log:List (Int × mf)
def di (u:List Bool) (i:Nat):Nat->Option Nat
 | 0=>none
 | f+1=>if u.getD i true then di u (i+1) f else some i
def cW (s:dl):Int × dl:=match di s.used 2 998 with
 | some i=>((i:Int),{ s with used:=s.used.set i true })
 | none=>(0,{ s with bad:=true })
def ce:Nat->dl->List Int × dl
 | 0,s=>([],s)
 | n+1,s=>((cW s).1::(ce n (cW s).2).1,(ce n (cW s).2).2)
def iE (v:ByteArray) (ns:List Int):List (Int × mf):=(List.range ns.length).map (fun k=>(ns.getD k 0,.over (if v.size<=(k+1)*96 then 0 else ns.getD (k+1) 0) (v.extract (k*96) (min ((k+1)*96) v.size))))
def fH (v:ByteArray) (s:dl):Int × dl:=((ce ((v.size+95) / 96) s).1.headD 0,{ (ce ((v.size+95) / 96) s).2 with log:=(ce ((v.size+95) / 96) s).2.log++iE v (ce ((v.size+95) / 96) s).1 })
def aA:List (ByteArray × Int)->dl->List Int × dl
 | [],s=>([],s)
 | x::r,s=>if 8<x.1.size∧x.2=0 then ((fH x.1 s).1::(aA r (fH x.1 s).2).1,(aA r (fH x.1 s).2).2) else (x.2::(aA r s).1,(aA r s).2)
def av:List (dl->T × dl)->dl->List T × dl
 | [],s=>([],s)
 | g::r,s=>((g s).1::(av r (g s).2).1,(av r (g s).2).2)
def CZ (t:T):mf:=if t.leaf then .leaf ((t.keys.zip (t.vals.zip t.over)).map vw) else .branch (fL t.kids)
def Br (l:Bool) (k v:List ByteArray) (y:List T) (o:List Int × dl):T × dl :=
 (⟨l,(cW o.2).1,k,v,o.1,y⟩,{ (cW o.2).2 with log:=(cW o.2).2.log++[((cW o.2).1,CZ ⟨l,(cW o.2).1,k,v,o.1,y⟩)] })
def ai:T->dl->T × dl
 | ⟨l,p,k,v,o,y⟩,s=>if p≠0 then (⟨l,p,k,v,o,y⟩,s) else
  Br l k v (av (y.map ai) s).1 (if l then aA (v.zip o) (av (y.map ai) s).2 else (o,(av (y.map ai) s).2))
theorem bU (t:T) (s:dl):ai t s=if t.page≠0 then (t,s) else Br t.leaf t.keys t.vals (av (t.kids.map ai) s).1 (if t.leaf then aA (t.vals.zip t.over) (av (t.kids.map ai) s).2 else (t.over,(av (t.kids.map ai) s).2)):=by
 cases t;rw[ai]
theorem eJ:∀ (a:List (ByteArray × Int)) (b:dl),(aA a b).1.length=a.length
 | [],b=>rfl
 | a::r,b=>by
  rw[aA]
  split
  ·simp[eJ r]
  ·simp[eJ r]
theorem jn:∀ (g:List (dl->T × dl)) (a:dl),(av g a).1.length=g.length
 | [],a=>rfl
 | g::r,a=>by rw[av];simp[jn r]
theorem pK:∀ (g:List (dl->T × dl)) (a:dl) (b:Nat),b<g.length->∃ c,(av g a).1[b]?=(g[b]?).map (fun d=>(d c).1)
 | [],a,b,h=>by simp at h
 | g::r,a,0,h=>⟨a,by simp[av]⟩
 | g::r,a,b+1,h=>by
  obtain⟨c,e⟩:=pK r (g a).2 b (by simpa using h)
  exact⟨c,by rw[av];simpa using e⟩
theorem jo {d:Type} (f:T->d):∀ (c:List T) (a:dl),(∀ b ∈ c,∀ a,f (ai b a).1=f b)->(av (c.map ai) a).1.map f=c.map f
 | [],a,h=>rfl
 | b::r,a,h=>by
  rw[Ex,av]
  simp only[Ex]
  rw[h b (Et ..),jo f r _ (fun e g=>h e (EH _ g))]
theorem pL (t:T) (s:dl):(ai t s).1.leaf=t.leaf:=by rw[bU];split<;>rfl
theorem pM (t:T) (s:dl):(ai t s).1.keys=t.keys:=by rw[bU];split<;>rfl
theorem wU (t:T) (s:dl):(ai t s).1.vals=t.vals:=by rw[bU];split<;>rfl
theorem vx (t:T) (s:dl):(ai t s).1.kids.length=t.kids.length:=by
 rw[bU];split;·rfl
 ·show (av (t.kids.map ai) s).1.length=_;rw[jn,EZ]
theorem wV (t:T) (s:dl):(ai t s).1.size=t.size:=by
 unfold T.size;rw[pL,pM,vx]
theorem ox:∀ (t:T) (a:dl),(ai t a).1.nodes=t.nodes:=by
 intro t
 induction t using T.ind with
 |h t b=>
  intro a;rw[bU];split;·rfl
  ·rw[T.nodes_eq,T.nodes_eq t];show 1+((av (t.kids.map ai) a).1.map T.nodes).sum=_;rw[jo T.nodes t.kids a b]
theorem Av:∀ (t:T) (a:dl),(ai t a).1.ht=t.ht:=by
 intro t
 induction t using T.ind with
 |h t b=>
  intro a;rw[bU];split;·rfl
  ·rw[T.ht_eq,T.ht_eq t];show (if t.leaf then 0 else T.htOf ((av (t.kids.map ai) a).1.map T.ht))=_;rw[jo T.ht t.kids a b]
theorem tI:∀ (d v:List ByteArray) (e:List Int),v.length=d.length->e.length=d.length->(d.zip (v.zip e)).map gD=d.zip v
 | [],_,_,_,_=>by simp
 | a::d,[],_,h,_=>by simp at h
 | a::d,b::v,[],_,h=>by simp at h
 | a::d,b::v,c::e,h1,h2=>by
  have:=tI d v e (by simpa using h1) (by simpa using h2)
  simp[gD] at this ⊢
  exact this
theorem nL {a d:Type} (f:a->d):∀ (b:List (List a)),b.flatten.map f=(b.map (fun c=>c.map f)).flatten
 | []=>rfl
 | c::r=>by simp[nL f r]
theorem yX:∀ (t:T),(∃ d,t.good d=true)->∀ a,(ai t a).1.slots.map gD=t.slots.map gD:=by
 intro t
 induction t using T.ind with
 |h t j=>
  rintro ⟨d,e⟩ a;have k:=(aF e).2.2;rw[bU];split;·rfl
  ·rw[T.slots_eq,T.slots_eq t];show ((if t.leaf then t.keys.zip (t.vals.zip _) else [])++((av (t.kids.map ai) a).1.map T.slots).flatten).map gD=_;rw[E5,E5,nL,nL,List.map_map,List.map_map];have l:=jo (fun b:T=>b.slots.map gD) t.kids a (fun f g a=>j f g ⟨false,k f g⟩ a);have m:((fun b:List (ByteArray × ByteArray × Int)=>b.map gD) ∘ T.slots)=(fun b:T=>b.slots.map gD):=rfl;rw[m,l]
   congr 1
   cases n:t.leaf;·rfl
   ·simp only[if_true];obtain⟨c,i,_⟩:=(aF e).2.1 n;have o:(aA (t.vals.zip t.over) (av (t.kids.map ai) a).2).1.length=t.keys.length:=(by rw[eJ];simp[c,i]);exact (tI _ _ _ c o).trans (tI _ _ _ c i).symm
theorem pN:∀ (t:T),bv t->∀ a,bv (ai t a).1:=by
 intro t
 induction t using T.ind with
 |h t l=>
  intro g a;have c:=(aC t).1 g;rw[bU];split;·exact g
  ·rw[aC];refine⟨fun b=>?_,fun b=>?_,fun m d=>?_⟩;·show (av (t.kids.map ai) a).1=[];rw[c.1 b];rfl
   ·have b:t.leaf=false:=b;obtain⟨n,o,p,q⟩:=c.2.1 b;refine⟨n,o,?_,fun e=>q ?_⟩;·show (if t.leaf then aA (t.vals.zip t.over) (av (t.kids.map ai) a).2 else (t.over,(av (t.kids.map ai) a).2)).1=[];rw[b];exact p
    ·have i:=jn (t.kids.map ai) a;rw[show (av (t.kids.map ai) a).1=[] from e] at i;simpa using i.symm
   ·have d:m ∈ (av (t.kids.map ai) a).1:=d;obtain⟨j,f,rfl⟩:=List.mem_iff_getElem.1 d;have k:j<(t.kids.map ai).length:=(by rw[jn] at f;exact f);obtain⟨r,e⟩:=pK (t.kids.map ai) a j k;rw[Eh f,Eh k] at e;simp only[Option.map_some,Option.some.injEq,List.getElem_map] at e;rw[e];exact l _ (E4 _) (c.2.2 _ (E4 _)) r
def Us (s:dl) (x:Int):Prop:=s.used.getD x.toNat true=true
theorem ku (u:List Bool):∀ (c b a:Nat),di u b c=some a->b<=a∧a<b+c∧u.getD a true=false
 | 0,b,a,h=>by simp[di] at h
 | c+1,b,a,h=>by
  rw[di] at h
  split at h
  ·obtain⟨f,g,d⟩:=ku u c (b+1) a h
   exact⟨by omega,by omega,d⟩
  ·rename_i e
   simp only[Option.some.injEq] at h
   subst h
   exact⟨Ek _,by omega,by simpa using e⟩
structure Pl (s s':dl) (new:List Int):Prop where
 len:s'.used.length=s.used.length
 up:∀ x,Us s x->Us s' x
 was:s'.bad=false->s.bad=false
 one:s'.bad=false->new.Nodup∧∀ x ∈ new,2<=x∧x<=999∧¬ Us s x∧Us s' x
theorem Pl.refl (s:dl):Pl s s []:=⟨rfl,fun _ a=>a,fun a=>a,fun _=>⟨List.nodup_nil,fun c b=>by cases b⟩⟩
theorem Pl.trans {s g i:dl} {a b:List Int} (h:Pl s g a) (k:Pl g i b):Pl s i (a++b):=by
 refine⟨by rw[k.len,h.len],fun c d=>k.up c (h.up c d),fun e=>h.was (k.was e),fun e=>?_⟩;obtain⟨m,j⟩:=h.one (k.was e);obtain⟨n,l⟩:=k.one e;refine⟨List.nodup_append.2 ⟨m,n,fun c d q o=>?_⟩,fun c d=>?_⟩;·rintro rfl;exact (l c o).2.2.1 (j c d).2.2.2
 ·rcases EG.1 d with d | d;·obtain⟨q1,q2,q3,f⟩:=j c d;exact⟨q1,q2,q3,k.up c f⟩
  ·obtain⟨q1,q2,q3,f⟩:=l c d;exact⟨q1,q2,fun p=>q3 (h.up c p),f⟩
theorem pO {s:dl} (i:s.used.length=1000):Pl s (cW s).2 [(cW s).1]:=by
 unfold cW;split
 ·rename_i a d;obtain⟨j,k,f⟩:=ku _ _ _ _ d;have g:∀ b,Us s b->Us { s with used:=s.used.set a true } b:=fun b c=>by
   unfold Us at c ⊢;show (s.used.set a true).getD b.toNat true=true;by_cases e:b.toNat=a;·simp[List.getD,e,show a<s.used.length by omega]
   ·simpa[List.getD,List.getElem?_set,Ne.symm e] using c
  refine⟨by simp,g,fun e=>e,fun e=>⟨by simp,fun b c=>?_⟩⟩;simp only[List.mem_singleton] at c;subst c;refine⟨by omega,by omega,?_,?_⟩;·unfold Us;rw[show ((a:Int)).toNat=a by omega,f];simp
  ·unfold Us;show (s.used.set a true).getD ((a:Int)).toNat true=true;simp[List.getD,show a<s.used.length by omega]
 ·exact⟨rfl,fun b h=>h,fun e=>(by cases e),fun e=>(by cases e)⟩
theorem Pl.log {s a:dl} {n:List Int} (h:Pl s a n) (l:List (Int × mf)):Pl s { a with log:=l } n:=⟨h.len,h.up,h.was,h.one⟩
theorem xX:∀ (n:Nat) (a:dl),a.used.length=1000->Pl a (ce n a).2 (ce n a).1
 | 0,a,h=>Pl.refl a
 | n+1,a,h=>by
  have b:=pO h
  have c:=xX n (cW a).2 (by rw[b.len,h])
  exact b.trans c
theorem mU:∀ (n:Nat) (a:dl),(ce n a).1.length=n
 | 0,a=>rfl
 | n+1,a=>by rw[ce];simp[mU n]
theorem Aw {s:dl} (h:s.used.length=1000) (g:8<v.size):∃ a,Pl s (fH v s).2 ((fH v s).1::a):=by
 have b:=xX ((v.size+95) / 96) s h;have c:=mU ((v.size+95) / 96) s;have d:(fH v s).1=(ce ((v.size+95) / 96) s).1.headD 0:=rfl;have e:(fH v s).2={ (ce ((v.size+95) / 96) s).2 with log:=(ce ((v.size+95) / 96) s).2.log++iE v (ce ((v.size+95) / 96) s).1 }:=rfl;have i:0<(v.size+95) / 96:=by omega
 rw[e,d]
 match f:(ce ((v.size+95) / 96) s).1,b with
 | [],_=>rw[f] at c;simp at c;omega
 | x::a,b=>exact⟨a,b.log _⟩
theorem kw:∀ (c:List (ByteArray × Int)) (a:dl),a.used.length=1000->∃ g,Pl a (aA c a).2 g∧∀ b,(aA c a).1.count b<=(c.map (fun d=>d.2)).count b+g.count b
 | [],a,h=>⟨[],Pl.refl a,fun b=>by simp[aA]⟩
 | d::r,a,h=>by
  rw[aA]
  split
  ·rename_i k
   obtain⟨l,i⟩:=Aw h k.1
   obtain⟨j,e,f⟩:=kw r (fH d.1 a).2 (by rw[i.len,h])
   refine⟨_,i.trans e,fun b=>?_⟩
   have:=f b
   simp only[Ex,List.count_cons,List.count_append]
   omega
  ·obtain⟨j,e,f⟩:=kw r a h
   refine⟨j,e,fun b=>?_⟩
   have:=f b
   simp only[Ex,List.count_cons]
   omega
theorem jT:∀ (e:List T) (b:dl),b.used.length=1000->(∀ c ∈ e,∀ b,b.used.length=1000->∃ d,Pl b (ai c b).2 d∧∀ a,a≠0->(ai c b).1.nums.count a<=c.nums.count a+d.count a) ->
  ∃ d,Pl b (av (e.map ai) b).2 d∧∀ a,a≠0->((av (e.map ai) b).1.map T.nums).flatten.count a<=(e.map T.nums).flatten.count a+d.count a
 | [],b,h,_=>⟨[],Pl.refl b,fun a _=>by simp[av]⟩
 | c::r,b,h,hk=>by
  obtain⟨l,g,i⟩:=hk c (Et ..) b h
  obtain⟨m,j,k⟩:=jT r (ai c b).2 (by rw[g.len,h]) (fun a f=>hk a (EH _ f))
  refine⟨_,g.trans j,fun a f=>?_⟩
  have n:=i a f
  have o:=k a f
  rw[Ex,av]
  simp only[Ex,EW,List.count_append]
  omega
theorem mg (x:Int) (b:x≠0):∀ (c:List Int),(c.filter (fun e=>e != 0)).count x=c.count x
 | []=>rfl
 | a::r=>by
  by_cases d:a=0
  ·subst d
   rw[List.filter_cons_of_neg (by simp),mg x b r,List.count_cons]
   simp[Ne.symm b]
  ·rw[List.filter_cons_of_pos (by simpa using d),List.count_cons,List.count_cons,mg x b r]
theorem jU:∀ (t:T),(∃ k,t.good k=true)->∀ (b:dl),b.used.length=1000->∃ l,Pl b (ai t b).2 l∧∀ a,a≠0->(ai t b).1.nums.count a<=t.nums.count a+l.count a:=by
 intro t
 induction t using T.ind with
 |h t q=>
  rintro ⟨k,r⟩ b d;have m:=aF r;rw[bU];by_cases i:t.page≠0;·rw[if_pos i];exact⟨[],Pl.refl b,fun a _=>by simp⟩
  ·rw[if_neg i];obtain⟨z,j,u⟩:=jT t.kids b d (fun n o b d=>q n o ⟨false,m.2.2 n o⟩ b d);have v:∃ e,Pl (av (t.kids.map ai) b).2 (if t.leaf then aA (t.vals.zip t.over) (av (t.kids.map ai) b).2 else (t.over,(av (t.kids.map ai) b).2)).2 e∧∀ a,(if t.leaf then aA (t.vals.zip t.over) (av (t.kids.map ai) b).2 else (t.over,(av (t.kids.map ai) b).2)).1.count a<=t.over.count a+e.count a:=by
    cases w:t.leaf;·exact⟨[],Pl.refl _,fun a=>by simp⟩
    ·obtain⟨e,f,g⟩:=kw (t.vals.zip t.over) (av (t.kids.map ai) b).2 (by rw[j.len,d]);obtain⟨A,B,_⟩:=m.2.1 w;refine⟨e,f,fun a=>?_⟩;have:=g a;rw[show (t.vals.zip t.over).map (fun x=>x.2)=t.over from List.map_snd_zip (by omega)] at this;exact this
   obtain⟨e,f,g⟩:=v;generalize (if t.leaf then aA (t.vals.zip t.over) (av (t.kids.map ai) b).2 else (t.over,(av (t.kids.map ai) b).2))=c at f g ⊢;have y:=pO (s:=c.2) (by rw[f.len,j.len,d]);refine⟨_,((j.trans f).trans y).log _,fun a p=>?_⟩;have C:=u a p;have D:=g a;rw[T.nums_eq,T.nums_eq t];show ((if (cW c.2).1=0 then [] else [(cW c.2).1])++c.1.filter (fun a=>a != 0)++((av (t.kids.map ai) b).1.map T.nums).flatten).count a<=_;rw[if_pos (show t.page=0 by simpa using i)];simp only[List.count_append,mg a p,ED];have E:(if (cW c.2).1=0 then [] else [(cW c.2).1]).count a<=[(cW c.2).1].count a:=by
    split;·simp
    ·exact Ek _
   omega
theorem Ax (t:T):(0:Int) ∉ t.nums:=by
 induction t using T.ind with
 |h t b=>
  rw[T.nums_eq];intro a;rcases EG.1 a with a | a
  ·rcases EG.1 a with a | a
   ·split at a;·cases a
    ·rename_i c;simp only[List.mem_singleton] at a;exact c a.symm
   ·simp at a
  ·obtain⟨i,d,e⟩:=List.mem_flatten.1 a;obtain⟨f,g,rfl⟩:=EY.1 d;exact b f g e
theorem vy {s:dl} (g:t.good true=true) (h:s.used.length=1000) (b:t.nums.Nodup) (i:∀ a ∈ t.nums,Us s a) (j:(ai t s).2.bad=false):(ai t s).1.nums.Nodup:=by
 obtain⟨k,l,m⟩:=jU t ⟨true,g⟩ s h;obtain⟨c,n⟩:=l.one j;rw[List.nodup_iff_count] at b c ⊢;intro a;by_cases d:a=0;·subst d;rw[List.count_eq_zero_of_not_mem (Ax _)];omega
 ·have e:=m a d;have p:=b a;have q:=c a;by_cases f:a ∈ k;·have:a ∉ t.nums:=fun o=>(n a f).2.2.1 (i a o);rw[List.count_eq_zero_of_not_mem this] at e;omega
  ·rw[List.count_eq_zero_of_not_mem f] at e;omega
theorem yY {o:Int} (h:aU 0 v o=true) (b:¬ (8<v.size∧o=0)):aU p v o=true:=by
 unfold aU at h ⊢;simp only[Em,Bool.not_eq_true',Bool.and_eq_false_iff,Bool.or_eq_true,Es,decide_eq_false_iff_not,beq_iff_eq,bne_iff_ne,ne_eq,bne_eq_false_iff_eq,beq_eq_false_iff_ne] at h ⊢;refine⟨h.1,?_⟩;by_cases a:o=0;·exact .inl (.inr (fun e=>b ⟨e,a⟩))
 ·exact .inl (.inl a)
theorem yZ {x:Int} (h:aU 0 v 0=true) (f:8<v.size) (a:2<=x∧x<=999):aU p v x=true:=by
 unfold aU at h ⊢;have b:ir x=true:=by unfold ir;exact decide_eq_true a
 simp only[Em,Es] at h;have c:decide (v.size<=400)=true:=by simpa using h.1.1.1
 have d:decide (v.size<=8)=false:=by simp;omega
 have e:(x == 0)=false:=by simp;omega
 rw[b,c,d,e];simp
theorem pP (p:Int):∀ (g:List (ByteArray × Int)) (b:dl),b.used.length=1000->(aA g b).2.bad=false->(∀ c ∈ g,aU 0 c.1 c.2=true)->∀ c ∈ (g.map (fun f=>f.1)).zip (aA g b).1,aU p c.1 c.2=true
 | [],b,_,_,_,c,a=>by simp at a
 | f::r,b,hs,d,h,c,a=>by
  rw[aA] at d a
  have i:=h f (Et ..)
  split at d
  ·rename_i e
   rw[if_pos e] at a
   obtain⟨q,l⟩:=Aw hs e.1
   have m:(fH f.1 b).2.used.length=1000:=by rw[l.len,hs]
   obtain⟨s,o,_⟩:=kw r (fH f.1 b).2 m
   have d:(aA r (fH f.1 b).2).2.bad=false:=d
   simp only[Ex,List.zip_cons_cons,EL] at a
   rcases a with rfl | a
   ·have n:=(l.one (o.was d)).2 _ (Et ..)
    exact yZ (by rw[e.2] at i;exact i) e.1 ⟨n.1,n.2.1⟩
   ·exact pP p r _ m d (fun j k=>h j (EH _ k)) c a
  ·rename_i e
   rw[if_neg e] at a
   have d:(aA r b).2.bad=false:=d
   simp only[Ex,List.zip_cons_cons,EL] at a
   rcases a with rfl | a
   ·exact yY i e
   ·exact pP p r b hs d (fun j k=>h j (EH _ k)) c a
theorem rM (P:T->Prop):∀ (j:List T) (a:dl),a.used.length=1000->(∀ b ∈ j,∃ e,b.good e=true)->(av (j.map ai) a).2.bad=false->(∀ b ∈ j,∀ a,a.used.length=1000->(ai b a).2.bad=false->P (ai b a).1)->∀ k ∈ (av (j.map ai) a).1,P k
 | [],a,_,_,_,_,k,c=>by simp[av] at c
 | b::e,a,f,hg,g,h,k,c=>by
  rw[Ex,av] at g c
  have g:(av (e.map ai) (ai b a).2).2.bad=false:=g
  obtain⟨o,m,_⟩:=jU b (hg b (Et ..)) a f
  have l:(ai b a).2.used.length=1000:=by rw[m.len,f]
  obtain⟨p,n,_⟩:=jT e (ai b a).2 l (fun d i a f=>jU d (hg d (EH _ i)) a f)
  rcases EL.1 c with rfl | c
  ·exact h b (Et ..) a f (n.was g)
  ·exact rM P e _ l (fun d i=>hg d (EH _ i)) g (fun d i=>h d (EH _ i)) k c
theorem pQ {s:dl} (a:s.used.length=1000) (b:∃ f,t.good f=true) (c:(ai t s).2.bad=false):(ai t s).1.page≠0:=by
 obtain⟨f,b⟩:=b;have i:=aF b;by_cases d:t.page≠0;·rw[bU,if_pos d];exact d
 ·rw[bU,if_neg d] at c ⊢;obtain⟨n,e,o⟩:=jT t.kids s a (fun g j s a=>jU g ⟨false,i.2.2 g j⟩ s a);have h:(if t.leaf then aA (t.vals.zip t.over) (av (t.kids.map ai) s).2 else (t.over,(av (t.kids.map ai) s).2)).2.used.length=1000:=by
   cases p:t.leaf;·show (av (t.kids.map ai) s).2.used.length=1000;rw[e.len,a]
   ·obtain⟨q,k,_⟩:=kw (t.vals.zip t.over) (av (t.kids.map ai) s).2 (by rw[e.len,a]);show (aA (t.vals.zip t.over) (av (t.kids.map ai) s).2).2.used.length=1000;rw[k.len,e.len,a]
  generalize (if t.leaf then aA (t.vals.zip t.over) (av (t.kids.map ai) s).2 else (t.over,(av (t.kids.map ai) s).2))=l at h c ⊢;have m:=pO h;have r:=(m.one c).2 _ (Et ..);show (cW l.2).1≠0;omega
theorem wW:∀ (t:T) (o:Bool),t.good o=true->∀ a,a.used.length=1000->(ai t a).2.bad=false->(ai t a).1.good o=true:=by
 intro t
 induction t using T.ind with
 |h t y=>
  intro o q a c b;have i:=aF q;by_cases l:t.page≠0;·rw[bU,if_pos l];exact q
  ·have M:=pQ c ⟨o,q⟩ b;have z:=wV t a;have A:=pL t a;have B:=pM t a;have C:=wU t a;obtain⟨N,p,O⟩:=jT t.kids a c (fun d g a c=>jU d ⟨false,i.2.2 d g⟩ a c);have D:(ai t a).1.kids=(av (t.kids.map ai) a).1:=(by rw[bU,if_neg l];rfl);have E:t.leaf=true->(ai t a).1.over=(aA (t.vals.zip t.over) (av (t.kids.map ai) a).2).1:=fun f=>(by rw[bU,if_neg l,f];rfl);have r:ir (ai t a).1.page=true∧(av (t.kids.map ai) a).2.bad=false∧(t.leaf=true->(aA (t.vals.zip t.over) (av (t.kids.map ai) a).2).2.bad=false):=by
    rw[bU,if_neg l] at b ⊢;have b:(cW (if t.leaf then aA (t.vals.zip t.over) (av (t.kids.map ai) a).2 else (t.over,(av (t.kids.map ai) a).2)).2).2.bad=false:=b;cases f:t.leaf;·rw[f] at b;have b:(cW (av (t.kids.map ai) a).2).2.bad=false:=b;have j:=pO (s:=(av (t.kids.map ai) a).2) (by rw[p.len,c]);have m:=(j.one b).2 _ (Et ..);exact⟨decide_eq_true ⟨m.1,m.2.1⟩,j.was b,fun e=>by cases e⟩
    ·rw[f] at b;have b:(cW (aA (t.vals.zip t.over) (av (t.kids.map ai) a).2).2).2.bad=false:=b;obtain⟨P,u,_⟩:=kw (t.vals.zip t.over) (av (t.kids.map ai) a).2 (by rw[p.len,c]);have j:=pO (s:=(aA (t.vals.zip t.over) (av (t.kids.map ai) a).2).2) (by rw[u.len,p.len,c]);have m:=(j.one b).2 _ (Et ..);exact⟨decide_eq_true ⟨m.1,m.2.1⟩,u.was (j.was b),fun _=>j.was b⟩
   have v:=rM (fun k=>k.good false=true∧k.page≠0) t.kids a c (fun d g=>⟨false,i.2.2 d g⟩) r.2.1 (fun d g a c b=>⟨y d g false (i.2.2 d g) a c b,pQ c ⟨false,i.2.2 d g⟩ b⟩);rw[T.good_eq,z,A,B,C,D];simp only[Em];refine⟨⟨⟨⟨decide_eq_true (by have F:=i.1;simpa only[Em] using F),by rw[r.1];simp⟩,?_⟩,?_⟩,?_⟩
   ·cases f:t.leaf;·rfl
    ·obtain⟨w,G,H⟩:=i.2.1 f;have I:t.page=0:=(by simpa using l);have n:(t.vals.zip t.over).map (fun J=>J.1)=t.vals:=List.map_fst_zip (by omega);have x:=pP (ai t a).1.page (t.vals.zip t.over) (av (t.kids.map ai) a).2 (by rw[p.len,c]) (r.2.2 f) (fun K L=>by have:=H K L;rw[I] at this;exact this);rw[n] at x;rw[E f];simp only[Fg,E8,Em,Es,Ez];exact⟨⟨w,by rw[eJ];simp[w,G]⟩,x⟩
   ·rw[List.all_map,Ez];intro k n;exact (v k n).1
   ·rw[Ez];intro k n;have:=(v k n).2;simp[this]
def Cn (s:dl):Nat:=(s.used.drop 2).count true
structure gF (s s':dl) (n:Nat):Prop where
 len:s'.used.length=1000
 cnt:Cn s'<=Cn s+n
 ok:s.bad=false->Cn s+n<=998->s'.bad=false
theorem gF.trans {s a b:dl} (h:gF s a n) (k:gF a b m):gF s b (n+m) :=
 ⟨k.len,by have:=h.cnt;have:=k.cnt;omega,fun e c=>k.ok (h.ok e (by omega)) (by have:=h.cnt;omega)⟩
theorem gF.refl {s:dl} (h:s.used.length=1000):gF s s 0:=⟨h,by omega,fun e _=>e⟩
theorem gF.more {s a:dl} (h:gF s a n) (b:n<=m):gF s a m:=⟨h.len,by have:=h.cnt;omega,fun e c=>h.ok e (by omega)⟩
theorem gF.log {s a:dl} (h:gF s a n) (l:List (Int × mf)):gF s { a with log:=l } n:=⟨h.len,h.cnt,h.ok⟩
theorem rN (u:List Bool):∀ (c a:Nat),di u a c=none->∀ b,a<=b->b<a+c->u.getD b true=true
 | 0,a,_,b,h1,h2=>by omega
 | c+1,a,h,b,h1,h2=>by
  rw[di] at h
  split at h
  ·rename_i d
   by_cases e:b=a
   ·subst e;exact d
   ·exact rN u c (a+1) h b (by omega) (by omega)
  ·cases h
theorem rO:∀ (b:List Bool),(∀ c,c<b.length->b.getD c true=true)->b.count true=b.length
 | [],_=>rfl
 | a::r,h=>by
  have d:=h 0 (by simp)
  have e:=rO r (fun c f=>by have:=h (c+1) (by simpa using f);simpa[List.getD] using this)
  simp[List.getD] at d
  subst d
  simp[e]
theorem rP:∀ (c:List Bool) (b:Nat),(c.set b true).count true<=c.count true+1
 | [],b=>by simp
 | a::r,0=>by simp[List.count_cons]
 | a::r,b+1=>by have:=rP r b;simp only[List.set_cons_succ,List.count_cons];omega
theorem vz {s:dl} (a:s.used.length=1000):gF s (cW s).2 1:=by
 unfold cW;split;·rename_i f b;obtain⟨c,d,i⟩:=ku _ _ _ _ b;refine⟨by simp[a],?_,fun e _=>e⟩;show ((s.used.set f true).drop 2).count true<=(s.used.drop 2).count true+1;rw[List.drop_set,if_neg (by omega)];exact rP _ _
 ·rename_i b;refine⟨a,by show Cn s<=_;omega,fun e j=>?_⟩;exfalso;have c:=rN _ _ _ b;have d:Cn s=(s.used.drop 2).length:=rO _ (fun g h=>by simp at h;have:=c (g+2) (by omega) (by omega);simpa[List.getD,Nat.add_comm] using this);rw[ET,a] at d;omega
theorem rQ:∀ (n:Nat) (a:dl),a.used.length=1000->gF a (ce n a).2 n
 | 0,a,h=>gF.refl h
 | n+1,a,h=>by
  have b:=vz h
  have c:=rQ n (cW a).2 b.len
  exact (b.trans c).more (by omega)
theorem nM:∀ (c:List (ByteArray × Int)) (a:dl),a.used.length=1000->(∀ b ∈ c,b.1.size<=400)->gF a (aA c a).2 (5*c.length)
 | [],a,h,_=>gF.refl h
 | y::r,a,h,hv=>by
  rw[aA]
  have g:=hv y (Et ..)
  split
  ·have f:gF a (fH y.1 a).2 ((y.1.size+95) / 96):=(rQ _ a h).log _
   have d:=nM r (fH y.1 a).2 f.len (fun b e=>hv b (EH _ e))
   exact (f.trans d).more (by simp;omega)
  ·have d:=nM r a h (fun b e=>hv b (EH _ e))
   exact d.more (by simp;omega)
theorem rR {o:Int} (h:aU p v o=true):v.size<=400:=by
 unfold aU at h;simp only[Em,Es] at h;exact h.1.1.1
theorem pR:∀ (c:List T) (a:dl),a.used.length=1000->(∀ b ∈ c,∀ a,a.used.length=1000->gF a (ai b a).2 (21*b.nodes))->gF a (av (c.map ai) a).2 (21*(c.map T.nodes).sum)
 | [],a,h,_=>gF.refl h
 | b::r,a,h,hk=>by
  have d:=hk b (Et ..) a h
  have e:=pR r (ai b a).2 d.len (fun f g=>hk f (EH _ g))
  rw[Ex,av]
  exact (d.trans e).more (by simp[Nat.mul_add])
theorem wX:∀ (t:T),(∃ e,t.good e=true)->∀ (a:dl),a.used.length=1000->gF a (ai t a).2 (21*t.nodes):=by
 intro t
 induction t using T.ind with
 |h t l=>
  rintro ⟨e,m⟩ a b;have c:=aF m;rw[bU];by_cases f:t.page≠0;·rw[if_pos f];exact (gF.refl b).more (En _)
  ·rw[if_neg f];have d:=pR t.kids a b (fun g i a b=>l g i ⟨false,c.2.2 g i⟩ a b);have j:gF (av (t.kids.map ai) a).2 (if t.leaf then aA (t.vals.zip t.over) (av (t.kids.map ai) a).2 else (t.over,(av (t.kids.map ai) a).2)).2 20:=by
    cases k:t.leaf;·exact (gF.refl d.len).more (En _)
    ·obtain⟨n,o,p⟩:=c.2.1 k;have u:t.keys.length<=4:=(by have:=c.1.2;simpa[T.size,k] using this);exact (nM _ _ d.len (fun q r=>rR (p q r))).more (by simp[n,o];omega)
   have s:=vz j.len;refine (((d.trans j).trans s).more ?_).log _;rw[T.nodes_eq t];omega
theorem pS {key:ByteArray} (e:t.good true=true) (f:bv t) (g:0<=t.ht) (h:bl t.slots) (i:∃ s ∈ t.slots,s.1=key):(bq key t).nums.Sublist t.nums:=by
 have c:=Ay key t true e f g h i;unfold bq mV;split
 ·rename_i d;refine List.Sublist.trans ?_ c;generalize bQ key t=b at d ⊢;obtain⟨l,j⟩:=d;obtain⟨a,k⟩:∃ a,b.kids=[a]:=by
   match m:b.kids,j with
   | [a],_=>exact⟨a,rfl⟩
  rw[T.nums_eq b,k];simp
 ·exact c
theorem zd {key:ByteArray} (a:t.good true=true) (b:bv t) (c:0<=t.ht) (i:t.slots.all (fun s=>cy s.1)=true) (d:bl t.slots) (j:t.nums.Nodup) (e:∃ s ∈ t.slots,s.1=key) (k:(bq key t).nodes<=1000) :
  aZ ((bq key t).flat 0)∧rd ((bq key t).flat 0) (((bq key t).flat 0).length+1) 0=(bq key t,((bq key t).flat 0).length,false)∧(bq key t).slots=fI key t.slots∧bv (bq key t)∧0<=(bq key t).ht∧(bq key t).nums.Nodup:=by
 obtain⟨l,f,g,m,n,o⟩:=mW a b c d i e;have h:=(pS a b c d e).nodup j;obtain⟨p,q⟩:=oQ l f g k n (iY _ o) h;exact⟨p,q,m,f,g,h⟩
theorem jX {size:Nat} {v:Value} (h:w.ownsRow base e size v n xs) {g:Nat} (a:v.ownBlock=some g):∃ b,w.heap[g]?=some (.cells b e):=by
 rcases h.2 with ⟨rfl,_⟩ | ⟨d,f,b,rfl,_,c,_⟩;·simp[Value.ownBlock] at a
 ·simp[Value.ownBlock] at a;subst a;exact⟨b,c⟩
theorem bh {size t:Nat} {v:Value} {cs:Array Value} (h:w.ownsRow base e size v n xs) (b:w.heap[g]?=some (.cells cs t)) (c:e≠t):v.ownBlock≠some g:=fun e=>by
 obtain⟨d,a⟩:=jX h e
 rw[b] at a
 simp at a
 exact c a.2.symm
def ZP (P U:Nat) (pv nv:Value) (g:Nat):Prop:=g=P∨g=U∨pv.ownBlock=some g∨nv.ownBlock=some g
def NK (w:World) (g:Nat):Prop:=∀ cs e,w.heap[g]?=some (.cells cs e)->e≠107∧e≠109
theorem jt {cs:Array Value} (h:w.heap[g]?=some (.cells cs e)) (b:e≠107) (c:e≠109):NK w g:=fun d f a=>by
 rw[h] at a
 simp at a
 rw[<-a.2]
 exact⟨b,c⟩
theorem qg {size:Nat} {v:Value} (h:w.ownsRow base e size v n xs) (a:v.ownBlock=some g) (b:e≠107) (c:e≠109):NK w g:=by
 obtain⟨f,d⟩:=jX h a;exact jt d b c
def iM (X:Nat->Prop) (w:World) (tx:Int) (cs:List Value) (c:mf):Prop:=∃ (ka:Option Addr) (kc:Nat) (ea:Option Addr) (ec:Nat),cs=[.int .i64 c.kind,.int .i64 tx,.int .i64 0,.int .i64 0,.int .i64 0,.slice ka c.kids.length kc,.slice ea c.ents.length ec,.int .i64 c.next,.string c.data] ∧
 w.ownsRow 0 107 2 (.slice ka c.kids.length kc) c.kids.length (aa ft c.kids)∧w.ownsRow 0 109 4 (.slice ea c.ents.length ec) c.ents.length (aa fu c.ents)∧(∀ g,(Value.slice ka c.kids.length kc).ownBlock=some g->¬ X g)∧∀ g,(Value.slice ea c.ents.length ec).ownBlock=some g->¬ X g
theorem iM.fr {c:mf} (h:iM X w tx cs c) (f:Fr S w w') (i:∀ g,S g->X g∨NK w g):iM X w' tx cs c:=by
 obtain⟨o,p,ea,ec,e,j,k,l,m⟩:=h;refine⟨o,p,ea,ec,e,am j f (fun g a b=>?_),am k f (fun g a b=>?_),l,m⟩;·obtain⟨q,d⟩:=jX j a;exact (i g b).elim (l g a) (fun n=>(n _ _ d).1 rfl)
 ·obtain⟨q,d⟩:=jX k a;exact (i g b).elim (m g a) (fun n=>(n _ _ d).2 rfl)
theorem iM.below {c:mf} (h:iM X w tx cs c) (a:Below w.heap.size w w'):iM X w' tx cs c:=h.fr (S:=fun _=>False) (Fr.of_below a) (fun _ e=>e.elim)
theorem iM.less {c:mf} (h:iM X w tx cs c) (d:∀ g,Y g->g<w.heap.size->X g):iM Y w tx cs c:=by
 obtain⟨j,k,ea,ec,e,f,i,l,m⟩:=h;exact⟨j,k,ea,ec,e,f,i,fun g a b=>l g a (d g b (f.lt g a).2),fun g a b=>m g a (d g b (i.lt g a).2)⟩
theorem iM.over (nx:Int) (d:ByteArray):iM X w tx [.int .i64 4,.int .i64 tx,.int .i64 0,.int .i64 0,.int .i64 0,.slice none 0 0,.slice none 0 0,.int .i64 nx,.string d] (.over nx d):=⟨none,0,none,0,rfl,⟨rfl,.inl ⟨rfl,rfl⟩⟩,⟨rfl,.inl ⟨rfl,rfl⟩⟩,fun g e=>by simp[Value.ownBlock] at e,fun g e=>by simp[Value.ownBlock] at e⟩
structure dR (X:Nat->Prop) (w:World) (P U:Nat) (pv:Value) (a:Nat) (nv:Value) (b:Nat) (tx:Int) (s:dl):Prop where
 box:w.heap[P]?=some (.cells #[.slice (some ⟨U,0,none⟩) 1000 1000,.int .i64 tx,pv,nv,.bool s.bad] 63)
 us:w.heap[U]?=some (.cells (s.used.map Value.bool).toArray 4)
 len:s.used.length=1000
 pgs:∃ css:List (List Value),w.ownsRow 0 104 9 pv a css.flatten∧css.length=a∧∀ (i:Nat) cs,css[i]?=some cs->∃ n c,s.log[i]?=some (n,c)∧iM X w tx cs c
 nms:w.ownsRow 0 2 1 nv b (aa ac ((s.log.take b).map Prod.fst))
theorem dR.prow {s:dl} (h:dR X w P U pv a nv b tx s):∃ xs,w.ownsRow 0 104 9 pv a xs:=by
 obtain⟨d,c,_⟩:=h.pgs;exact⟨_,c⟩
theorem dR.nrow {s:dl} (h:dR X w P U pv a nv b tx s):∃ xs,w.ownsRow 0 2 1 nv b xs:=⟨_,h.nms⟩
theorem dR.ne {s:dl} (h:dR X w P U pv a nv b tx s):P≠U:=fun e=>by
 have c:=h.box
 rw[e,h.us] at c
 simp at c
theorem dR.lt {s:dl} (h:dR X w P U pv a nv b tx s) {g:Nat} (c:ZP P U pv nv g):g<w.heap.size:=by
 obtain⟨xs,d⟩:=h.prow;obtain⟨f,e⟩:=h.nrow;rcases c with rfl | rfl | c | c;·exact (Za h.box)
 ·exact (Za h.us)
 ·exact (d.lt g c).2
 ·exact (e.lt g c).2
theorem ue {l:List (Int × mf)} {css:List (List Value)} (h:∀ (a:Nat) cs,css[a]?=some cs->∃ n b,l[a]?=some (n,b)∧iM X w tx cs b) (c:Fr S w w') (d:∀ g,S g->X g∨NK w g):∀ (a:Nat) cs,css[a]?=some cs->∃ n b,l[a]?=some (n,b)∧iM X w' tx cs b:=fun a cs f=>by
 obtain⟨n,b,e,i⟩:=h a cs f
 exact⟨n,b,e,i.fr c d⟩
theorem dR.fr {s:dl} (h:dR X w P U pv a nv b tx s) (c:Fr S w w') (d:∀ g,ZP P U pv nv g->¬ S g) (f:∀ g,S g->X g∨NK w g):dR X w' P U pv a nv b tx s:=by
 obtain⟨i,j,k,l⟩:=h.pgs
 exact⟨(c.block P (h.lt (.inl rfl)) (d P (.inl rfl))).trans h.box,(c.block U (h.lt (.inr (.inl rfl))) (d U (.inr (.inl rfl)))).trans h.us,h.len,
  ⟨i,am j c (fun g e=>d g (.inr (.inr (.inl e)))),k,ue l c f⟩,am h.nms c (fun g e=>d g (.inr (.inr (.inr e))))⟩
theorem dR.below {s:dl} (h:dR X w P U pv a nv b tx s) (c:Below w.heap.size w w'):dR X w' P U pv a nv b tx s:=h.fr (S:=fun _=>False) (Fr.of_below c) (fun _ _ e=>e) (fun _ e=>e.elim)
theorem dR.less {s:dl} (h:dR X w P U pv a nv b tx s) (c:∀ g,Y g->g<w.heap.size->X g):dR Y w P U pv a nv b tx s:=by
 obtain⟨d,f,i,j⟩:=h.pgs;refine⟨h.box,h.us,h.len,⟨d,f,i,fun k cs l=>?_⟩,h.nms⟩;obtain⟨n,m,e,o⟩:=j k cs l;exact⟨n,m,e,o.less c⟩
theorem dR.apart {s:dl} (h:dR X w P U pv a nv b tx s):pv.ownBlock≠some P∧pv.ownBlock≠some U∧nv.ownBlock≠some P∧nv.ownBlock≠some U∧∀ g,pv.ownBlock=some g->nv.ownBlock≠some g:=by
 obtain⟨xs,c⟩:=h.prow;obtain⟨i,d⟩:=h.nrow;refine⟨bh c h.box (by decide),bh c h.us (by decide),bh d h.box (by decide),bh d h.us (by decide),fun g e=>?_⟩;obtain⟨j,f⟩:=jX c e;exact bh d f (by decide)
theorem dR.nk {s:dl} (h:dR X w P U pv a nv b tx s) {g:Nat} (c:ZP P U pv nv g):NK w g:=by
 obtain⟨xs,d⟩:=h.prow;rcases c with rfl | rfl | c | c;·exact jt h.box (by decide) (by decide)
 ·exact jt h.us (by decide) (by decide)
 ·exact qg d c (by decide) (by decide)
 ·exact qg h.nms c (by decide) (by decide)
theorem dJ {a b c d e:Value} {t:TypeId} (h:w.heap[N]?=some (.cells #[a,b,c,d,e] t)):w.cell? ⟨N,0,none⟩=some a∧w.cell? ⟨N,1,none⟩=some b∧w.cell? ⟨N,2,none⟩=some c∧w.cell? ⟨N,3,none⟩=some d∧w.cell? ⟨N,4,none⟩=some e:=by
 simp[World.cell?,h]
theorem dR.cell {s:dl} (h:dR X w P U pv a nv b tx s) {i:Nat} (d:i<1000):w.cell? ⟨U,i,none⟩=some (.bool (s.used.getD i true)):=by
 have e:=h.len;have c:i<s.used.length:=by omega
 simp[World.cell?,h.us,List.getD,Eh c]
theorem dR.mark {s:dl} (h:dR X w P U pv a nv b tx s) (i:Nat):dR X (w.setCell ⟨U,i,none⟩ (.bool true)) P U pv a nv b tx { s with used:=s.used.set i true }:=by
 have c:=af w U i (.bool true);obtain⟨o,f,p,j,q⟩:=h.apart;obtain⟨k,l,m,n⟩:=h.pgs;refine⟨(c.block P (h.lt (.inl rfl)) h.ne).trans h.box,?_,by simp[h.len],⟨k,am l c (fun g e d=>f (by rw[e,d])),m,ue n c (fun g e=>.inr (e ▸ h.nk (.inr (.inl rfl))))⟩,am h.nms c (fun g e d=>j (by rw[e,d]))⟩;rw[aj h.us];simp[List.map_set]
theorem dR.fail {s:dl} (h:dR X w P U pv a nv b tx s):dR X (w.setCell ⟨P,4,none⟩ (.bool true)) P U pv a nv b tx { s with bad:=true }:=by
 have c:=af w P 4 (.bool true);obtain⟨f,n,i,o,p⟩:=h.apart;obtain⟨j,k,l,m⟩:=h.pgs;refine⟨?_,(c.block U (h.lt (.inr (.inl rfl))) (fun e=>h.ne e.symm)).trans h.us,h.len,⟨j,am k c (fun g e d=>f (by rw[e,d])),l,ue m c (fun g e=>.inr (e ▸ h.nk (.inl rfl)))⟩,am h.nms c (fun g e d=>i (by rw[e,d]))⟩;rw[aj h.box];simp
theorem dR.pushP {v':Value} {s:dl} {css:List (List Value)} {c:mf} {m:Int} (h:dR X w P U pv a nv b tx s) (r:css.length=a) (t:∀ (d:Nat) cs,css[d]?=some cs->∃ n c,s.log[d]?=some (n,c)∧iM X w tx cs c) (u:s.log[a]?=some (m,c)) (v:iM X w tx cs c) (l:w'.ownsRow 0 104 9 v' (a+1) (css.flatten++cs)) (x:w.grownBy w' pv.ownBlock):dR X (w'.setCell ⟨P,2,none⟩ v') P U v' (a+1) nv b tx s:=by
 have k:=af w' P 2 v';have i:=Fr.of_grown x (fun g e=>e);obtain⟨y,z,A,I,B⟩:=h.apart;have o:=(i.block P (h.lt (.inl rfl)) y).trans h.box;have C:=(i.block U (h.lt (.inr (.inl rfl))) z).trans h.us;have D:=am h.nms i (fun g e j=>B g j e);have p:Fr (fun g=>pv.ownBlock=some g∨g=P) w (w'.setCell ⟨P,2,none⟩ v'):=(i.weak (fun g e=>.inl e)).trans (k.weak (fun g e=>.inr e));have q:∀ g,(pv.ownBlock=some g∨g=P)->X g∨NK w g:=fun g e=>.inr (e.elim (fun e=>h.nk (.inr (.inr (.inl e)))) (fun e=>e ▸ h.nk (.inl rfl)));refine⟨?_,(k.block U (Er (h.lt (.inr (.inl rfl))) i.size) (fun e=>h.ne e.symm)).trans C,h.len,⟨css++[cs],by rw[Fc];simpa using am l k (fun g e j=>bh l o (by decide) (by rw[e,j])),by simp[r],fun d E f=>?_⟩,am D k (fun g e j=>A (by rw[e,j]))⟩;·rw[aj o];simp
 ·by_cases F:d<css.length;·rw[EE F] at f;obtain⟨n,c,e,G⟩:=t d E f;exact⟨n,c,e,G.fr p q⟩
  ·rw[EB (by omega)] at f;have H:d - css.length=0:=(by have:=Zc f;simp at this;omega);rw[H] at f;simp at f;subst f;obtain rfl:d=a:=(by omega);exact⟨m,c,u,v.fr p q⟩
theorem AV {l:List (Int × mf)} {y:Int} {c:mf} (h:l[b]?=some (y,c)):aa ac ((l.take b).map Prod.fst)++[.int .i64 y]=aa ac ((l.take (b+1)).map Prod.fst):=by
 rw[List.take_add_one,h];simp[aa,ac]
theorem dR.pushN {v':Value} {y:Int} {s:dl} {c:mf} (h:dR X w P U pv a nv b tx s) (l:s.log[b]?=some (y,c)) (j:w'.ownsRow 0 2 1 v' (b+1) (aa ac ((s.log.take b).map Prod.fst)++[.int .i64 y])) (m:w.grownBy w' nv.ownBlock):dR X (w'.setCell ⟨P,3,none⟩ v') P U pv a v' (b+1) tx s:=by
 have i:=af w' P 3 v';have d:=Fr.of_grown m (fun g e=>e);obtain⟨n,C,o,p,q⟩:=h.apart;obtain⟨r,t,u,v⟩:=h.pgs;have k:=(d.block P (h.lt (.inl rfl)) o).trans h.box;have x:=(d.block U (h.lt (.inr (.inl rfl))) p).trans h.us;have z:=am t d (fun g e f=>q g e f);have A:Fr (fun g=>nv.ownBlock=some g∨g=P) w (w'.setCell ⟨P,3,none⟩ v'):=(d.weak (fun g e=>.inl e)).trans (i.weak (fun g e=>.inr e));have B:∀ g,(nv.ownBlock=some g∨g=P)->X g∨NK w g:=fun g e=>.inr (e.elim (fun e=>h.nk (.inr (.inr (.inr e)))) (fun e=>e ▸ h.nk (.inl rfl)));rw[AV l] at j;refine⟨?_,(i.block U (Er (h.lt (.inr (.inl rfl))) d.size) (fun e=>h.ne e.symm)).trans x,h.len,⟨r,am z i (fun g e f=>n (by rw[e,f])),u,ue v A B⟩,am j i (fun g e f=>bh j k (by decide) (by rw[e,f]))⟩;rw[aj k];simp
theorem dR.log {s:dl} (h:dR X w P U pv a nv b tx s) (l:List (Int × mf)):dR X w P U pv a nv b tx { s with log:=s.log++l }:=by
 obtain⟨d,f,g,i⟩:=h.pgs;have j:b<=s.log.length:=by have:=h.nms.1;rw[ay (m:=1) (cs:=ac) (fun _=>rfl),EZ,Eu] at this;omega
 refine⟨h.box,h.us,h.len,⟨d,f,g,fun c cs k=>?_⟩,?_⟩;·obtain⟨n,o,e,p⟩:=i c cs k;exact⟨n,o,by show (s.log++l)[c]?=_;rw[EE (Zc e),e],p⟩
 ·show w.ownsRow _ _ _ _ _ (aa ac (((s.log++l).take b).map Prod.fst));rw[EM j];exact h.nms
theorem mp (X:Nat->Prop) (P U a b:Nat) (pv nv:Value) (tx:Int) (s:dl) (w:World) (h:dR X w P U pv a nv b tx s) :
  Calls prog 42 #[.pointer (some ⟨P,0,none⟩)] w fun e w'=>e=.returned (.int .i64 (cW s).1)∧dR X w' P U pv a nv b tx (cW s).2∧Fr (fun g=>g=P∨g=U) w w':=by
 obtain⟨p,q1,q2,q3,q⟩:=dJ h.box;have r:=ar h.box;have t:=ar h.us;have u:=h.lt (.inl rfl);have v:=h.lt (.inr (.inl rfl));have f:=hidI h;clear h;go_enter func42,ntmps42;go_wp2_with fail
 go_loopw [3] (fun i wr=>∃ c:Nat,2<=c∧c<=1000∧i=.int .i64 c∧wr=w∧Hid (di s.used 2 998=di s.used c (1000 - c))) (fun i _=>1000 - (intOf i).toNat)
 case atStart=>exact⟨2,by omega,by omega,rfl,rfl,rfl⟩
 case round =>
  obtain⟨c,x,y,rfl,rfl,j⟩:=hrel;by_cases n:c<1000
  ·have l:=f.out.cell n;have m:Hid (di s.used c (1000 - c)=if s.used.getD c true then di s.used (c+1) (1000 - (c+1)) else some c):=(by show _=_;rw[show 1000 - c=(1000 - (c+1))+1 by omega,di]);cases d:s.used.getD c true;·have k:Hid (cW s=((c:Int),{ s with used:=s.used.set c true })):=(by show _=_;unfold cW;rw[j.out,m.out,d];rfl);rw[d] at l;(go_wp2_with fail);go_ret;rw[k.out];exact⟨rfl,f.out.mark c,(af wr U c (.bool true)).weak (fun g e=>.inr e)⟩
   ·have o:Hid (di s.used 2 998=di s.used (c+1) (1000 - (c+1))):=(by show _=_;rw[j.out,m.out,d];rfl);rw[d] at l;(go_wp2_with fail);go_roundw
    case rel=>exact⟨c+1,by omega,by omega,by go_num,trivial,o⟩
    case measure=>simp[intOf];omega
  ·have k:Hid (cW s=(0,{ s with bad:=true })):=(by show _=_;unfold cW;rw[j.out,show 1000 - c=0 by omega,di]);go_wp2_with fail
   go_ret;rw[k.out];exact⟨rfl,f.out.fail,(af wr P 4 (.bool true)).weak (fun g e=>.inl e)⟩
theorem mq:(prog.info? 104).map (fun a=>(a.zero,a.size,a.bytes))=some (some (.agg #[.int .i64 0,.int .i64 0,.int .i64 0,.int .i64 0,.int .i64 0,.slice none 0 0,.slice none 0 0,.int .i64 0,.string ByteArray.empty]),9,112):=by kernel_rfl
theorem dA (w:World) (a:Value) (t:TypeId):∀ b c,[a][b]?=some c->(w.alloc (.cells #[a] t)).cell? ((⟨w.heap.size,0,none⟩:Addr).add b)=some c:=by
 intro b c d
 match b,d with
 | 0,d=>simpa[Addr.add] using d
theorem im (w:World) (a b c d e f g x i:Value) (t:TypeId):∀ j k,[a,b,c,d,e,f,g,x,i][j]?=some k->(w.alloc (.cells #[a,b,c,d,e,f,g,x,i] t)).cell? ((⟨w.heap.size,0,none⟩:Addr).add j)=some k:=by
 intro j k h
 match j,h with
 | 0,h=>simpa[Addr.add] using h
 | 1,h=>simpa[Addr.add] using h
 | 2,h=>simpa[Addr.add] using h
 | 3,h=>simpa[Addr.add] using h
 | 4,h=>simpa[Addr.add] using h
 | 5,h=>simpa[Addr.add] using h
 | 6,h=>simpa[Addr.add] using h
 | 7,h=>simpa[Addr.add] using h
 | 8,h=>simpa[Addr.add] using h
theorem oD {a b c d e f g i v8:Value} {t:TypeId} (h:w.heap[N]?=some (.cells #[a,b,c,d,e,f,g,i,v8] t)):w.cell? ⟨N,0,none⟩=some a∧w.cell? ⟨N,1,none⟩=some b∧w.cell? ⟨N,2,none⟩=some c∧w.cell? ⟨N,3,none⟩=some d∧w.cell? ⟨N,4,none⟩=some e∧w.cell? ⟨N,5,none⟩=some f∧w.cell? ⟨N,6,none⟩=some g∧w.cell? ⟨N,7,none⟩=some i∧w.cell? ⟨N,8,none⟩=some v8:=by
 simp[World.cell?,h]
theorem jY:∀ (n:Nat) (a:dl),ce (n+1) a=((ce n a).1++[(cW (ce n a).2).1],(cW (ce n a).2).2)
 | 0,a=>by simp[ce]
 | n+1,a=>by
  have b:=jY n (cW a).2
  rw[ce,b]
  simp[ce]
theorem uf (s:dl):(cW s).2.log=s.log:=by
 unfold cW;split<;>rfl
theorem qi:∀ (n:Nat) (a:dl),(ce n a).2.log=a.log
 | 0,a=>rfl
 | n+1,a=>by rw[ce];exact (qi n _).trans (uf a)
theorem eL (l:List Int) (j:Nat) (h:j<l.length):(aa ac l)[j]?=some (.int .i64 (l.getD j 0)):=by
 have:=bI (cs:=ac) (m:=1) (fun _=>rfl) 0 l j 0 h (by omega);simpa[ac] using this
theorem ZP.next {M:Nat} {a b c d:Value} (h:∀ g,ZP P U a b g->ZP P U pv nv g∨N<=g) (i:∀ g,c.ownBlock=some g->a.ownBlock=some g∨M<=g) (j:∀ g,d.ownBlock=some g->b.ownBlock=some g∨M<=g) (f:N<=M):∀ g,ZP P U c d g->ZP P U pv nv g∨N<=g:=by
 intro g k;rcases k with e | e | e | e;·exact .inl (.inl e)
 ·exact .inl (.inr (.inl e))
 ·rcases i g e with e | e;·exact h g (.inr (.inr (.inl e)))
  ·exact .inr (Eo f e)
 ·rcases j g e with e | e;·exact h g (.inr (.inr (.inr e)))
  ·exact .inr (Eo f e)
theorem Fr.up3 {T:Nat->Prop} {a b c:World} (h:Fr S a b) (k:Fr T b c) (i:∀ g,T g->S g∨a.heap.size<=g):Fr S a c :=
 ⟨k.1.trans h.1,k.2.trans h.2,k.3.trans h.3,Eo h.size k.size,fun g d f=>(k.block g (Er d h.size) (fun e=>(i g e).elim f (fun e=>by omega))).trans (h.block g d f)⟩
theorem Fr.zp {c d:Value} {a b:World} (h:Fr (ZP P U pv nv) w a) (f:∀ g,ZP P U c d g->ZP P U pv nv g∨w.heap.size<=g) (i:Fr S a b) (j:∀ g,S g->ZP P U c d g∨w.heap.size<=g):Fr (ZP P U pv nv) w b :=
 h.up3 i (fun g e=>by
  rcases j g e with e | e
  ·exact f g e
  ·exact .inr e)
theorem vY (t:Nat->Prop) (P U a b:Nat) (pv nv:Value) (tx:Int) (s:dl) (w:World) (h:dR t w P U pv a nv b tx s) (bf:a=s.log.length) (bg:b=s.log.length) (v:ByteArray) (cz:0<v.size) (cA:v.size<=400) (cB:a<=1000000) (cC:b<=1000000) :
  Calls prog 41 #[.pointer (some ⟨P,0,none⟩),.string v] w fun e w'=>∃ bi bj,e=.returned (.int .i64 (fH v s).1)∧dR t w' P U bi (a+(v.size+95) / 96) bj (b+(v.size+95) / 96) tx (fH v s).2∧Fr (ZP P U pv nv) w w'∧∀ g,ZP P U bi bj g->ZP P U pv nv g∨w.heap.size<=g:=by
 obtain⟨N,au⟩:=Zn w.heap.size;obtain⟨I,aG⟩:=Zn ((v.size+95) / 96);have bR:=hidI aG;have bS:0<I:=by omega
 have cD:I<=5:=by omega
 obtain⟨n,bT⟩:=Zn v.size;have bU:=hidI bT;have bV:96*I<n+96∧n<=96*I:=by omega
 obtain⟨cE,cF⟩:=bV;have cG:n<=400:=by omega
 obtain⟨bW,bX,bY,bZ,b0⟩:=info_parts mq;obtain⟨bk,bl,bm,bn,bo⟩:=info_parts du;have q:Hid (a=s.log.length∧b=s.log.length):=⟨bf,bg⟩;have bp:=hidI h;have cH:=h.lt (.inl rfl);have cI:=h.lt (.inr (.inl rfl));have aH:Below w.heap.size w (w.alloc (.cells #[] 2)):=Zb _ _;have aI:=dp w 2 1 N (by omega);have X:=h.below aH;have Q:Fr (ZP P U pv nv) w _:=Fr.of_below aH;rw[aG];clear h aG bf bg;go_enter func41,ntmps41;go_wp2_with fail
 go_loopw [5,6] (fun b1 Y wr=>∃ (d:Nat) (xa:Option Addr) (xc:Nat),d<=I∧Y=.int .i64 ((96*d:Nat):Int)∧b1=.slice xa d xc∧Hid (wr.ownsRow N 2 1 (.slice xa d xc) d (aa ac (ce d s).1))∧Hid (dR t wr P U pv a nv b tx (ce d s).2)∧Hid (Fr (ZP P U pv nv) w wr)) (fun _ Y _=>96*I - (intOf Y).toNat)
 case atStart=>exact⟨0,some ⟨N,0,none⟩,0,En _,rfl,rfl,by show World.ownsRow _ _ _ _ _ _ _;rw[au] at aI;exact aI,X,Q⟩
 case round =>
  clear aI X Q aH;obtain⟨d,xa,xc,cJ,rfl,rfl,r,k,B⟩:=hrel;have bq:=B.out.size;have br:=k.out.lt (.inl rfl);by_cases cK:96*d<n
  ·have aJ:=mp t P U a b pv nv tx (ce d s).2 wr k.out;obtain⟨av,aK⟩:=Zn ((cW (ce d s).2).1);have b2:=hidI aK;rw[aK] at aJ;clear aK;go_wp2_with fail
   refine aJ.mono ?_;rintro e w1 ⟨rfl,bs,aL⟩;have X:Hid (dR t w1 P U pv a nv b tx (ce (d+1) s).2):=(by show dR _ _ _ _ _ _ _ _ _ _;rw[jY];exact bs);have bt:=am r.out aL (fun g e x=>by have:=(r.out.lt g e).1;rcases x with rfl | rfl<;>omega);have Q:=hidI (B.out.trans (aL.weak (fun g e=>e.elim .inl (fun e=>.inr (.inl e)))));have cL:=Q.out.size;have aw:=hidI bt;clear bs aL aJ k r B bt;go_wp2_with (at_builtin;refine ak _ rfl _ _ 29 rfl N 2 bk _ 1 8 underlying29 bl bm bn bo rfl (by decide) (.slice xa d xc) d _ rfl (an aw.out (Zb _ (.cells #[.int .i64 av] 2))) ⟨w1.heap.size,0,none⟩ 1 1 [.int .i64 av] rfl rfl (dA w1 (.int .i64 av) 2) (by simp[Value.oneCell']) (by unfold maxLen;omega) (by omega) (by simp;omega) ?_;intro cN b3 aM bu b4)
   obtain⟨bv,bw,rfl⟩:=ao aM;have aN:=(Fr.of_below (Zb _ _)).trans (Fr.of_grown bu (fun g e=>e));have aO:∀ g,(Value.slice xa d xc).ownBlock=some g->N<=g:=fun g e=>(aw.out.lt g e).1;have b5:=hidI (X.out.fr aN (fun g b6 e=>by have:=aO g e;have:=bp.out.lt b6;omega) (fun g e=>.inr (qg aw.out e (by decide) (by decide))));have b7:=hidI (Q.out.up2 aN (fun g e=>by have:=aO g e;omega));have b8:Hid (b3.ownsRow N 2 1 (.slice bv (d+1) bw) (d+1) (aa ac (ce (d+1) s).1)):=(by show World.ownsRow _ _ _ _ _ _ _;rw[jY,aD,b2.out];exact aM);clear aM bu b4 aN aO X Q aw;go_roundw
   case rel=>exact⟨d+1,bv,bw,by omega,by go_num,rfl,b8,b5,b7⟩
   case measure=>simp[intOf];omega
  ·obtain rfl:d=I:=(by omega);have b9:=dz r.out bS;obtain⟨l,rfl⟩:=b9;have R:=hidI (mU d s);obtain⟨i,aP⟩:=Zn ((ce d s).1);obtain⟨j,ax⟩:=Zn ({ (ce d s).2 with log:=(ce d s).2.log++iE v i });have bx:Hid ({ (ce d s).2 with log:=(ce d s).2.log++iE v i }=j∧(ce d s).1=i):=⟨ax,aP⟩;rw[aP] at r R;have bz:Hid (dR t wr P U pv a nv b tx j):=(by show dR _ _ _ _ _ _ _ _ _ _;rw[<-ax];exact k.out.log _);have b':Hid (∀ c,c<d->j.log[a+c]?=some (i.getD c 0,.over (if v.size<=(c+1)*96 then 0 else i.getD (c+1) 0) (v.extract (c*96) (min ((c+1)*96) v.size)))∧j.log[b+c]?=j.log[a+c]?):=fun c bA=>(by rw[q.out.1,q.out.2];refine⟨?_,rfl⟩;rw[<-ax];show ((ce d s).2.log++iE v i)[s.log.length+c]?=_;rw[qi,EB (by omega),Nat.add_sub_cancel_left];have C:c<i.length:=(by rw[R.out];exact bA);simp[iE,List.getElem?_map,List.getElem?_range,C]);clear ax aP k;have k:=bz;clear bz;have bB:=r.out.lt l rfl;go_wp2_with fail
   go_loopg [8] d (fun ca Y aQ=>∃ (c:Nat) (pa:Option Addr) (pc:Nat) (na:Option Addr) (nc:Nat),c<=d∧ca=d - c∧Y=.int .i64 (c:Int)∧Hid (aQ.ownsRow N 2 1 (.slice (some ⟨l,0,none⟩) d xc) d (aa ac i))∧Hid (dR t aQ P U (.slice pa (a+c) pc) (a+c) (.slice na (b+c) nc) (b+c) tx j)∧Hid (Fr (ZP P U pv nv) w aQ)∧Hid (∀ g,ZP P U (.slice pa (a+c) pc) (.slice na (b+c) nc) g->ZP P U pv nv g∨N<=g)∧Hid ((Value.slice na (b+c) nc).ownBlock≠some l))
   case atStart =>obtain⟨cO,cb⟩:=k.out.prow;obtain⟨cP,cc⟩:=k.out.nrow;obtain⟨pa,pc,rfl⟩:=ao cb;obtain⟨na,nc,rfl⟩:=ao cc;exact⟨0,pa,pc,na,nc,En _,rfl,rfl,r,k,B,fun g e=>.inl e,fun e=>by have:=bp.out.lt (.inr (.inr (.inr e)));omega⟩
   case round =>
    clear r k B bq br bB;obtain⟨c,pa,pc,na,nc,bA,rfl,rfl,r,k,B,Z,aR⟩:=hrel;have bB:=r.out.lt l rfl;have bq:=B.out.size;have br:=k.out.lt (.inl rfl);have ay:=fun cd cf=>r.out.cellAt cd cf;by_cases cg:c<d
    ·obtain⟨ab,q1,q2,q3,ad⟩:=dJ k.out.box;obtain⟨A,ae⟩:=Zn (a+c);obtain⟨Bn,S⟩:=Zn (b+c);have ag:Hid (a+c=A∧b+c=Bn):=⟨ae,S⟩;have az:=b'.out c cg;rw[ae,S] at az;have cQ:A<=1000100:=(by omega);have cR:Bn<=1000100:=(by omega);rw[ae,S] at k Z;rw[S] at aR;rw[ae] at q2;rw[S] at q3;clear ae S;have bC:=hidI r.out;have bD:=hidI k.out;obtain⟨F,aS⟩:=Zn (i.getD c 0);have ch:Hid (∀ f:World,f.ownsRow N 2 1 (.slice (some ⟨l,0,none⟩) d xc) d (aa ac i)->f.cell? ⟨l,c,none⟩=some (.int .i64 F)):=fun f ci=>(by have:=ci.cellAt c (by omega);rw[this,eL i c (by rw[R.out];omega),aS]);have bE:Hid (j.log[A]?=some (F,.over (if n<=(c+1)*96 then 0 else i.getD (c+1) 0) (v.extract (c*96) (min ((c+1)*96) n)))∧j.log[Bn]?=j.log[A]?):=(by rw[aS,bU.out] at az;exact az);clear aS r k az;(go_upto_if 41 with fail);go_cut [10] (fun e aA=>∃ (J:Nat) (y:Int),e=.int .i64 (J:Int)∧c*96<=J∧J<=n∧Hid (J=min ((c+1)*96) n∧y=if n<=(c+1)*96 then 0 else i.getD (c+1) 0)∧aA=wr.alloc (.cells #[.int .i64 4,.int .i64 tx,.int .i64 0,.int .i64 0,.int .i64 0,.slice none 0 0,.slice none 0 0,.int .i64 y,.string ⟨#[]⟩] 104))
     case first =>
      by_cases bF:n<=(c+1)*96
      ·(go_wp2_with fail);go_meet
       exact⟨n,0,rfl,by omega,by omega,⟨by omega,by rw[if_pos bF]⟩,rfl⟩
      ·have aB:=ay (c+1) (by omega);rw[eL i (c+1) (by rw[R.out];omega)] at aB;(go_wp2_with fail);go_meet
       exact⟨(c+1)*96,_,by go_num,by omega,by omega,⟨by omega,by rw[if_neg bF];rfl⟩,rfl⟩
     case rest =>
      obtain⟨J,y,rfl,cS,cT,aT,rfl⟩:=hcut;have ah:Hid (j.log[A]?=some (F,.over y (v.extract (c*96) J))∧j.log[Bn]?=j.log[A]?):=by show _∧_;rw[aT.out.1,aT.out.2];exact bE.out
      (go_upto_region 16 with fail);generalize v.extract (c*96) J=K at ah ⊢;obtain⟨aU,aV⟩:=Zn (mf.over y K);have cj:=hidI aV;rw[aV] at ah;obtain⟨aW,bG⟩:∃ aW,aW=F:=⟨_,rfl⟩;have ck:=hidI bG;clear aV bG aT bE;clear ay;have ai:=Zb wr (.cells #[.int .i64 4,.int .i64 tx,.int .i64 0,.int .i64 0,.int .i64 0,.slice none 0 0,.slice none 0 0,.int .i64 y,.string K] 104);have aC:=Ej wr (.cells #[.int .i64 4,.int .i64 tx,.int .i64 0,.int .i64 0,.int .i64 0,.slice none 0 0,.slice none 0 0,.int .i64 y,.string K] 104);generalize wr.alloc (.cells #[.int .i64 4,.int .i64 tx,.int .i64 0,.int .i64 0,.int .i64 0,.slice none 0 0,.slice none 0 0,.int .i64 y,.string K] 104)=f at ai aC ⊢;have bH:=Za aC;have aj:Hid (j.log[A]?=some (aW,aU)∧iM t f tx [.int .i64 4,.int .i64 tx,.int .i64 0,.int .i64 0,.int .i64 0,.slice none 0 0,.slice none 0 0,.int .i64 y,.string K] aU):=⟨by rw[ck.out];exact ah.out.1,by rw[<-cj.out];exact iM.over _ _⟩;have z:=hidI (bD.out.below ai);have aX:=hidI (an bC.out ai);have bI:=hidI (B.out.trans (Fr.of_below ai));clear ai ab q1 q2 q3 ad bD bC;go_cut [] (fun aA=>∃ (L:Option Addr) (M:Nat),Hid (dR t aA P U (.slice L (A+1) M) (A+1) (.slice na Bn nc) Bn tx j∧Fr (fun g=>g=P∨(Value.slice pa A pc).ownBlock=some g) f aA∧∀ g,(Value.slice L (A+1) M).ownBlock=some g->(Value.slice pa A pc).ownBlock=some g∨f.heap.size<=g))
      case first =>
       have G:=(Ev f.heap.size f).drew;have q:Hid (Below f.heap.size f ((f.alloc (.cells #[.int .i64 4,.int .i64 tx,.int .i64 0,.int .i64 0,.int .i64 0,.slice none 0 0,.slice none 0 0,.int .i64 y,.string K] 104)).drew)):=(Zb f _).drew;have p:=hidI (z.out.below q.out);obtain⟨ab,q1,q2,q3,ad⟩:=dJ (z.out.below G).box;obtain⟨aY,aZ,a0,a1,a2⟩:=dJ p.out.box;have a3:=z.out.lt (.inl rfl);have al:=p.out.lt (.inl rfl);obtain⟨cl,ap,cm,cn⟩:=p.out.pgs;have co:=hidI (aj.out.2.below q.out);have a4:=hidI aj.out.1;have bJ:=(G.block wr.heap.size bH).trans aC;obtain⟨cU,cV,cX,cY,cZ,c0,c1,c2,c3⟩:=oD bJ;have c4:=Za bJ;go_region_law (refine cM rfl _ _ 28 rfl 0 104 bW _ 9 112 underlying28 bX bY bZ b0 rfl (by decide) (.slice pa A pc) A cl.flatten (by simp[Act.eval]) ap ⟨f.drew.heap.size,0,none⟩ 1 1 [.int .i64 4,.int .i64 tx,.int .i64 0,.int .i64 0,.int .i64 0,.slice none 0 0,.slice none 0 0,.int .i64 y,.string K] (by simp[Act.eval]) rfl (im _ _ _ _ _ _ _ _ _ _ _) (by simp[Value.oneCell']) (by unfold maxLen;omega) (by omega) (En _) ?_;intro cp u O D aq;obtain⟨m,o,rfl⟩:=ao O;have E:u.heap[P]?=_:=(D.block P al (fun e=>p.out.apart.1 e.symm)).trans p.out.box;obtain⟨a5,a6,a7,a8,a9⟩:=dJ E;have a':=ar E;have ba:P<u.heap.size:=(Za E))
       all_goals
        have aE:Hid (dR t (u.setCell ⟨P,2,none⟩ (.slice m (A+1) o)) P U (.slice m (A+1) o) (A+1) (.slice na Bn nc) Bn tx j∧Fr (fun g=>g=P∨(Value.slice pa A pc).ownBlock=some g) f (u.setCell ⟨P,2,none⟩ (.slice m (A+1) o))∧∀ g,(Value.slice m (A+1) o).ownBlock=some g->(Value.slice pa A pc).ownBlock=some g∨f.heap.size<=g):=by
         refine⟨p.out.pushP cm cn a4.out co.out O D,((Fr.of_below q.out).trans (Fr.of_grown D (fun g e=>.inr e))).trans ((af u P 2 _).weak (fun g e=>.inl e)),fun g e=>?_⟩;rcases aq with C | C;·rw[C] at e;exact .inl e
         ·exact .inr (Eo q.out.size (C g e))
        clear O D aq E ap p q aY aZ a0 a1 a2 al G ab q1 q2 q3 ad a3 a5 a6 a7 a8 a9 a' ba;(go_wp2_with fail);go_meet
        exact⟨m,o,aE⟩
      case rest =>
       obtain⟨L,M,bK⟩:=hcut;obtain⟨T,H,V⟩:=bK.out;have bL:(Value.slice pa A pc).ownBlock≠some l:=fun e=>(by obtain⟨c5,cq⟩:=z.out.prow;obtain⟨c6,cr⟩:=jX aX.out (g:=l) rfl;exact bh cq cr (by decide) e);have W:Hid (wc.ownsRow N 2 1 (.slice (some ⟨l,0,none⟩) d xc) d (aa ac i)):=am aX.out H (fun g e x=>by
        have bb:l=g:=Option.some.inj e;subst bb;rcases x with x | x;·omega
        ·exact bL x)
       have bc:=hidI (ZP.next Z.out V (fun g e=>.inl e) (by omega));have aF:=hidI (Fr.zp bI.out (by rw[au];exact Z.out) H (fun g e=>.inl (e.elim .inl (fun e=>.inr (.inr (.inl e))))));have cs:=aF.out.size;have bd:=hidI T;have bM:=aR.out;have be:=hidI bM;clear T H V bK bL bM z aX bI aC bH Z aR aj;clear f;generalize wc=f at W aF cs bd ⊢;have z:=bd;have bN:Hid (j.log[Bn]?=some (F,aU)):=(by show _=_;rw[ah.out.2];exact ah.out.1);clear bd;have aj:=bN;clear bN;(go_upto_region 17 with fail);have G:=(Ev f.heap.size f).drew;have q:Hid (Below f.heap.size f ((f.alloc (.cells #[.int .i64 F] 2)).drew)):=(Zb f _).drew;have p:=hidI (z.out.below q.out);obtain⟨ab,q1,q2,q3,ad⟩:=dJ (z.out.below G).box;obtain⟨aY,aZ,a0,a1,a2⟩:=dJ p.out.box;have a3:=z.out.lt (.inl rfl);have al:=p.out.lt (.inl rfl);have ap:=p.out.nms;have a4:=hidI aj.out;have c7:=ch.out f.drew (an W.out G);have c8:=(an W.out G).lt l rfl |>.2;go_region_law (refine cM rfl _ _ 29 rfl 0 2 bk _ 1 8 underlying29 bl bm bn bo rfl (by decide) (.slice na Bn nc) Bn (aa ac ((j.log.take Bn).map Prod.fst)) (by simp[Act.eval]) ap ⟨f.drew.heap.size,0,none⟩ 1 1 [.int .i64 F] (by simp[Act.eval]) rfl (dA _ _ _) (by simp[Value.oneCell']) (by unfold maxLen;omega) (by omega) (En _) ?_;intro cp u O D aq;obtain⟨m,o,rfl⟩:=ao O;have E:u.heap[P]?=_:=(D.block P al (fun e=>p.out.apart.2.2.1 e.symm)).trans p.out.box;obtain⟨a5,a6,a7,a8,a9⟩:=dJ E;have a':=ar E;have ba:P<u.heap.size:=(Za E))
       all_goals
        have aE:Hid (dR t (u.setCell ⟨P,3,none⟩ (.slice m (Bn+1) o)) P U (.slice L (A+1) M) (A+1) (.slice m (Bn+1) o) (Bn+1) tx j∧Fr (fun g=>g=P∨(Value.slice na Bn nc).ownBlock=some g) f (u.setCell ⟨P,3,none⟩ (.slice m (Bn+1) o))∧∀ g,(Value.slice m (Bn+1) o).ownBlock=some g->(Value.slice na Bn nc).ownBlock=some g∨f.heap.size<=g):=by
         refine⟨p.out.pushN a4.out O D,((Fr.of_below q.out).trans (Fr.of_grown D (fun g e=>.inr e))).trans ((af u P 3 _).weak (fun g e=>.inl e)),fun g e=>?_⟩;rcases aq with C | C;·rw[C] at e;exact .inl e
         ·exact .inr (Eo q.out.size (C g e))
        clear O D aq E ap p q aY aZ a0 a1 a2 al G ab q1 q2 q3 ad a3 a5 a6 a7 a8 a9 a' ba;obtain⟨T,H,V⟩:=aE.out;generalize u.setCell ⟨P,3,none⟩ (.slice m (Bn+1) o)=wc at T H ⊢;have ct:=W.out.lt l rfl;have cu:Hid (wc.ownsRow N 2 1 (.slice (some ⟨l,0,none⟩) d xc) d (aa ac i)):=am W.out H (fun g e x=>by
         have bb:l=g:=Option.some.inj e;subst bb;rcases x with x | x;·omega
         ·exact be.out x)
        have bO:=hidI (ZP.next bc.out (fun g e=>.inl e) V (by omega));have cv:=hidI (Fr.zp aF.out (by rw[au];exact bc.out) H (fun g e=>.inl (e.elim .inl (fun e=>.inr (.inr (.inr e))))));have bP:Hid ((Value.slice m (Bn+1) o).ownBlock≠some l):=fun e=>by
         rcases V l e with e | e;·exact be.out e
         ·omega
        have cw:Hid (dR t wc P U (.slice L (a+(c+1)) M) (a+(c+1)) (.slice m (b+(c+1)) o) (b+(c+1)) tx j):=(by show dR _ _ _ _ _ _ _ _ _ _;rw[<-Fx,<-Fx,ag.out.1,ag.out.2];exact T);have cx:Hid (∀ g,ZP P U (.slice L (a+(c+1)) M) (.slice m (b+(c+1)) o) g->ZP P U pv nv g∨N<=g):=(by show ∀ g,_;rw[<-Fx,<-Fx,ag.out.1,ag.out.2];exact bO.out);have cy:Hid ((Value.slice m (b+(c+1)) o).ownBlock≠some l):=(by show _≠_;rw[<-Fx,ag.out.2];exact bP.out);clear T H V aE ct z W aF bc be bO bP;(go_wp2_with fail);go_roundg (d - (c+1))
        case measure=>omega
        case rel=>exact⟨c+1,L,M,m,o,by omega,rfl,by go_num,cu,cw,cv,cx,cy⟩
    ·obtain rfl:c=d:=(by omega);have aB:=ay 0 (by omega);rw[eL i 0 (by rw[R.out];omega)] at aB;have bQ:Hid (fH v s=(i.getD 0 0,j)):=by
      show _=_;unfold fH;rw[bR.out,bx.out.2,bx.out.1];cases i with
      | nil=>have:=R.out;simp at this;omega
      | cons av c9=>rfl
     generalize i.getD 0 0=F at aB bQ;clear ay;(go_wp2_with fail);go_ret;rw[bQ.out,au];exact⟨_,_,rfl,k.out,B.out,Z.out⟩
theorem nU:∀ (c:List (ByteArray × Int)) (a:ByteArray × Int) (b:dl),aA (c++[a]) b=((aA c b).1++[if 8<a.1.size∧a.2=0 then (fH a.1 (aA c b).2).1 else a.2],if 8<a.1.size∧a.2=0 then (fH a.1 (aA c b).2).2 else (aA c b).2)
 | [],a,b=>by
  rw[ED,aA]
  split<;>simp[*,aA]
 | y::r,a,b=>by
  have e:=nU r a (fH y.1 b).2
  have f:=nU r a b
  rw[Fj,aA,aA]
  by_cases d:8<y.1.size∧y.2=0
  ·simp only[if_pos d]
   rw[e]
   rfl
  ·simp only[if_neg d]
   rw[f]
   rfl
theorem ei {c d a b f i j l:Nat} {u v:Value} {ys:List Value} (h:w.ownsRow c a f u j xs) (k:w.ownsRow d b i v l ys) (m:a≠b) {g:Nat} (n:u.ownBlock=some g):v.ownBlock≠some g:=by
 obtain⟨p,o⟩:=jX h n;exact bh k o (fun e=>m e.symm)
structure cL (X:Nat->Prop) (w wr:World) (N P U:Nat) (pv0 nv0:Value) (bx:Array Value) (ov:Value) (m:Nat) (ol:List Int) (pa:Option Addr) (A pc:Nat) (na:Option Addr) (Bn nc:Nat) (tx:Int) (s:dl):Prop where
 fr:Fr (ZP P U pv0 nv0) w wr
 k0:wr.heap[N]?=some (.cells bx 57)
 k1:wr.heap[N+1]?=some (.cells (Z0 false 0) 57)
 over:wr.ownsRow (N+4) 2 1 ov m (aa ac ol)
 pat:dR X wr P U (.slice pa A pc) A (.slice na Bn nc) Bn tx s
 hz:∀ g,ZP P U (.slice pa A pc) (.slice na Bn nc) g->ZP P U pv0 nv0 g∨N+4<=g
 z0:∀ g,ZP P U pv0 nv0 g->g<N
 hN:w.heap.size=N
 ne:∀ g,ov.ownBlock=some g->(Value.slice na Bn nc).ownBlock≠some g
 sz:N+4<=wr.heap.size
def LB (N P U:Nat) (pv nv ov:Value) (g:Nat):Prop:=g=N∨g=N+1∨ov.ownBlock=some g∨ZP P U pv nv g
theorem cL.ovz {s:dl} (h:cL X w wr N P U pv0 nv0 bx ov m ol pa A pc na Bn nc tx s) {g:Nat} (a:ov.ownBlock=some g):¬ ZP P U (.slice pa A pc) (.slice na Bn nc) g:=fun e=>by
 obtain⟨xs,b⟩:=h.pat.prow
 rcases e with e | e | e | e
 ·exact bh h.over h.pat.box (by decide) (by rw[a,e])
 ·exact bh h.over h.pat.us (by decide) (by rw[a,e])
 ·exact ei b h.over (by decide) e a
 ·exact h.ne g a e
theorem cL.zn {s:dl} (h:cL X w wr N P U pv0 nv0 bx ov m ol pa A pc na Bn nc tx s) {g:Nat} (a:ZP P U (.slice pa A pc) (.slice na Bn nc) g):g<N∨N+4<=g:=(h.hz g a).elim (fun e=>.inl (h.z0 g e)) .inr
theorem cL.lb {s:dl} (h:cL X w wr N P U pv0 nv0 bx ov m ol pa A pc na Bn nc tx s) {g:Nat} (a:LB N P U (.slice pa A pc) (.slice na Bn nc) ov g):g<wr.heap.size∧(g<N+2∨N+4<=g):=by
 rcases a with rfl | rfl | e | e;·exact⟨(Za h.k0),.inl (by omega)⟩
 ·exact⟨(Za h.k1),.inl (by omega)⟩
 ·exact⟨(h.over.lt g e).2,.inr (h.over.lt g e).1⟩
 ·exact⟨h.pat.lt e,(h.zn e).elim (fun e=>.inl (by omega)) .inr⟩
theorem cL.keep {s:dl} (h:cL X w wr N P U pv0 nv0 bx ov m ol pa A pc na Bn nc tx s) (a:Fr S wr w1) (b:∀ g,LB N P U (.slice pa A pc) (.slice na Bn nc) ov g->¬ S g) (c:∀ g,S g->N<=g) (d:∀ g,S g->X g∨NK wr g):cL X w w1 N P U pv0 nv0 bx ov m ol pa A pc na Bn nc tx s :=
 ⟨h.fr.up3 a (fun g e=>.inr (by rw[h.hN];exact c g e)),(a.block N (h.lb (.inl rfl)).1 (b N (.inl rfl))).trans h.k0,(a.block (N+1) (h.lb (.inr (.inl rfl))).1 (b _ (.inr (.inl rfl)))).trans h.k1,am h.over a (fun g e=>b g (.inr (.inr (.inl e)))),h.pat.fr a (fun g e=>b g (.inr (.inr (.inr e)))) d,h.hz,h.z0,h.hN,h.ne,Eo h.sz a.size⟩
theorem cL.below {s:dl} (h:cL X w wr N P U pv0 nv0 bx ov m ol pa A pc na Bn nc tx s) (a:Below wr.heap.size wr w1):cL X w w1 N P U pv0 nv0 bx ov m ol pa A pc na Bn nc tx s:=h.keep (S:=fun _=>False) (Fr.of_below a) (fun _ _ e=>e) (fun _ e=>e.elim) (fun _ e=>e.elim)
theorem cL.less {s:dl} (h:cL X w wr N P U pv0 nv0 bx ov m ol pa A pc na Bn nc tx s) (a:∀ g,Y g->g<wr.heap.size->X g):cL Y w wr N P U pv0 nv0 bx ov m ol pa A pc na Bn nc tx s:=⟨h.fr,h.k0,h.k1,h.over,h.pat.less a,h.hz,h.z0,h.hN,h.ne,h.sz⟩
theorem cL.log {s:dl} (h:cL X w wr N P U pv0 nv0 bx ov m ol pa A pc na Bn nc tx s) (l:List (Int × mf)):cL X w wr N P U pv0 nv0 bx ov m ol pa A pc na Bn nc tx { s with log:=s.log++l }:=⟨h.fr,h.k0,h.k1,h.over,h.pat.log l,h.hz,h.z0,h.hN,h.ne,h.sz⟩
theorem cL.step {b d c f:Nat} {i j:Option Addr} {s k:dl} (h:cL X w wr N P U pv0 nv0 bx ov m ol pa A pc na Bn nc tx s) (o:dR X w1 P U (.slice i b d) b (.slice j c f) c tx k) (a:Fr (ZP P U (.slice pa A pc) (.slice na Bn nc)) wr w1) (l:∀ g,ZP P U (.slice i b d) (.slice j c f) g->ZP P U (.slice pa A pc) (.slice na Bn nc) g∨wr.heap.size<=g):cL X w w1 N P U pv0 nv0 bx ov m ol i b d j c f tx k:=by
 have p:=(h.lb (.inl rfl)).1;have q:=(h.lb (.inr (.inl rfl))).1;have r:∀ g,ov.ownBlock=some g->g<wr.heap.size:=fun g e=>(h.over.lt g e).2;refine⟨h.fr.up3 a (fun g e=>(h.hz g e).elim .inl (fun e=>.inr (by rw[h.hN];omega))),(a.block N p (fun e=>by have:=h.zn e;omega)).trans h.k0,(a.block (N+1) q (fun e=>by have:=h.zn e;omega)).trans h.k1,am h.over a (fun g e=>h.ovz e),o,fun g e=>?_,h.z0,h.hN,fun g e t=>?_,Eo h.sz a.size⟩
 ·rcases l g e with e | e;·exact h.hz g e
  ·exact .inr (Eo h.sz e)
 ·rcases l g (.inr (.inr (.inr t))) with n | n;·exact h.ovz e n
  ·have:=r g e;omega
theorem m8 (x:Int):∀ (b:List Int) (a:Nat),(aa ac b).set a (.int .i64 x)=aa ac (b.set a x)
 | [],a=>by simp[aa]
 | y::r,0=>rfl
 | y::r,a+1=>by
  have c:=m8 x r a
  show Value.int .i64 y::(aa ac r).set a (.int .i64 x)=_
  rw[c]
  rfl
theorem cL.put {a c i:Nat} {s:dl} (h:cL X w wr N P U pv0 nv0 bx (.slice (some ⟨a,0,none⟩) m c) m ol pa A pc na Bn nc tx s) (x:Int):cL X w (wr.setCell ⟨a,i,none⟩ (.int .i64 x)) N P U pv0 nv0 bx (.slice (some ⟨a,0,none⟩) m c) m (ol.set i x) pa A pc na Bn nc tx s:=by
 have b:=af wr a i (.int .i64 x);have j:=h.over.lt a rfl;refine⟨h.fr.up3 b (fun g e=>.inr (by rw[h.hN,e];omega)),(b.block N (h.lb (.inl rfl)).1 (by omega)).trans h.k0,(b.block (N+1) (h.lb (.inr (.inl rfl))).1 (by omega)).trans h.k1,?_,h.pat.fr b (fun g e f=>h.ovz (g:=a) rfl (f ▸ e)) (fun g e=>.inr (e ▸ qg h.over (g:=a) rfl (by decide) (by decide))),h.hz,h.z0,h.hN,h.ne,Eo h.sz b.size⟩;have d:=(h.over.stored i (.int .i64 x)).1;have e:=m8 x ol i;rw[e] at d;exact d
theorem cL.box {s:dl} (h:cL X w wr N P U pv0 nv0 bx ov m ol pa A pc na Bn nc tx s) (i:Nat) (v:Value):cL X w (wr.setCell ⟨N,i,none⟩ v) N P U pv0 nv0 (bx.setIfInBounds i v) ov m ol pa A pc na Bn nc tx s:=by
 have a:=af wr N i v;refine⟨h.fr.up3 a (fun g e=>.inr (by rw[h.hN,e];omega)),aj h.k0 i v,(a.block (N+1) (h.lb (.inr (.inl rfl))).1 (by omega)).trans h.k1,am h.over a (fun g e b=>by have:=(h.over.lt g e).1;omega),h.pat.fr a (fun g e b=>by have:=h.zn e;omega) (fun g e=>.inr (e ▸ jt h.k0 (by decide) (by decide))),h.hz,h.z0,h.hN,h.ne,Eo h.sz a.size⟩
def dL (w:World) (N:Nat) (kd tx:Int) (xa:Option Addr) (xm xc:Nat) (ea:Option Addr) (em ec:Nat) (ks:List PK) (es:List PE):Prop:=w.heap[N+2]?=some (.cells #[.int .i64 kd,.int .i64 tx,.int .i64 0,.int .i64 0,.int .i64 0,.slice xa xm xc,.slice ea em ec,.int .i64 0,.string ⟨#[]⟩] 104)∧w.ownsRow (N+4) 107 2 (.slice xa xm xc) xm (aa ft ks)∧w.ownsRow (N+4) 109 4 (.slice ea em ec) em (aa fu es)
theorem dL.keep (h:dL w N kd tx xa xm xc ea em ec ks es) (a:Fr S w w1) (c:¬ S (N+2)) (d:∀ g,(Value.slice xa xm xc).ownBlock=some g->¬ S g) (e:∀ g,(Value.slice ea em ec).ownBlock=some g->¬ S g):dL w1 N kd tx xa xm xc ea em ec ks es:=by
 obtain⟨b,f,i⟩:=h;exact⟨(a.block (N+2) (Za b) c).trans b,am f a d,am i a e⟩
theorem dL.below (h:dL w N kd tx xa xm xc ea em ec ks es) (a:Below w.heap.size w w1):dL w1 N kd tx xa xm xc ea em ec ks es:=h.keep (S:=fun _=>False) (Fr.of_below a) (fun e=>e) (fun _ _ e=>e) (fun _ _ e=>e)
theorem dL.is {c:mf} (h:dL w N c.kind tx xa xm xc ea em ec c.kids c.ents) (i:c.next=0) (j:c.data=ByteArray.empty) (f:∀ g,X g->g<N):iM X w tx [.int .i64 c.kind,.int .i64 tx,.int .i64 0,.int .i64 0,.int .i64 0,.slice xa xm xc,.slice ea em ec,.int .i64 0,.string ⟨#[]⟩] c:=by
 obtain⟨k,a,b⟩:=h;obtain rfl:c.kids.length=xm:=by have:=a.1;rw[ay iq] at this;omega
 obtain rfl:c.ents.length=em:=by have:=b.1;rw[ay Dr] at this;omega
 refine⟨xa,xc,ea,ec,by rw[i,j];rfl,cr a (En _),cr b (En _),fun g e d=>?_,fun g e d=>?_⟩;·have:=f g d;have:=(a.lt g e).1;omega
 ·have:=f g d;have:=(b.lt g e).1;omega
theorem dL.zp {s:dl} (h:dL wr N kd tx xa xm xc ea em ec ks es) (b:cL X w wr N P U pv0 nv0 bx ov m ol pa A pc na Bn nc tx s) {w1:World} (l:Fr (ZP P U (.slice pa A pc) (.slice na Bn nc)) wr w1):dL w1 N kd tx xa xm xc ea em ec ks es:=by
 obtain⟨n,c,d⟩:=h;obtain⟨o,f⟩:=b.pat.prow;obtain⟨p,i⟩:=b.pat.nrow;have j:=b.pat.box;have k:=b.pat.us;refine dL.keep ⟨n,c,d⟩ l (fun e=>by have:=b.zn e;omega) (fun g e a=>?_) (fun g e a=>?_)
 ·rcases a with rfl | rfl | a | a;·exact bh c j (by decide) e
  ·exact bh c k (by decide) e
  ·exact ei f c (by decide) a e
  ·exact ei i c (by decide) a e
 ·rcases a with rfl | rfl | a | a;·exact bh d j (by decide) e
  ·exact bh d k (by decide) e
  ·exact ei f d (by decide) a e
  ·exact ei i d (by decide) a e
theorem dL.st {a i:Nat} {cs:Array Value} (h:dL w N kd tx xa xm xc ea em ec ks es) (d:w.heap[a]?=some (.cells cs e)) (k:e≠107) (l:e≠109) (m:a≠N+2) (v:Value):dL (w.setCell ⟨a,i,none⟩ v) N kd tx xa xm xc ea em ec ks es:=by
 obtain⟨n,f,j⟩:=h;exact dL.keep ⟨n,f,j⟩ (af w a i v) (fun e=>m e.symm) (fun g b c=>bh f d (fun e=>k e.symm) (by rw[b,c])) (fun g b c=>bh j d (fun e=>l e.symm) (by rw[b,c]))
theorem dL.kind (h:dL w N kd tx xa xm xc ea em ec ks es) (x:Int):dL (w.setCell ⟨N+2,0,none⟩ (.int .i64 x)) N x tx xa xm xc ea em ec ks es:=by
 obtain⟨e,b,c⟩:=h;have d:=af w (N+2) 0 (.int .i64 x);exact⟨by rw[aj e];rfl,am b d (fun g a f=>by have:=(b.lt g a).1;omega),am c d (fun g a f=>by have:=(c.lt g a).1;omega)⟩
end Go.Proofs.YtggmghkcdfjdoaaGreat
