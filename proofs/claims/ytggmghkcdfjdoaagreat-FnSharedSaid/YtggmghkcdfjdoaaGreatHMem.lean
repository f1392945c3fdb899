import Derived.Test.YtggmghkcdfjdoaaGreatHTks
import Derived.WalkKit
import Derived.ProofKit
import Derived.OpenShut
import Derived.Below
import Derived.Test.YtggmghkcdfjdoaaGreatChecked
import Derived.OwnWalk
import Derived.Deep.QuietTactic
import Derived.BigQuiet
import Derived.Deep.RegionWith
import Derived.Laws.AppendOwnNone
import Derived.Deep.RegionLaw
namespace Go.Proofs.YtggmghkcdfjdoaaGreat
open Go.RowKit Tryz
set_option linter.unusedVariables false
set_option linter.unusedSimpArgs false
set_option maxRecDepth 100000
variable {A A' B B' b base c e m n o:Nat} {S:Nat->Prop} {a:Option Addr} {bs:List Int} {v:Value} {w w':World} {xs:List Value}
theorem wl (h:w.cell? ⟨b,o,none⟩=some v):b<w.heap.size:=by
 by_cases a:b<w.heap.size;·exact a
 ·simp[World.cell?,Array.getElem?_eq_none (Nat.le_of_not_lt a)] at h
abbrev PF:=ByteArray × List Int
abbrev PP:=ByteArray × Int × List Int
def cd (w:World) (A B:Nat) (a:Option Addr) (n c:Nat) (bs:List Int):Prop :=
 bs.length=n∧n<=c∧c<=maxLen∧(∀ x ∈ bs,0<=x∧x<=255)∧(0<n->∃ b off,a=some ⟨b,off,none⟩∧(A<=b∧b<B)∧∀ i,i<n->w.cell? ⟨b,off+i,none⟩=some (.int .u8 (bs.getD i 0)))∧(a=none->c=0)
def eS (A B:Nat) (w w':World):Prop:=∀ k,A<=k->k<B->w'.heap[k]?=w.heap[k]?
theorem eS.of_below (h:Below B w w'):eS A B w w':=fun a _ b=>h.block a b
theorem eS.refl (A B:Nat) (w:World):eS A B w w:=fun _ _ _=>rfl
theorem eS.cell (h:eS A B w w') {b o:Nat} (c:A<=b) (d:b<B):w'.cell? ⟨b,o,none⟩=w.cell? ⟨b,o,none⟩:=Ep (w:=w) (a:=⟨b,o,none⟩) (h b c d)
theorem cd.keep (h:cd w A B a n c bs) (e:eS A B w w'):cd w' A B a n c bs:=by
 obtain⟨f,g,i,j,k,l⟩:=h;refine⟨f,g,i,j,fun m=>?_,l⟩;obtain⟨b,o,rfl,d,p⟩:=k m;exact⟨b,o,rfl,d,fun q r=>(e.cell d.1 d.2).trans (p q r)⟩
theorem cd.below (h:cd w A B a n c bs) (b:Below B w w'):cd w' A B a n c bs:=h.keep (.of_below b)
def B3 (w:World) (A B b o:Nat) (f:PF):Prop :=
 w.cell? ⟨b,o,none⟩=some (.string f.1)∧f.1.size<=maxLen∧∃ a n c,w.cell? ⟨b,o+1,none⟩=some (.slice a n c)∧cd w A B a n c f.2
def C6 (w:World) (A B:Nat) (a:Option Addr) (n c:Nat) (fs:List PF):Prop :=
 fs.length=n∧n<=c∧c<=maxLen∧(0<n->∃ b off,a=some ⟨b,off,none⟩∧(A<=b∧b<B)∧∀ i,i<n->B3 w A B b (off+i*2) (fs.getD i (ByteArray.empty,[])))
def B6 (w:World) (A B b o:Nat) (p:PP):Prop :=
 w.cell? ⟨b,o,none⟩=some (.string p.1)∧p.1.size<=maxLen∧w.cell? ⟨b,o+1,none⟩=some (.int .i64 p.2.1)∧(-9223372036854775808<=p.2.1∧p.2.1<=9223372036854775807)∧∃ a n c,w.cell? ⟨b,o+2,none⟩=some (.slice a n c)∧cd w A B a n c p.2.2
def C7 (w:World) (A B:Nat) (a:Option Addr) (n c:Nat) (ps:List PP):Prop :=
 ps.length=n∧n<=c∧c<=maxLen∧(0<n->∃ b off,a=some ⟨b,off,none⟩∧(A<=b∧b<B)∧∀ i,i<n->B6 w A B b (off+i*3) (ps.getD i (ByteArray.empty,0,[])))
theorem an {size:Nat} (h:w.ownsRow base e size v n xs) (c:Below w.heap.size w w'):w'.ownsRow base e size v n xs:=by
 refine⟨h.1,?_⟩;rcases h.2 with d | ⟨a,f,g,rfl,i,b,rest⟩;·exact .inl d
 ·refine .inr ⟨a,f,g,rfl,i,?_,rest⟩;rw[c.block a (Za b)];exact b
def CF (w:World) (g0:Nat) (xs:List Value) (fs:List PF) (k:Nat):Prop :=
 ∀ j,j<k->(fs.getD j (ByteArray.empty,[])).1.size<=maxLen∧∃ g m,xs[j*2]?=some (.string (fs.getD j (ByteArray.empty,[])).1)∧xs[j*2+1]?=some (.slice (some ⟨g,0,none⟩) m m)∧cd w (g0+1) w.heap.size (some ⟨g,0,none⟩) m m (fs.getD j (ByteArray.empty,[])).2
def CG (w:World) (g0:Nat) (xs:List Value) (fs:List PP) (k:Nat):Prop :=
 ∀ j,j<k->(fs.getD j (ByteArray.empty,0,[])).1.size<=maxLen∧(-9223372036854775808<=(fs.getD j (ByteArray.empty,0,[])).2.1∧(fs.getD j (ByteArray.empty,0,[])).2.1<=9223372036854775807)∧∃ g m,xs[j*3]?=some (.string (fs.getD j (ByteArray.empty,0,[])).1)∧xs[j*3+1]?=some (.int .i64 (fs.getD j (ByteArray.empty,0,[])).2.1)∧xs[j*3+2]?=some (.slice (some ⟨g,0,none⟩) m m)∧cd w (g0+1) w.heap.size (some ⟨g,0,none⟩) m m (fs.getD j (ByteArray.empty,0,[])).2.2
def CH (f:PF):Int:=f.1.size+f.2.length
def CJ (p:PP):Int:=p.1.size+p.2.2.length
def B9:List PF->Int
 | []=>0
 | f::r=>CH f+B9 r
def Ca:List PP->Int
 | []=>0
 | f::r=>CJ f+Ca r
theorem fQ {a:Type} (l:List a) (k:Nat) (d:a) (h:k<l.length):l.take (k+1)=l.take k++[l.getD k d]:=by
 rw[ER h];simp[List.getD,Eh h]
theorem Be:(prog.info? 5).map (fun a=>(a.zero,a.size,a.bytes))=some (some (.int .u8 0),1,1):=by kernel_rfl
theorem qE {g:Nat} (h:w.ownsRow base e 1 (.slice (some ⟨g,0,none⟩) n c) n xs) (f:bs.length=n) (i:∀ j,j<n->xs[j]?=some (.int .u8 (bs.getD j 0))) (k:∀ x ∈ bs,0<=x∧x<=255):cd w base w.heap.size (some ⟨g,0,none⟩) n c bs:=by
 have l:=h.lt g rfl;have b:n<=c∧c<=maxLen:=by
  rcases h.2 with ⟨a,_⟩ | ⟨q,r,s,a,_,t,m,o,_⟩;·simp at a
  ·simp only[Value.slice.injEq,Option.some.injEq,Addr.mk.injEq,and_true,true_and] at a;obtain⟨_,rfl⟩:=a;exact⟨m,o⟩
 refine⟨f,b.1,b.2,k,fun u=>⟨g,0,rfl,l,fun d p=>?_⟩,fun h=>by cases h⟩;rw[EK,h.cellAt d (by omega),i d p]
def wm (bs:List Int):List Value:=bs.map (Value.int .u8)
theorem ao {size:Nat} (h:w.ownsRow base e size v n xs):∃ a c,v=.slice a n c:=by
 rcases h.2 with ⟨rfl,rfl⟩ | ⟨b,d,f,rfl,_⟩;·exact⟨none,0,rfl⟩
 ·exact⟨_,_,rfl⟩
theorem oU (h:w.ownsRow base 5 1 v bs.length (wm bs)) (b:∀ x ∈ bs,0<=x∧x<=255):∃ a n c,v=.slice a n c∧cd w base w.heap.size a n c bs:=by
 rcases h.2 with ⟨rfl,d⟩ | ⟨e,f,i,rfl,j,k,l,m,_⟩;·exact⟨none,0,0,rfl,d,Ek _,En _,b,fun h=>absurd h (Fs _),fun _=>rfl⟩
 ·refine⟨some ⟨e,0,none⟩,bs.length,f,rfl,qE h rfl (fun o g=>?_) b⟩;simp[wm,Eh g]
theorem oH {P:Program} {ops:Array Oper} {o:Oper} {a:Act} {K:Act->World->Prop} {Q:Exit->Act->World->Prop} {E:Prop}
  (k:o.guard=none) (s x:Operand) (t:TypeId) (l:o.op=.call { callee:=.builtin .append,args:=#[s,x],argTypes:=#[t,t] })
  (base:Nat) (e:TypeId) (i:TypeInfo) (z:Value) (size f:Nat) (ht:P.underlying t=some (.slice e)) (p:P.info? e=some i) (q:i.zero=some z)
  (r:i.size=size) (y:i.bytes=f) (A:z.cells.size=size) (B:0<size)
  (v:Value) (n:Nat) (xs:List Value) (C:a.eval s=v) (D:w.ownsRow base e size v n xs)
  (g:Addr) (m c:Nat) (b:List Value) (F:a.eval x=.slice (some g) m c) (G:b.length=m*size) (H:∀ j u,b[j]?=some u->w.cell? (g.add j)=some u) (I:∀ u ∈ b,u.oneCell'=true)
  (J:n+m<=maxLen) (L:(n+m)*f<=140737488355328) (M:base<=w.heap.size)
  (h:∀ d w',w'.ownsRow base e size d (n+m) (xs++b)->w.grownBy w' v.ownBlock->K (a.put o.dst d) w') :
  if Region.wanted o (yielded ops a.tmps)=true then Oper.wp P o a w K Q else E:=by
 rw[if_pos (by simp[Region.wanted,k])];exact wp_append_own w s x t l base e i z size f ht p q r y A B v n xs C D g m c b F G H I J L M fun d w' N O _=>h d w' N O
structure Fr (S:Nat->Prop) (w w':World):Prop where
 os:w'.os=w.os
 tape:w'.tape=w.tape
 output:w'.output=w.output
 size:w.heap.size<=w'.heap.size
 block:∀ k,k<w.heap.size->¬ S k->w'.heap[k]?=w.heap[k]?
theorem Fr.refl (S:Nat->Prop) (w:World):Fr S w w:=⟨rfl,rfl,rfl,Ek _,fun _ _ _=>rfl⟩
theorem Fr.trans {a b c:World} (h:Fr S a b) (k:Fr S b c):Fr S a c :=
 ⟨k.os.trans h.os,k.tape.trans h.tape,k.output.trans h.output,Eo h.size k.size,fun d e f=>(k.block d (Er e h.size) f).trans (h.block d e f)⟩
theorem Fr.of_grown {a:Option Nat} (h:w.grownBy w' a) (c:∀ g,a=some g->S g):Fr S w w' :=
 ⟨h.os,h.tape,h.output,h.size,fun b d f=>h.block b d (fun e=>f (c b e.symm))⟩
theorem Fr.of_below (h:Below w.heap.size w w'):Fr S w w' :=
 ⟨h.os,h.tape,h.output,h.size,fun a b _=>h.block a b⟩
theorem Fr.weak {T:Nat->Prop} (h:Fr S w w') (b:∀ g,S g->T g):Fr T w w' :=
 ⟨h.os,h.tape,h.output,h.size,fun a c d=>h.block a c (fun e=>d (b a e))⟩
theorem Fr.below (h:Fr S w w') (c:B<=w.heap.size) (b:∀ g,S g->B<=g):Below B w w' :=
 ⟨h.os,h.tape,h.output,h.size,fun a d=>h.block a (by omega) (fun e=>by have:=b a e;omega)⟩
theorem am {size:Nat} (h:w.ownsRow base e size v n xs) (c:Fr S w w') (d:∀ a,v.ownBlock=some a->¬ S a):w'.ownsRow base e size v n xs:=by
 refine⟨h.1,?_⟩;rcases h.2 with f | ⟨a,g,i,rfl,j,b,rest⟩;·exact .inl f
 ·refine .inr ⟨a,g,i,rfl,j,?_,rest⟩;rw[c.block a (Za b) (d a rfl)];exact b
abbrev PK:=ByteArray × Int
abbrev PE:=ByteArray × ByteArray × Int × Int
def dK:PK:=(ByteArray.empty,0)
def dE:PE:=(ByteArray.empty,ByteArray.empty,0,0)
def ga (x:Int):Prop:=-9223372036854775808<=x∧x<=9223372036854775807
def ft (k:PK):List Value:=[.string k.1,.int .i64 k.2]
def fu (e:PE):List Value:=[.string e.1,.string e.2.1,.int .i64 e.2.2.1,.int .i64 e.2.2.2]
def Cb (k:PK):Prop:=k.1.size<=maxLen∧ga k.2
def Cc (e:PE):Prop:=e.1.size<=maxLen∧e.2.1.size<=maxLen∧ga e.2.2.1∧ga e.2.2.2
def aR {α:Type} (w:World) (A B:Nat) (m:Nat) (cs:α->List Value) (fit:α->Prop) (d:α) (a:Option Addr) (n c:Nat) (xs:List α):Prop :=
 xs.length=n∧n<=c∧c<=maxLen∧(∀ i,i<n->fit (xs.getD i d))∧(0<n->∃ b off,a=some ⟨b,off,none⟩∧(A<=b∧b<B)∧∀ i,i<n->∀ j,j<m->w.cell? ⟨b,off+i*m+j,none⟩=(cs (xs.getD i d))[j]?)
abbrev Dc (w:World) (A B:Nat) (a:Option Addr) (n c:Nat) (ks:List PK):Prop:=aR w A B 2 ft Cb dK a n c ks
abbrev Dd (w:World) (A B:Nat) (a:Option Addr) (n c:Nat) (es:List PE):Prop:=aR w A B 4 fu Cc dE a n c es
theorem aR.keep {e:Type} {cs:e->List Value} {fit:e->Prop} {d:e} {xs:List e} (h:aR w A B m cs fit d a n c xs) (g:eS A B w w'):aR w' A B m cs fit d a n c xs:=by
 obtain⟨i,j,k,l,o⟩:=h;refine⟨i,j,k,l,fun p=>?_⟩;obtain⟨b,q,rfl,f,r⟩:=o p;exact⟨b,q,rfl,f,fun s t u v=>(g.cell f.1 f.2).trans (r s t u v)⟩
theorem aR.below {b:Type} {cs:b->List Value} {fit:b->Prop} {d:b} {xs:List b} (h:aR w A B m cs fit d a n c xs) (e:Below B w w'):aR w' A B m cs fit d a n c xs:=h.keep (.of_below e)
theorem aR.up {e:Type} {cs:e->List Value} {fit:e->Prop} {d:e} {xs:List e} (h:aR w A B m cs fit d a n c xs) (q:A'<=A) (r:B<=B'):aR w A' B' m cs fit d a n c xs:=by
 obtain⟨f,g,i,j,k⟩:=h;refine⟨f,g,i,j,fun l=>?_⟩;obtain⟨b,o,rfl,s,p⟩:=k l;exact⟨b,o,rfl,⟨by omega,by omega⟩,p⟩
def aa {α:Type} (cs:α->List Value) (xs:List α):List Value:=xs.flatMap cs
theorem bI {e:Type} {cs:e->List Value} (c:∀ x,(cs x).length=m) (d:e):∀ (xs:List e) (b a:Nat),b<xs.length->a<m->(aa cs xs)[b*m+a]?=(cs (xs.getD b d))[a]?
 | [],b,a,hi,_=>by simp at hi
 | x::r,0,a,_,hj=>by simp[aa,EE (show a<(cs x).length by rw[c];exact hj)]
 | x::r,b+1,a,hi,hj=>by
  rw[show (b+1)*m+a=m+(b*m+a) by rw[Nat.add_mul];omega]
  have:=bI c d r b a (by simpa using hi) hj
  simp only[aa,List.flatMap_cons] at this ⊢
  rw[EB (by rw[c];omega),c,show m+(b*m+a) - m=b*m+a by omega,this]
  simp
theorem ay {a:Type} {cs:a->List Value} (b:∀ x,(cs x).length=m):∀ (xs:List a),(aa cs xs).length=xs.length*m
 | []=>by simp[aa]
 | x::r=>by
  have:=ay b r
  simp only[aa,List.flatMap_cons,El,EU,b] at this ⊢
  rw[this,Nat.add_mul];omega
theorem aR.of_owns {f:Type} {cs:f->List Value} {fit:f->Prop} {d:f} {xs:List f} (l:∀ x,(cs x).length=m) (h:w.ownsRow base e m v n (aa cs xs)) (i:xs.length=n) (j:∀ b,b<n->fit (xs.getD b d)):∃ a c,v=.slice a n c∧aR w base w.heap.size m cs fit d a n c xs:=by
 rcases h.2 with ⟨rfl,rfl⟩ | ⟨k,s,t,rfl,u,y,o,p,_⟩;·exact⟨none,0,rfl,i,Ek _,En _,j,fun h=>absurd h (Fs _)⟩
 ·refine⟨_,_,rfl,i,o,p,j,fun z=>⟨k,0,rfl,h.lt k rfl,fun b A g q=>?_⟩⟩;have r:b*m+g<n*m:=(by have:(b+1)*m<=n*m:=Nat.mul_le_mul_right m (by omega);rw[Nat.add_mul] at this;omega);rw[EK,h.cellAt (b*m+g) r,bI l d xs b g (by omega) q]
theorem zN {size:Nat} (h:w.ownsRow base e size v n xs) {p:Addr} (b:∀ a,v.ownBlock=some a->p.block≠a) (u:Value):(w.setCell p u).ownsRow base e size v n xs:=by
 refine⟨h.1,?_⟩;rcases h.2 with c | ⟨a,d,f,rfl,g,i,rest⟩;·exact .inl c
 ·exact .inr ⟨a,d,f,rfl,g,(Below.heap_setCell w p u a (fun e=>b a rfl e.symm)).trans i,rest⟩
theorem cr {a size:Nat} (h:w.ownsRow base e size v n xs) (b:a<=base):w.ownsRow a e size v n xs:=by
 refine⟨h.1,?_⟩;rcases h.2 with c | ⟨d,f,g,rfl,i,rest⟩;·exact .inl c
 ·exact .inr ⟨d,f,g,rfl,Eo b i,rest⟩
theorem iq:∀ a,(ft a).length=2:=fun _=>rfl
theorem Dr:∀ a,(fu a).length=4:=fun _=>rfl
def ae (s:ByteArray):List Value:=[.string s]
def ac (x:Int):List Value:=[.int .i64 x]
def dm (s:ByteArray):Prop:=s.size<=maxLen
abbrev aP (w:World) (A B:Nat) (a:Option Addr) (n c:Nat) (xs:List ByteArray):Prop:=aR w A B 1 ae dm ByteArray.empty a n c xs
abbrev bf (w:World) (A B:Nat) (a:Option Addr) (n c:Nat) (xs:List Int):Prop:=aR w A B 1 ac ga 0 a n c xs
theorem jb:∀ a,(ae a).length=1:=fun _=>rfl
theorem lh:∀ a,(ac a).length=1:=fun _=>rfl
theorem aP.at {xs:List ByteArray} (h:aP w A B a n c xs) {i:Nat} (e:i<n) :
  ∃ b d,a=some ⟨b,d,none⟩∧(A<=b∧b<B)∧(xs.getD i .empty).size<=maxLen∧w.cell? ⟨b,d+i,none⟩=some (.string (xs.getD i .empty)):=by
 obtain⟨l,m,o,f,g⟩:=h;obtain⟨b,d,rfl,j,k⟩:=g (by omega);exact⟨b,d,rfl,j,f i e,by simpa[ae] using k i e 0 (by omega)⟩
theorem bf.at {xs:List Int} (h:bf w A B a n c xs) {i:Nat} (e:i<n) :
  ∃ b d,a=some ⟨b,d,none⟩∧(A<=b∧b<B)∧ga (xs.getD i 0)∧w.cell? ⟨b,d+i,none⟩=some (.int .i64 (xs.getD i 0)):=by
 obtain⟨l,m,o,f,g⟩:=h;obtain⟨b,d,rfl,j,k⟩:=g (by omega);exact⟨b,d,rfl,j,f i e,by simpa[ac] using k i e 0 (by omega)⟩
structure TN where
 leaf:Bool
 page:Int
 keys:List ByteArray
 vals:List ByteArray
 over:List Int
 kids:List Int
def dT:TN:=⟨false,0,[],[],[],[]⟩
structure gK (w:World) (A B b o:Nat) (t:TN) (ka:Option Addr) (kn kc:Nat) (va:Option Addr) (vn vc:Nat) (oa:Option Addr) (on oc:Nat) (ya:Option Addr) (yn yc:Nat):Prop where
 c0:w.cell? ⟨b,o,none⟩=some (.bool t.leaf)
 c1:w.cell? ⟨b,o+1,none⟩=some (.int .i64 t.page)
 c2:w.cell? ⟨b,o+2,none⟩=some (.slice ka kn kc)
 c3:w.cell? ⟨b,o+3,none⟩=some (.slice va vn vc)
 c4:w.cell? ⟨b,o+4,none⟩=some (.slice oa on oc)
 c5:w.cell? ⟨b,o+5,none⟩=some (.slice ya yn yc)
 page:ga t.page
 keys:aP w A B ka kn kc t.keys
 vals:aP w A B va vn vc t.vals
 over:bf w A B oa on oc t.over
 kids:bf w A B ya yn yc t.kids
def aw (w:World) (A B:Nat) (a:Option Addr) (n c:Nat) (ts:List TN):Prop :=
 ts.length=n∧n<=c∧c<=maxLen∧(0<n->∃ b off,a=some ⟨b,off,none⟩∧(A<=b∧b<B)∧∀ i,i<n->∃ ka kn kc va vn vc oa on oc ya yn yc,gK w A B b (off+i*6) (ts.getD i dT) ka kn kc va vn vc oa on oc ya yn yc)
theorem gK.keep {t:TN} {d e f g:Option Addr} {i j k l on m n p:Nat} (h:gK w A B b o t d i j e k l f on m g n p) (a:A<=b∧b<B) (c:eS A B w w'):gK w' A B b o t d i j e k l f on m g n p :=
 ⟨(c.cell a.1 a.2).trans h.c0,(c.cell a.1 a.2).trans h.c1,(c.cell a.1 a.2).trans h.c2,(c.cell a.1 a.2).trans h.c3,(c.cell a.1 a.2).trans h.c4,(c.cell a.1 a.2).trans h.c5,h.page,h.keys.keep c,h.vals.keep c,h.over.keep c,h.kids.keep c⟩
theorem gK.up {t:TN} {d e f g:Option Addr} {i j k l on m n p:Nat} (h:gK w A B b o t d i j e k l f on m g n p) (a:A'<=A) (c:B<=B'):gK w A' B' b o t d i j e k l f on m g n p :=
 ⟨h.c0,h.c1,h.c2,h.c3,h.c4,h.c5,h.page,h.keys.up a c,h.vals.up a c,h.over.up a c,h.kids.up a c⟩
theorem aw.keep {ts:List TN} (h:aw w A B a n c ts) (e:eS A B w w'):aw w' A B a n c ts:=by
 obtain⟨f,g,i,j⟩:=h;refine⟨f,g,i,fun k=>?_⟩;obtain⟨b,l,rfl,d,m⟩:=j k;refine⟨b,l,rfl,d,fun o p=>?_⟩;obtain⟨q,r,s,t,u,v,x,on,y,z,C,D,h⟩:=m o p;exact⟨q,r,s,t,u,v,x,on,y,z,C,D,h.keep d e⟩
theorem aw.below {ts:List TN} (h:aw w A B a n c ts) (b:Below B w w'):aw w' A B a n c ts:=h.keep (.of_below b)
theorem aw.up {ts:List TN} (h:aw w A B a n c ts) (d:A'<=A) (e:B<=B'):aw w A' B' a n c ts:=by
 obtain⟨f,g,i,j⟩:=h;refine⟨f,g,i,fun k=>?_⟩;obtain⟨b,l,rfl,E,m⟩:=j k;refine⟨b,l,rfl,⟨by omega,by omega⟩,fun o p=>?_⟩;obtain⟨q,r,s,t,u,v,x,on,y,z,C,D,h⟩:=m o p;exact⟨q,r,s,t,u,v,x,on,y,z,C,D,h.up d e⟩
theorem aw.at {ts:List TN} (h:aw w A B a n c ts) {i:Nat} (e:i<n) :
  ∃ b d,a=some ⟨b,d,none⟩∧(A<=b∧b<B)∧∃ f g j k l m o on p q r s,gK w A B b (d+i*6) (ts.getD i dT) f g j k l m o on p q r s:=by
 obtain⟨x,y,z,t⟩:=h;obtain⟨b,d,rfl,u,v⟩:=t (by omega);exact⟨b,d,rfl,u,v i e⟩
def zO:List ByteArray->Int
 | []=>0
 | s::r=>s.size+1+zO r
def Dx (t:TN):Int:=zO t.keys+zO t.vals+t.over.length+t.kids.length
def De:List TN->Int
 | []=>0
 | t::r=>Dx t+1+De r
end Go.Proofs.YtggmghkcdfjdoaaGreat
