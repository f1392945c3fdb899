import Derived.Test.YtggmghkcdfjdoaaGreatHTks
import Derived.Test.YtggmghkcdfjdoaaGreatHMem
import Derived.Test.YtggmghkcdfjdoaaGreatHTp
import Derived.OwnWalk
import Derived.ArgAppend
import Derived.Deep.QuietTactic
import Derived.BigQuiet
import Derived.Deep.DeepCutAuto
import Derived.Deep.RegionHeld3
import Derived.WalkSpells
import Derived.WalkLawsBesides
import Derived.Laws.IdiomStrings
namespace Go.Proofs.YtggmghkcdfjdoaaGreat
set_option maxHeartbeats 2000000
open Go.RowKit Tryz
set_option linter.unusedVariables false
set_option linter.unusedSimpArgs false
set_option maxRecDepth 100000
variable {A B L N Wk b c n oc on rc vc vn:Nat} {P Q:Nat->Prop} {a oa ra va:Option Addr} {css:Nat->List Value} {k t:T} {pg:Int} {u v0 v1:Value} {us:Nat->Value} {w w' wr:World} {wcs xcs:Array Value} {zs:List T}
def aB (s:ByteArray × ByteArray × Int):List Value:=[.string s.1,.string s.2.1,.int .i64 s.2.2]
theorem uo:∀ a,(aB a).length=3:=fun _=>rfl
def qF (w:World) (P:Nat->Prop) (a:Option Addr) (n c:Nat) (zs:List (ByteArray × ByteArray × Int)):Prop :=
 zs.length=n∧n<=c∧c<=maxLen∧(0<n->∃ b,a=some ⟨b,0,none⟩∧P b∧∀ r,r<n*3->w.cell? ⟨b,r,none⟩=(aa aB zs)[r]?)
def gf (w:World) (P:Nat->Prop):T->Value->Prop
 | ⟨l,p,k,v,o,y⟩,u=>if l then ∃ (L:Nat) (a:Option Addr) (n c:Nat),u=.iface 123 (.pointer (some ⟨L,0,none⟩))∧P L∧w.heap[L]?=some (.cells #[.int .i64 p,.slice a n c] 125)∧qF w P a n c (k.zip (v.zip o))∧n=k.length
  else ∃ (L:Nat) (a:Option Addr) (n c:Nat) (us:Nat->Value),u=.iface 77 (.pointer (some ⟨L,0,none⟩))∧P L∧w.heap[L]?=some (.cells #[.int .i64 p,.slice a n c] 83)∧(n=y.length∧n<=c∧c<=maxLen)∧(0<n->∃ b,a=some ⟨b,0,none⟩∧P b∧∀ i,i<n->w.cell? ⟨b,i,none⟩=some (us i))∧∀ i,∀ t ∈ y,y[i]?=some t->gf w P t (us i)
structure gI (w:World) (P:Nat->Prop) (t:T) (L:Nat) (a:Option Addr) (n c:Nat):Prop where
 at':P L
 box:w.heap[L]?=some (.cells #[.int .i64 t.page,.slice a n c] 125)
 row:qF w P a n c (t.keys.zip (t.vals.zip t.over))
 len:n=t.keys.length
structure eM (w:World) (P:Nat->Prop) (t:T) (L:Nat) (a:Option Addr) (n c:Nat) (us:Nat->Value):Prop where
 at':P L
 box:w.heap[L]?=some (.cells #[.int .i64 t.page,.slice a n c] 83)
 len:n=t.kids.length∧n<=c∧c<=maxLen
 row:0<n->∃ b,a=some ⟨b,0,none⟩∧P b∧∀ i,i<n->w.cell? ⟨b,i,none⟩=some (us i)
 kid:∀ i,∀ k ∈ t.kids,t.kids[i]?=some k->gf w P k (us i)
theorem gf.leaf (h:gf w P t u) (b:t.leaf=true):∃ L a n c,u=.iface 123 (.pointer (some ⟨L,0,none⟩))∧gI w P t L a n c:=by
 obtain⟨j,l,k,m,o,p⟩:=t;simp only at b;rw[gf.eq_def] at h;simp only[b,if_true] at h;obtain⟨L,a,n,c,d,e,f,g,i⟩:=h;exact⟨L,a,n,c,d,e,f,g,i⟩
theorem gf.inner (h:gf w P t u) (b:t.leaf=false):∃ L a n c us,u=.iface 77 (.pointer (some ⟨L,0,none⟩))∧eM w P t L a n c us:=by
 obtain⟨l,m,k,o,p,q⟩:=t;simp only at b;rw[gf.eq_def] at h;simp only[b,EC,EO] at h;obtain⟨L,a,n,c,us,d,e,f,g,i,j⟩:=h;exact⟨L,a,n,c,us,d,e,f,g,i,j⟩
theorem gI.is (h:gI w P t L a n c) (b:t.leaf=true):gf w P t (.iface 123 (.pointer (some ⟨L,0,none⟩))):=by
 obtain⟨d,e,k,f,g,i⟩:=t;simp only at b;rw[gf.eq_def];simp only[b,if_true];exact⟨L,a,n,c,rfl,h.at',h.box,h.row,h.len⟩
theorem eM.is (h:eM w P t L a n c us) (b:t.leaf=false):gf w P t (.iface 77 (.pointer (some ⟨L,0,none⟩))):=by
 obtain⟨d,e,k,f,g,i⟩:=t;simp only at b;rw[gf.eq_def];simp only[b,EC,EO];exact⟨L,a,n,c,us,rfl,h.at',h.box,h.len,h.row,h.kid⟩
theorem qF.keep {zs:List (ByteArray × ByteArray × Int)} (h:qF w P a n c zs) (f:∀ b,P b->w'.heap[b]?=w.heap[b]?) (g:∀ b,P b->Q b):qF w' Q a n c zs:=by
 obtain⟨i,j,k,l⟩:=h;refine⟨i,j,k,fun m=>?_⟩;obtain⟨b,o,d,p⟩:=l m;exact⟨b,o,g b d,fun e q=>(Ep (w:=w) (a:=⟨b,e,none⟩) (f b d)).trans (p e q)⟩
theorem gf.keep (e:∀ b,P b->w'.heap[b]?=w.heap[b]?) (f:∀ b,P b->Q b):∀ t u,gf w P t u->gf w' Q t u:=by
 intro t
 induction t using T.ind with
 |h t s=>
  intro u p;cases g:t.leaf;·obtain⟨L,a,n,c,us,rfl,d,j,l,m,v⟩:=p.inner g;refine eM.is (us:=us) ⟨f L d,(e L d).trans j,l,fun x=>?_,fun i k q o=>s k q _ (v i k q o)⟩ g;obtain⟨b,y,r,z⟩:=m x;exact⟨b,y,f b r,fun i o=>(Ep (w:=w) (a:=⟨b,i,none⟩) (e b r)).trans (z i o)⟩
  ·obtain⟨L,a,n,c,rfl,d,j,l,m⟩:=p.leaf g;exact gI.is ⟨f L d,(e L d).trans j,l.keep e f,m⟩ g
theorem au {t:TypeId} (h:w.heap[N]?=some (.cells #[v0,v1] t)):w.cell? ⟨N,0,none⟩=some v0∧w.cell? ⟨N,1,none⟩=some v1:=by
 simp[World.cell?,h]
def xF (w:World) (ty:TypeId) (v:Value) (name:String) (ans:Value):Prop :=
 (∀ w,(nilAhead 290 ty v name).run prog w=.ok (some false) w)∧∃ f r,(∀ w,(method 290 ty v name).run prog w=.ok (f,r) w)∧(∀ w,(callFunc f #[r]).run prog w=.ok (.enter f #[r]) w)∧Calls prog f #[r] w fun e w'=>e=.returned ans∧w'=w
structure CL (w:World) (t:T) (ty:TypeId) (v:Value):Prop where
 size:xF w ty v "loop.example/s02098/impl.size" (.int .i64 t.size)
 where':xF w ty v "loop.example/s02098/impl.where" (.int .i64 t.page)
 height:xF w ty v "loop.example/s02098/impl.height" (.int .i64 t.ht)
 least:0<t.size->xF w ty v "loop.example/s02098/impl.least" (.string t.low)
theorem oY (h:gI w P t L a n c):Calls prog 114 #[.pointer (some ⟨L,0,none⟩)] w fun b w'=>b=.returned (.int .i64 n)∧w'=w:=by
 obtain⟨d,e⟩:=au h.box;have f:=Za h.box;clear h;go_enter func114,ntmps114;go_wp2
 go_ret;exact⟨rfl,rfl⟩
theorem nZ {p:Int} (h:w.heap[L]?=some (.cells #[.int .i64 p,.slice a n c] 83)):Calls prog 93 #[.pointer (some ⟨L,0,none⟩)] w fun b w'=>b=.returned (.int .i64 n)∧w'=w:=by
 obtain⟨d,e⟩:=au h;have f:=Za h;clear h;go_enter func93,ntmps93;go_wp2
 go_ret;exact⟨rfl,rfl⟩
theorem xG {p:Int} (h:w.cell? ⟨L,0,none⟩=some (.int .i64 p)):Calls prog 97 #[.pointer (some ⟨L,0,none⟩)] w fun b w'=>b=.returned (.int .i64 p)∧w'=w:=by
 have c:L<w.heap.size:=by
  rcases Nat.lt_or_ge L w.heap.size with a | a;·exact a
  ·simp[World.cell?,Array.getElem?_eq_none a] at h
 go_enter func97,ntmps97;go_wp2
 go_ret;exact⟨rfl,rfl⟩
theorem sm (w:World) (L:Nat):Calls prog 111 #[.pointer (some ⟨L,0,none⟩)] w fun a w'=>a=.returned (.int .i64 0)∧w'=w:=by
 go_enter func111,ntmps111;go_wp2
 go_ret;exact⟨rfl,rfl⟩
theorem oe (h:gI w P t L a n c) (e:0<n):Calls prog 112 #[.pointer (some ⟨L,0,none⟩)] w fun i w'=>i=.returned (.string (t.keys.headD ByteArray.empty))∧w'=w:=by
 obtain⟨m,o⟩:=au h.box;have p:=Za h.box;obtain⟨b,rfl,q,f⟩:=h.row.2.2.2 e;have j:w.cell? ⟨b,0,none⟩=some (.string (t.keys.headD ByteArray.empty)):=by
  rw[f 0 (by omega)];have d:=h.row.1;have g:=h.len;cases k:t.keys with
  | nil=>rw[k] at g;simp at g;omega
  |cons r s=>
   cases l:t.vals.zip t.over with
   | nil=>rw[l] at d;simp at d;omega
   | cons u v=>simp[aa,aB]
 have x:b<w.heap.size:=by
  rcases Nat.lt_or_ge b w.heap.size with d | d;·exact d
  ·simp[World.cell?,Array.getElem?_eq_none d] at j
 have y:=e;clear h f e;generalize t.keys.headD ByteArray.empty=z at *;go_enter func112,ntmps112;go_wp2
 go_ret;exact⟨rfl,rfl⟩
theorem aO {o:Nat} {v:Value} (h:w.cell? ⟨b,o,none⟩=some v):b<w.heap.size:=by
 rcases Nat.lt_or_ge b w.heap.size with a | a;·exact a
 ·simp[World.cell?,Array.getElem?_eq_none a] at h
theorem mu (h:eM w P t L a n c us) (d:0<n) {ty:TypeId} {v:Value} (e:us 0=.iface ty v) {s:ByteArray} (j:xF w ty v "loop.example/s02098/impl.least" (.string s)):Calls prog 91 #[.pointer (some ⟨L,0,none⟩)] w fun f w'=>f=.returned (.string s)∧w'=w:=by
 obtain⟨l,m⟩:=au h.box;have o:=Za h.box;obtain⟨b,rfl,p,g⟩:=h.row d;have i:=g 0 d;rw[e] at i;have q:=aO i;obtain⟨r,u,x,y,z,k⟩:=j;clear h g e;go_enter func91,ntmps91;go_wp2_with fail
 refine k.mono ?_;rintro f w' ⟨rfl,rfl⟩;go_wp2_with fail
 go_ret;exact⟨rfl,rfl⟩
theorem qG (h:eM w P t L a n c us) (d:0<n) {ty:TypeId} {v:Value} (e:us 0=.iface ty v) {s:Int} (l:0<=s∧s<1000000) (j:xF w ty v "loop.example/s02098/impl.height" (.int .i64 s)):Calls prog 90 #[.pointer (some ⟨L,0,none⟩)] w fun f w'=>f=.returned (.int .i64 (s+1))∧w'=w:=by
 obtain⟨m,o⟩:=au h.box;have p:=Za h.box;obtain⟨b,rfl,q,g⟩:=h.row d;have i:=g 0 d;rw[e] at i;have r:=aO i;obtain⟨u,x,y,z,A,k⟩:=j;clear h g e;go_enter func90,ntmps90;go_wp2_with fail
 refine k.mono ?_;rintro f w' ⟨rfl,rfl⟩;go_wp2_with fail
 go_ret;exact⟨rfl,rfl⟩
theorem dX {r:Bool} (h:t.good r=true) (a:k ∈ t.kids):k.good false=true:=by
 rw[T.good_eq] at h;simp only[Em] at h;exact Ez.1 h.1.2 (k.good false) (EY.2 ⟨k,a,rfl⟩)
theorem el (h:k ∈ t.kids):k.nodes<t.nodes:=by
 rw[T.nodes_eq t];have:∀ (b:List T),k ∈ b->k.nodes<=(b.map T.nodes).sum:=by
  intro b
  induction b with
  | nil=>intro h;cases h
  |cons a d c=>
   intro h;rcases EL.1 h with rfl | h;·simp
   ·have:=c h;simp;omega
 have:=this _ h;omega
theorem Cd (t:T):t.ht<t.nodes:=by
 induction t using T.ind with
 |h t c=>
  rw[T.ht_eq];split;·rw[T.nodes_eq];omega
  ·cases a:t.kids with
   | nil=>rw[T.nodes_eq,a];simp[T.htOf]
   |cons k b=>
    have f:=c k (by rw[a];exact Et ..);have g:=el (t:=t) (k:=k) (by rw[a];exact Et ..);simp only[Ex];have d:T.htOf (k.ht::b.map T.ht)=(if k.ht<0 then (-1:Int) else if (b.map T.ht).all (fun e=>e == k.ht) then k.ht+1 else -1):=rfl;rw[d];split;·omega
    ·split<;>omega
theorem oZ {r:List T} (e:t.leaf=false) (f:t.kids=k::r) (h:0<=t.ht):t.ht=k.ht+1∧∀ a ∈ t.kids,0<=a.ht∧a.ht=k.ht:=by
 rw[T.ht_eq,if_neg (by simp[e]),f,Ex] at h ⊢;obtain⟨c,d⟩:=uu h;refine⟨oX c d,fun a b=>?_⟩;rcases EL.1 b with rfl | b;·exact⟨c,rfl⟩
 ·have:=d a.ht (List.mem_map_of_mem b);omega
theorem gf.shape (h:gf w P t u):∃ d e,u=.iface d e:=by
 cases b:t.leaf;·obtain⟨L,a,n,c,us,rfl,_⟩:=h.inner b;exact⟨_,_,rfl⟩
 ·obtain⟨L,a,n,c,rfl,_⟩:=h.leaf b;exact⟨_,_,rfl⟩
theorem gf.obj:∀ (t:T) (l:TypeId) (m:Value),t.nodes<=100000->(∃ r,t.good r=true)->0<=t.ht->gf w P t (.iface l m)->CL w t l m:=by
 intro t
 induction t using T.ind with
 |h t z=>
  rintro l m F ⟨r,f⟩ A s;cases d:t.leaf
  ·obtain⟨L,a,n,c,us,g,b⟩:=s.inner d;cases g;have i:t.size=n:=(by rw[b.len.1];simp[T.size,d]);have u:0<n:=(by rw[T.good_eq] at f;simp only[Em,Es,d,Bool.and_false,i] at f;have:=f.1.1.1.1.1;simp at this;omega);obtain⟨k,v,j⟩:∃ k v,t.kids=k::v:=EX (by intro g;have:=b.len.1;rw[g] at this;simp at this;omega);have e:k ∈ t.kids:=(by rw[j];exact Et ..);have o:=b.kid 0 k e (by rw[j];rfl);obtain⟨B,C,p⟩:=o.shape;rw[p] at o;obtain⟨D,x⟩:=oZ d j A;have G:=el e;have y:=z k e B C (by omega) ⟨false,dX f e⟩ (x k e).1 o;have E:0<k.size:=(by have q:=dX f e;rw[T.good_eq] at q;simp only[Em,Es] at q;have:=q.1.1.1.1.1;simp at this;omega);refine⟨⟨fun w=>by kernel_rfl,93,.pointer (some ⟨L,0,none⟩),fun w=>by kernel_rfl,fun w=>by kernel_rfl,?_⟩,⟨fun w=>by kernel_rfl,97,.pointer (some ⟨L,0,none⟩),fun w=>by kernel_rfl,fun w=>by kernel_rfl,?_⟩,⟨fun w=>by kernel_rfl,90,.pointer (some ⟨L,0,none⟩),fun w=>by kernel_rfl,fun w=>by kernel_rfl,?_⟩,fun _=>⟨fun w=>by kernel_rfl,91,.pointer (some ⟨L,0,none⟩),fun w=>by kernel_rfl,fun w=>by kernel_rfl,?_⟩⟩;·rw[i];exact nZ b.box
   ·exact xG (au b.box).1
   ·rw[D];exact qG b u p ⟨(x k e).1,by have:=Cd k;omega⟩ y.height
   ·rw[T.low_inner d j];exact mu b u p (y.least E)
  ·obtain⟨L,a,n,c,g,b⟩:=s.leaf d;cases g;have i:t.size=n:=(by rw[b.len];simp[T.size,d]);refine⟨⟨fun w=>by kernel_rfl,114,.pointer (some ⟨L,0,none⟩),fun w=>by kernel_rfl,fun w=>by kernel_rfl,?_⟩,⟨fun w=>by kernel_rfl,97,.pointer (some ⟨L,0,none⟩),fun w=>by kernel_rfl,fun w=>by kernel_rfl,?_⟩,⟨fun w=>by kernel_rfl,111,.pointer (some ⟨L,0,none⟩),fun w=>by kernel_rfl,fun w=>by kernel_rfl,?_⟩,fun H=>⟨fun w=>by kernel_rfl,112,.pointer (some ⟨L,0,none⟩),fun w=>by kernel_rfl,fun w=>by kernel_rfl,?_⟩⟩;·rw[i];exact oY b
   ·exact xG (au b.box).1
   ·rw[T.ht_eq,if_pos d];exact sm w L
   ·rw[T.low_leaf d];exact oe b (by omega)
theorem gg:(prog.info? 9).map (fun a=>(a.zero,a.size,a.bytes))=some (some (.string ByteArray.empty),1,16):=by kernel_rfl
theorem du:(prog.info? 2).map (fun a=>(a.zero,a.size,a.bytes))=some (some (.int .i64 0),1,8):=by kernel_rfl
theorem gh:(prog.info? 44).map (fun a=>(a.zero,a.size,a.bytes))=some (some (.agg (Z0 false 0)),6,112):=by kernel_rfl
theorem aj {t:Nat} {cs:Array Value} (h:w.heap[b]?=some (.cells cs t (0,0))) (o:Nat) (v:Value):(w.setCell ⟨b,o,none⟩ v).heap[b]?=some (.cells (cs.setIfInBounds o v) t (0,0)):=by
 obtain⟨a,c⟩:=Array.getElem?_eq_some_iff.1 h;show (w.heap.modify b _)[b]?=_;rw[Array.getElem?_eq_getElem (by rw[Array.size_modify];exact a),Array.getElem_modify_self,c];rfl
theorem af (w:World) (b o:Nat) (v:Value):Fr (fun k=>k=b) w (w.setCell ⟨b,o,none⟩ v) :=
 ⟨rfl,rfl,rfl,by simp[World.setCell],fun k _ a=>by
  show (w.heap.modify b _)[k]?=_
  rw[Array.getElem?_modify,if_neg (fun c=>a c.symm)]⟩
theorem ar {g:Nat} {cs:Array Value} {t:TypeId} (h:w.heap[g]?=some (.cells cs t)):∀ a,w.frozen? ⟨g,a,none⟩=false:=by
 intro a;simp[World.frozen?,h]
def bg (w:World) (N:Nat) (u0 u1 u2 u3 u4 u5:Value):World:=(((((w.setCell ⟨N,0,none⟩ u0).setCell ⟨N,1,none⟩ u1).setCell ⟨N,2,none⟩ u2).setCell ⟨N,3,none⟩ u3).setCell ⟨N,4,none⟩ u4).setCell ⟨N,5,none⟩ u5
theorem aV {t:Nat} {f g i j:Value} (h:w.heap[N]?=some (.cells #[v0,v1,f,g,i,j] t)) (a b u2 c d e:Value):(bg w N a b u2 c d e).heap[N]?=some (.cells #[a,b,u2,c,d,e] t):=by
 simp[bg,World.setCell,Array.getElem?_modify,h]
theorem bk (w:World) (N:Nat) (a b u2 c d e:Value):Fr (fun f=>f=N) w (bg w N a b u2 c d e) :=
 (((((af _ _ _ _).trans (af _ _ _ _)).trans (af _ _ _ _)).trans (af _ _ _ _)).trans (af _ _ _ _)).trans (af _ _ _ _)
theorem nm (w:World) (a b c:Obj):(((w.alloc a).alloc b).alloc c).heap[w.heap.size]?=some a∧(((w.alloc a).alloc b).alloc c).heap[w.heap.size+1]?=some b∧(((w.alloc a).alloc b).alloc c).heap[w.heap.size+1+1]?=some c:=by
 have g:(w.alloc a).heap.size=w.heap.size+1:=by simp
 have h:((w.alloc a).alloc b).heap.size=w.heap.size+1+1:=by simp
 have i:=Ej w a;have d:=Ej (w.alloc a) b;have e:=Ej ((w.alloc a).alloc b) c;have j:=Zb (w.alloc a) b;have f:=Zb ((w.alloc a).alloc b) c;rw[g] at d;rw[h] at e;exact⟨(f.block _ (by omega)).trans ((j.block _ (by omega)).trans i),(f.block _ (by omega)).trans d,e⟩
def og (w:World) (lo:Nat) (a:Option Addr) (n:Nat):Prop:=0<n->∃ b off,a=some ⟨b,off,none⟩∧(lo<=b∧b<w.heap.size)∧∀ i,i<n->(∃ v,w.cell? ⟨b,off+i,none⟩=some v)∧w.frozen? ⟨b,off+i,none⟩=false
theorem o7 {a e size:Nat} {v:Value} {c:List Value} (h:w.ownsRow b e size v n c) (d:a<=b):w.ownsRow a e size v n c:=by
 refine⟨h.1,?_⟩;rcases h.2 with f | ⟨g,i,j,k,l,m⟩;·exact .inl f
 ·exact .inr ⟨g,i,j,k,Eo d l,m⟩
theorem uy {a:Option Nat} (h:w.grownBy w' none):w.grownBy w' a :=
 ⟨h.os,h.tape,h.output,h.size,fun k b _=>h.block k b (by simp)⟩
theorem dU {P:Program} (w:World) (base:Nat) (t ty e:TypeId) (i:TypeInfo) (z:Value) (size o:Nat) (ht:P.underlying t=some (.slice e)) (x:P.info? e=some i) (B:i.zero=some z)
  (y:i.size=size) (C:i.bytes=o) (D:z.cells.size=size) (E:0<size)
  (v:Value) (n:Nat) (j:List Value) (p:w.ownsRow base e size v n j)
  (a:Addr) (m c:Nat) (d:List Value) (q:d.length=m*size) (A:∀ r u,d[r]?=some u->w.cell? (a.add r)=some u) (F:∀ u ∈ d,u.oneCell'=true)
  (G:n+m<=maxLen) (H:(n+m)*o<=140737488355328) (I:base<=w.heap.size) :
  ∃ b w',(Builtin.append_ #[t,t] ty #[v,.slice (some a) m c]).run P w=.ok b w'∧w'.ownsRow base e size b (n+m) (j++d)∧w.grownBy w' v.ownBlock ∧
   (b.ownBlock=v.ownBlock∨∀ f,b.ownBlock=some f->w.heap.size<=f):=by
 rcases p.2 with ⟨rfl,rfl⟩ | ⟨f,J,L,rfl,U,O,V,W,Q,X⟩;·have R:j=[]:=E7 (by simpa using p.1);subst R;obtain⟨b,w',l,h,s,_⟩:=run_append_own (P:=P) w w.heap.size t ty e i z size o ht x B y C D E _ 0 [] (World.ownsRow_nil w _ e size) a m c d q A F G H (Ek _);exact⟨b,w',l,o7 h I,s,.inr fun k K=>(h.lt k K).1⟩
 ·by_cases M:n+m<=J;·obtain⟨b,w',l,h,s,_⟩:=run_append_own (P:=P) w base t ty e i z size o ht x B y C D E _ n j p a m c d q A F G H I;subst y;have S:n*i.size+d.length<=L.size:=(by rw[q,Q,<-Nat.add_mul];exact Nat.mul_le_mul_right _ M);have N:=run_append_room (P:=P) w t ty e i ht x f n J L O a m c d q A F M S;rw[l] at N;injection N with e1 e2;exact⟨b,w',l,h,s,.inl (by rw[e1];rfl)⟩
  ·have T:∀ r u,j[r]?=some u->w.cell? ((⟨f,0,none⟩:Addr).add r)=some u:=p.cells (g:=f) rfl;obtain⟨b,w',l,h,s⟩:=run_append_arg_grows (P:=P) w t ty e i z size o ht x B y C D E ⟨f,0,none⟩ n J j p.1 T a m c d q A (by omega) G H;exact⟨b,w',l,o7 h I,uy s,.inr fun k K=>(h.lt k K).1⟩
theorem ak {P:Program} (w:World) {ops:Array Oper} {rest:List Oper} {o:Oper} {a:Act} {Q:Exit->Act->World->Prop} (p:o.guard=none) (s x:Operand) (t:TypeId)
  (q:o.op=.call { callee:=.builtin .append,args:=#[s,x],argTypes:=#[t,t] })
  (base:Nat) (e:TypeId) (i:TypeInfo) (z:Value) (size f:Nat) (ht:P.underlying t=some (.slice e)) (r:P.info? e=some i) (y:i.zero=some z)
  (A:i.size=size) (B:i.bytes=f) (C:z.cells.size=size) (D:0<size)
  (v:Value) (n:Nat) (k:List Value) (E:a.eval s=v) (F:w.ownsRow base e size v n k)
  (l:Addr) (m c:Nat) (d:List Value) (G:a.eval x=.slice (some l) m c) (H:d.length=m*size) (I:∀ j u,d[j]?=some u->w.cell? (l.add j)=some u) (J:∀ u ∈ d,u.oneCell'=true)
  (K:n+m<=maxLen) (L:(n+m)*f<=140737488355328) (M:base<=w.heap.size)
  (h:∀ b w',w'.ownsRow base e size b (n+m) (k++d)->w.grownBy w' v.ownBlock->(b.ownBlock=v.ownBlock∨∀ g,b.ownBlock=some g->w.heap.size<=g)->wpList P ops Q rest (a.put o.dst b) w'):wpList P ops Q (o::rest) a w:=by
 refine wpList_plain p fun _ N=>?_;obtain⟨b,w',O,R,S,T⟩:=dU (P:=P) w base t o.type e i z size f ht r y A B C D v n k F l m c d H I J K L M;unfold Oper.wp execOp;simp only[q,resolve,invoke,builtin,Sem.run_bind,Sem.run_pure,Result.andThen_ok,List.map_toArray,Ex,E6,E,G,O];exact N _ _ (h b w' R S T)
def zW (ts:List TN) (f:Nat):Prop:=∀ nx,nx<=ts.length->nx<=(rd ts f nx).2.1∧(rd ts f nx).2.1<=ts.length∧((rd ts f nx).2.2=false->nx<(rd ts f nx).2.1)
theorem rl {ts:List TN} {f:Nat} (d:zW ts f):∀ (b:List Int) (a:Nat),a<=ts.length->a<=(fm (rd ts f) b a).2.1∧(fm (rd ts f) b a).2.1<=ts.length
 | [],a,h=>by simp[fm,h]
 | k::b,a,h=>by
  unfold fm
  have c:=d a h
  split
  ·split
   ·exact⟨c.1,c.2.1⟩
   ·have e:=rl d b (rd ts f a).2.1 c.2.1
    exact⟨by simp only;omega,e.2⟩
  ·exact⟨Ek _,h⟩
theorem uD (ts:List TN):∀ a,zW ts a
 | 0=>by intro b c;simp[rd,c]
 | a+1=>by
  have d:=uD ts a
  intro b c
  unfold rd
  split
  ·rename_i f
   split
   ·exact⟨by simp only;omega,by simp only;omega,fun _=>by simp only;omega⟩
   ·split
    ·exact⟨by simp only;omega,by simp only;omega,fun _=>by simp only;omega⟩
    ·have:=rl d (ts.getD b dT).kids (b+1) (by omega)
     exact⟨by simp only;omega,this.2,fun _=>by simp only;omega⟩
  ·exact⟨Ek _,c,fun e=>by simp at e⟩
theorem gm:(prog.info? 57).map (fun a=>(a.zero,a.size,a.bytes))=some (some (.agg (Z0 false 0)),6,112):=by kernel_rfl
theorem iC {g:Nat} {a:Value} {t:TypeId} (h:w.heap[g]?=some (.cells #[v0,v1,a] t)):w.cell? ⟨g,0,none⟩=some v0∧w.cell? ⟨g,1,none⟩=some v1∧w.cell? ⟨g,2,none⟩=some a:=by
 simp[World.cell?,h]
structure ph (ts:List TN) (f nx:Nat) (a:Option Addr) (n c A B Wk:Nat) (w:World) (e:Ending) (w':World):Prop where
 ex:∃ ka kn kc va vn vc oa on oc ya yc css,e=.returned (.agg (Zs (rd ts f nx).1.leaf (rd ts f nx).1.page ka kn kc va vn vc oa on oc ya (rd ts f nx).1.kids.length yc))∧bz w' A B (fun b=>w.heap.size<=b∧b<w'.heap.size) (rd ts f nx).1 ka kn kc va vn vc oa on oc ya yc css
 wk:w'.heap[Wk]?=some (.cells #[.slice a n c,.int .i64 (rd ts f nx).2.1,.bool (rd ts f nx).2.2] 97)
 fr:Fr (fun g=>g=Wk) w w'
theorem wv (ts:List TN) (f nx:Nat) (a:Option Addr) (n c A B Wk:Nat) (w:World) (Y:B<=w.heap.size) (E:nx=ts.length) (Z:ts.length<=1000) (F:ts.length=n) (aa:B<=Wk) (s:w.heap[Wk]?=some (.cells #[.slice a n c,.int .i64 nx,.bool false] 97)) :
  Calls prog 38 #[.pointer (some ⟨Wk,0,none⟩)] w fun G w'=>ph ts (f+1) nx a n c A B Wk w G w':=by
 have i:Hid (rd ts (f+1) nx=(br,nx,true)):=by show _=_;unfold rd;rw[if_neg (by omega)]
 have H:=Za s;have I:nx=n:=by omega
 subst I;clear E F;have j:Below w.heap.size w (w.alloc (.cells (Z0 false 0) 57)):=Zb _ _;have l:=Ej w (.cells (Z0 false 0) 57);have m:=(j.block Wk H).trans s;have o:(w.alloc (.cells (Z0 false 0) 57)).heap.size=w.heap.size+1:=by simp
 obtain⟨N,J⟩:=Zn w.heap.size;rw[J] at l o;obtain⟨t,u,x⟩:=iC m;go_enter func38,ntmps38;go_wp2_with fail
 go_quiet (fail)
 have b:Below w.heap.size w ((w.alloc (.cells (Z0 false 0) 57)).drewN nq):=j.trans ⟨rfl,rfl,rfl,Ek _,fun _ _=>rfl⟩;have y:((w.alloc (.cells (Z0 false 0) 57)).drewN nq).heap[N]?=some (.cells (Z0 false 0) 57):=l;have h:((w.alloc (.cells (Z0 false 0) 57)).drewN nq).heap[Wk]?=some (.cells #[.slice a nx c,.int .i64 nx,.bool false] 97):=m;have z:((w.alloc (.cells (Z0 false 0) 57)).drewN nq).heap.size=N+1:=o;generalize (w.alloc (.cells (Z0 false 0) 57)).drewN nq=g at b y h z ⊢;clear t u x j l m o;obtain⟨t,u,x⟩:=iC h;have ab:=ar h;have K:=aj h 2 (.bool true);have d:=af g Wk 2 (.bool true);have p:=(d.block N (by omega) (by omega)).trans y;obtain⟨ac,ad,ae,ag,ah,ai⟩:=aS p;have ak:=ar p;have L:=aV p (.bool true) (.int .i64 0) (.slice none 0 0) (.slice none 0 0) (.slice none 0 0) (.slice none 0 0);have e:=bk (g.setCell ⟨Wk,2,none⟩ (.bool true)) N (.bool true) (.int .i64 0) (.slice none 0 0) (.slice none 0 0) (.slice none 0 0) (.slice none 0 0);have al:(g.setCell ⟨Wk,2,none⟩ (.bool true)).heap.size=N+1:=by simp[World.setCell,z]
 have M:=(e.block Wk (by omega) (by omega)).trans K
 have O:Fr (fun P=>P=Wk) w (bg (g.setCell ⟨Wk,2,none⟩ (.bool true)) N (.bool true) (.int .i64 0) (.slice none 0 0) (.slice none 0 0) (.slice none 0 0) (.slice none 0 0)) :=
  ⟨e.os.trans (d.os.trans b.os),e.tape.trans (d.tape.trans b.tape),e.output.trans (d.output.trans b.output),Eo b.size (Eo d.size e.size),fun k q Q=>(e.block k (by omega) (by omega)).trans ((d.block k (by omega) Q).trans (b.block k q))⟩
 go_wp2_with fail
 show bodyPost _ _ _ _ _ (bg (g.setCell ⟨Wk,2,none⟩ (.bool true)) N (.bool true) (.int .i64 0) (.slice none 0 0) (.slice none 0 0) (.slice none 0 0) (.slice none 0 0));obtain⟨R,S,T,U,p4,V⟩:=aS L;refine bodyPost_ret (v:=.agg (Z0 true 0)) (by simp[results,results38,go_sem,R,S,T,U,p4,V]) rfl ?_;have C:∀ (w:World),aP w A B none 0 0 []:=fun w=>⟨rfl,Ek _,En _,fun D W=>by omega,fun r=>by omega⟩;have X:∀ (w:World),bf w A B none 0 0 []:=fun w=>⟨rfl,Ek _,En _,fun D W=>by omega,fun r=>by omega⟩;refine⟨⟨none,0,0,none,0,0,none,0,0,none,0,fun _=>[],?_,?_⟩,?_,O⟩;·rw[i.out];rfl
 ·rw[i.out];exact⟨by unfold ga br;simp,C _,C _,X _,⟨Ek _,En _⟩,fun r=>by simp[br] at r,fun D k q=>by simp[br] at q⟩
 ·rw[i.out];exact M
theorem uE (ts:List TN) (f nx:Nat) (a:Option Addr) (n c A B Wk:Nat) (w:World) (bh:B<=w.heap.size) (R:aw w A B a n c ts) (ao:nx<ts.length) (bi:ts.length<=1000) (S:(ts.getD nx dT).leaf=true) (bj:B<=Wk) (ap:w.heap[Wk]?=some (.cells #[.slice a n c,.int .i64 nx,.bool false] 97)) :
  Calls prog 38 #[.pointer (some ⟨Wk,0,none⟩)] w fun aP w'=>ph ts (f+1) nx a n c A B Wk w aP w':=by
 have x:Hid (rd ts (f+1) nx=(⟨true,(ts.getD nx dT).page,(ts.getD nx dT).keys,(ts.getD nx dT).vals,(ts.getD nx dT).over,[]⟩,nx+1,false)):=by show _=_;unfold rd;rw[if_pos ao,if_pos S]
 have aQ:=Za ap;have aR:=R.1;obtain⟨b,d,rfl,bl,e,g,h,va,vn,vc,oa,on,oc,D,E,F,T⟩:=R.at (i:=nx) (by omega);have aq:nx<n:=by omega
 have bm:n<=1000:=by omega
 obtain⟨U,au⟩:∃ U,U=ts.getD nx dT:=⟨_,rfl⟩;rw[<-au] at x T S;have aT:=hidI T;obtain⟨V,W,av,ax,ay,az,aA,X,Y,Z,aB⟩:=T;rw[S] at V;clear ao aR R au X Y Z aB;generalize U.page=pg at W aA x;have l:Below w.heap.size w (w.alloc (.cells (Z0 false 0) 57)):=Zb _ _;have aa:=Ej w (.cells (Z0 false 0) 57);have ab:(w.alloc (.cells (Z0 false 0) 57)).heap.size=w.heap.size+1:=by simp
 obtain⟨N,aU⟩:=Zn w.heap.size;rw[aU] at aa ab;have ac:=(l.block Wk aQ).trans ap;have r:b<w.heap.size:=by omega
 have aC:=(l.cell (p:=⟨b,d+nx*6,none⟩) r).trans V;have aD:=(l.cell (p:=⟨b,d+nx*6+1,none⟩) r).trans W;have aE:=(l.cell (p:=⟨b,d+nx*6+2,none⟩) r).trans av;have aF:=(l.cell (p:=⟨b,d+nx*6+3,none⟩) r).trans ax;have aG:=(l.cell (p:=⟨b,d+nx*6+4,none⟩) r).trans ay;have aH:=(l.cell (p:=⟨b,d+nx*6+5,none⟩) r).trans az;clear V W av ax ay az;obtain⟨y,z,C⟩:=iC ac;go_enter func38,ntmps38;go_wp2_with fail
 go_quiet (fail)
 have s:Below w.heap.size w ((w.alloc (.cells (Z0 false 0) 57)).drewN nq):=l.trans ⟨rfl,rfl,rfl,Ek _,fun _ _=>rfl⟩;have aI:((w.alloc (.cells (Z0 false 0) 57)).drewN nq).heap[N]?=some (.cells (Z0 false 0) 57):=aa;have ad:((w.alloc (.cells (Z0 false 0) 57)).drewN nq).heap[Wk]?=some (.cells #[.slice (some ⟨b,d,none⟩) n c,.int .i64 nx,.bool false] 97):=ac;have ae:((w.alloc (.cells (Z0 false 0) 57)).drewN nq).heap.size=N+1:=ab;have aW:((w.alloc (.cells (Z0 false 0) 57)).drewN nq).cell? ⟨b,d+nx*6,none⟩=_:=aC;have aX:((w.alloc (.cells (Z0 false 0) 57)).drewN nq).cell? ⟨b,d+nx*6+1,none⟩=_:=aD;have aY:((w.alloc (.cells (Z0 false 0) 57)).drewN nq).cell? ⟨b,d+nx*6+2,none⟩=_:=aE;have aZ:((w.alloc (.cells (Z0 false 0) 57)).drewN nq).cell? ⟨b,d+nx*6+3,none⟩=_:=aF;have a0:((w.alloc (.cells (Z0 false 0) 57)).drewN nq).cell? ⟨b,d+nx*6+4,none⟩=_:=aG;have a1:((w.alloc (.cells (Z0 false 0) 57)).drewN nq).cell? ⟨b,d+nx*6+5,none⟩=_:=aH;generalize (w.alloc (.cells (Z0 false 0) 57)).drewN nq=t at s aI ad ae aW aX aY aZ a0 a1 ⊢;clear y z C l aa ac ab aC aD aE aF aG aH;obtain⟨y,z,C⟩:=iC ad;have bn:b<t.heap.size:=by omega
 have a2:Wk<t.heap.size:=by omega
 go_upto_region 4 with fail
 go_cut [3] (fun a3 ag=>a3=.pointer (some ⟨N+1,0,none⟩)∧ag.heap[N+1]?=some (.cells (Zs true pg e g h va vn vc oa on oc D E F) 44)∧Below t.heap.size t ag∧ag.heap.size=N+2)
 case first =>
  go_region_held3 (fun w'=>w'.cell? ⟨Wk,0,none⟩=some (.slice (some ⟨b,d,none⟩) n c)∧w'.cell? ⟨Wk,1,none⟩=some (.int .i64 nx)∧w'.cell? ⟨b,d+nx*6,none⟩=some (.bool true)∧w'.cell? ⟨b,d+nx*6+1,none⟩=some (.int .i64 pg)∧w'.cell? ⟨b,d+nx*6+2,none⟩=some (.slice e g h)∧w'.cell? ⟨b,d+nx*6+3,none⟩=some (.slice va vn vc)∧w'.cell? ⟨b,d+nx*6+4,none⟩=some (.slice oa on oc)∧w'.cell? ⟨b,d+nx*6+5,none⟩=some (.slice D E F)) (go_keep) (fail)
  have j:=Zb t (.cells (Zs true pg e g h va vn vc oa on oc D E F) 44);have aJ:=Ej t (.cells (Zs true pg e g h va vn vc oa on oc D E F) 44);rw[ae] at aJ;go_wp2_with fail
  go_meet
  exact⟨rfl,aJ,j.drew,by simp[ae]⟩
 case rest =>
  obtain⟨rfl,aK,o,a4⟩:=hcut;have ah:=(o.block Wk a2).trans ad;have a5:=(o.block N (by omega)).trans aI;clear y z C;obtain⟨y,z,C⟩:=iC ah;obtain⟨G,H,I,J,K,L⟩:=aS aK;have a6:=ar ah;have ai:=aj ah 1 (.int .i64 (nx+1:Nat));have m:=af wc Wk 1 (.int .i64 (nx+1:Nat));have M:(wc.setCell ⟨Wk,1,none⟩ (.int .i64 (nx+1:Nat))).heap.size=N+2:=(by simp[World.setCell,a4]);have ak:=(m.block N (by omega) (by omega)).trans a5;have O:=(m.block (N+1) (by omega) (by omega)).trans aK;have bo:Wk<wc.heap.size:=(by omega);have aL:(↑(nx+1:Nat):Int)=↑nx+1:=(by omega);rw[aL] at ai m M ak O;clear aL;go_upto_region 6 with fail
  generalize wc.setCell ⟨Wk,1,none⟩ (.int .i64 (↑nx+1))=P at ai m M ak O ⊢;clear G H I J K L y z C a6;obtain⟨G,H,I,J,K,L⟩:=aS O;have j:=Zb P (.cells (Zs true pg e g h va vn vc oa on oc none 0 0) 57);have al:=Ej P (.cells (Zs true pg e g h va vn vc oa on oc none 0 0) 57);have a7:(P.alloc (.cells (Zs true pg e g h va vn vc oa on oc none 0 0) 57)).heap.size=N+3:=(by simp[M]);have Q:=(j.block N (by omega)).trans ak;have aM:=(j.block (N+1) (by omega)).trans O;have aN:=(j.block Wk (by omega)).trans ai;rw[M] at al;go_upto_region 7 with fail
  generalize P.alloc (.cells (Zs true pg e g h va vn vc oa on oc none 0 0) 57)=q at j al a7 Q aM aN ⊢;clear G H I J K L;obtain⟨G,H,I,J,K,L⟩:=aS aM;obtain⟨bp,bq,br,bs,bt,bu⟩:=aS al;obtain⟨bv,bw,bx,bz,bA,bB⟩:=aS Q;have bC:=ar Q;have a8:=aV Q (.bool true) (.int .i64 pg) (.slice e g h) (.slice va vn vc) (.slice oa on oc) (.slice none 0 0);have u:=bk q N (.bool true) (.int .i64 pg) (.slice e g h) (.slice va vn vc) (.slice oa on oc) (.slice none 0 0);have a9:=(u.block Wk (by omega) (by omega)).trans aN;have bD:N<q.heap.size:=(by omega);have bE:N+1<q.heap.size:=(by omega);have bF:N+2<q.heap.size:=by omega
  have aO:Fr (fun a'=>a'=Wk) w (bg q N (.bool true) (.int .i64 pg) (.slice e g h) (.slice va vn vc) (.slice oa on oc) (.slice none 0 0)) :=
   ⟨u.os.trans (j.os.trans (m.os.trans (o.os.trans s.os))),u.tape.trans (j.tape.trans (m.tape.trans (o.tape.trans s.tape))),u.output.trans (j.output.trans (m.output.trans (o.output.trans s.output))),Eo s.size (Eo o.size (Eo m.size (Eo j.size u.size))),fun k am aq=>(u.block k (by omega) (by omega)).trans ((j.block k (by omega)).trans ((m.block k (by omega) aq).trans ((o.block k (by omega)).trans (s.block k am))))⟩
  go_wp2_with fail
  show bodyPost _ _ _ _ _ (bg q N (.bool true) (.int .i64 pg) (.slice e g h) (.slice va vn vc) (.slice oa on oc) (.slice none 0 0));obtain⟨ba,bb,bc,bd,p4,be⟩:=aS a8;refine bodyPost_ret (v:=.agg (Zs true pg e g h va vn vc oa on oc none 0 0)) (by simp[results,results38,go_sem,ba,bb,bc,bd,p4,be]) rfl ?_;have an:eS A B w (bg q N (.bool true) (.int .i64 pg) (.slice e g h) (.slice va vn vc) (.slice oa on oc) (.slice none 0 0)):=fun k bG bH=>aO.block k (by omega) (by omega);obtain⟨_,_,_,_,_,_,_,X,Y,Z,aB⟩:=aT.out;refine⟨⟨e,g,h,va,vn,vc,oa,on,oc,none,0,fun _=>[],?_,?_⟩,?_,aO⟩;·rw[x.out];rfl
  ·rw[x.out];exact⟨aA,X.keep an,Y.keep an,Z.keep an,⟨Ek _,En _⟩,fun bf=>by simp at bf,fun bI k am=>by simp at am⟩
  ·rw[x.out];have:(↑(nx+1:Nat):Int)=↑nx+1:=(by omega);simp only[this];exact a9
def az (css:Nat->List Value) (m:Nat):List Value:=(List.range m).flatMap css
theorem dv (css:Nat->List Value) (m:Nat):az css (m+1)=az css m++css m:=by
 simp[az,List.range_succ]
theorem cZ {cs2:Nat->List Value} {m:Nat} (h:∀ a,a<m->cs2 a=css a):az cs2 m=az css m:=by
 induction m with
 | zero=>rfl
 | succ m b=>rw[dv,dv,b (fun a c=>h a (by omega)),h m (by omega)]
theorem cu {m:Nat} (h:∀ a,a<m->(css a).length=6):(az css m).length=m*6∧∀ a b,a<m->b<6->(az css m)[a*6+b]?=(css a)[b]?:=by
 induction m with
 | zero=>exact⟨rfl,fun a b c=>by omega⟩
 |succ m e=>
  obtain⟨d,f⟩:=e (fun a c=>h a (by omega));rw[dv];refine⟨by rw[El,d,h m (by omega)];omega,fun a b c g=>?_⟩;by_cases i:a=m;·subst i;rw[EB (by omega),d,show a*6+b - a*6=b by omega]
  ·rw[EE (by omega)];exact f a b (by omega) g
structure qJ (w wr:World) (A B Wk N:Nat) (wcs xcs:Array Value) (pg:Int) (va:Option Addr) (vn vc:Nat) (oa:Option Addr) (on oc:Nat) (zs:List T) (ra:Option Addr) (rc:Nat) (css:Nat->List Value):Prop where
 sz:w.heap.size=N
 wk:wr.heap[Wk]?=some (.cells wcs 97)
 rb:wr.heap[N]?=some (.cells (Z0 false 0) 57)
 xb:wr.heap[N+1]?=some (.cells xcs 44)
 nb:wr.heap[N+2]?=some (.cells (Zs false pg (some ⟨N+3,0,none⟩) 0 0 va vn vc oa on oc ra zs.length rc) 57)
 row:wr.ownsRow (N+4) 57 6 (.slice ra zs.length rc) zs.length (az css zs.length)
 kid:∀ i z,zs[i]?=some z->(css i).length=6∧cN wr A B (fun b=>N+3<=b∧b<wr.heap.size∧∀ g,(Value.slice ra zs.length rc).ownBlock=some g->b≠g) z (css i)
 fr:Fr (fun g=>g=Wk) w wr
 wlt:Wk<N
 blk:B<=Wk
 lt:N+3<wr.heap.size
theorem qJ.call {d:World} {g:Array Value} (h:qJ w wr A B Wk N wcs xcs pg va vn vc oa on oc zs ra rc css) (a:Fr (fun e=>e=Wk) wr d) (l:d.heap[Wk]?=some (.cells g 97)):qJ w d A B Wk N g xcs pg va vn vc oa on oc zs ra rc css:=by
 have m:=h.lt;have o:=h.wlt;have p:=h.blk;refine⟨h.sz,l,(a.block N (by omega) (by omega)).trans h.rb,(a.block (N+1) (by omega) (by omega)).trans h.xb,(a.block (N+2) (by omega) (by omega)).trans h.nb,am h.row a (fun e n q=>?_),fun i f j=>⟨(h.kid i f j).1,?_⟩,h.fr.trans a,h.wlt,h.blk,Er m a.size⟩;·have:=(h.row.lt e n).1;omega
 ·refine cN.keep (fun k r s=>a.block k (by omega) (by omega)) (fun b c=>a.block b c.2.1 (by omega)) (fun b c=>⟨c.1,Er c.2.1 a.size,c.2.2⟩) (Ek _) (Ek _) f _ (h.kid i f j).2
theorem qJ.below {a:World} (h:qJ w wr A B Wk N wcs xcs pg va vn vc oa on oc zs ra rc css) (b:Below wr.heap.size wr a):qJ w a A B Wk N wcs xcs pg va vn vc oa on oc zs ra rc css :=
 h.call (Fr.of_below b) ((b.block Wk (by have:=h.lt;have:=h.wlt;omega)).trans h.wk)
theorem qJ.push {w3 w4:World} {r:List Value} {v':Value} (h:qJ w w3 A B Wk N wcs xcs pg va vn vc oa on oc zs ra rc css) (F:r.length=6) (G:cN w3 A B (fun b=>N+3<=b∧b<w3.heap.size∧∀ a,(Value.slice ra zs.length rc).ownBlock=some a->b≠a) t r)
  (x:w4.ownsRow (N+4) 57 6 v' (zs.length+1) (az css zs.length++r)) (l:w3.grownBy w4 (Value.slice ra zs.length rc).ownBlock) (H:v'.ownBlock=(Value.slice ra zs.length rc).ownBlock∨∀ a,v'.ownBlock=some a->w3.heap.size<=a) :
  ∃ c d,v'=.slice c (zs.length+1) d∧qJ w (w4.setCell ⟨N+2,5,none⟩ v') A B Wk N wcs xcs pg va vn vc oa on oc (zs++[t]) c d (fun g=>if g=zs.length then r else css g):=by
 obtain⟨c,d,rfl⟩:=ao x;refine⟨c,d,rfl,?_⟩;have P:=h.lt;have Q:=h.wlt;have R:=h.blk;have I:=fun a e=>(h.row.lt a e);have y:(zs++[t]).length=zs.length+1:=by simp
 have C:∀ k,k<w3.heap.size->(∀ a,(Value.slice ra zs.length rc).ownBlock=some a->k≠a)->w4.heap[k]?=w3.heap[k]?:=fun k m s=>l.block k m (fun j=>s k j.symm rfl);have n:∀ k,k<N+4->(∀ a,(Value.slice ra zs.length rc).ownBlock=some a->k≠a):=fun k m a e=>by have:=(I a e).1;omega
 have u:=af w4 (N+2) 5 (.slice c (zs.length+1) d);have S:=l.size;have o:∀ k,k<w3.heap.size->k≠N+2->(∀ a,(Value.slice ra zs.length rc).ownBlock=some a->k≠a)->(w4.setCell ⟨N+2,5,none⟩ (.slice c (zs.length+1) d)).heap[k]?=w3.heap[k]?:=fun k m s J=>(u.block k (by omega) s).trans (C k m J);have D:(w4.setCell ⟨N+2,5,none⟩ (.slice c (zs.length+1) d)).heap.size=w4.heap.size:=by simp[World.setCell]
 have K:∀ a,(Value.slice c (zs.length+1) d).ownBlock=some a->∀ b,b<w3.heap.size->(∀ a,(Value.slice ra zs.length rc).ownBlock=some a->b≠a)->b≠a:=by
  intro a e b T L;rcases H with j | j;·rw[j] at e;exact L a e
  ·have:=j a e;omega
 have M:eS A B w3 (w4.setCell ⟨N+2,5,none⟩ (.slice c (zs.length+1) d)):=fun k U V=>o k (by omega) (by omega) (n k (by omega));have E:∀ i v,cN w3 A B (fun b=>N+3<=b∧b<w3.heap.size∧∀ a,(Value.slice ra zs.length rc).ownBlock=some a->b≠a) i v->cN (w4.setCell ⟨N+2,5,none⟩ (.slice c (zs.length+1) d)) A B (fun b=>N+3<=b∧b<(w4.setCell ⟨N+2,5,none⟩ (.slice c (zs.length+1) d)).heap.size∧∀ a,(Value.slice c (zs++[t]).length d).ownBlock=some a->b≠a) i v:=fun i v f =>cN.keep M (fun b p=>o b p.2.1 (by omega) p.2.2) (fun b p=>⟨p.1,by rw[D];omega,fun a e=>K a (by rw[y] at e;exact e) b p.2.1 p.2.2⟩) (Ek _) (Ek _) i v f;refine⟨h.sz,(o Wk (by omega) (by omega) (n Wk (by omega))).trans h.wk,(o N (by omega) (by omega) (n N (by omega))).trans h.rb,(o (N+1) (by omega) (by omega) (n (N+1) (by omega))).trans h.xb,?_,?_,fun g i f=>?_,?_,h.wlt,h.blk,by rw[D];omega⟩;·have:=aj ((C (N+2) (by omega) (n (N+2) (by omega))).trans h.nb) 5 (.slice c (zs.length+1) d);rw[y];simpa using this
 ·rw[y,dv,if_pos rfl,cZ (css:=css) (fun g z=>if_neg (by omega))];exact zN x (fun a e j=>by have:=(x.lt a e).1;have W:N+2=a:=j;omega) _
 ·by_cases z:g=zs.length;·subst z;rw[EB (Ek _)] at f;simp at f;subst f;simp only[if_true];exact⟨F,E t r G⟩
  ·have O:g<zs.length:=(by have:=Zc f;simp at this;omega);rw[EE O] at f;simp only[z,EO];exact⟨(h.kid g i f).1,E i _ (h.kid g i f).2⟩
 ·have q:=h.fr;exact⟨u.os.trans (l.os.trans q.os),u.tape.trans (l.tape.trans q.tape),u.output.trans (l.output.trans q.output),Eo q.size (Eo l.size u.size),fun k m s=>(o k (by have:=q.size;omega) (by have:=h.sz;omega) (n k (by have:=h.sz;omega))).trans (q.block k m s)⟩
theorem qJ.node {f:List ByteArray} {g:List Int} (h:qJ w wr A B Wk N wcs xcs pg va vn vc oa on oc zs ra rc css) (n:ga pg) (o:aP wr A B va vn vc f) (p:bf wr A B oa on oc g) (z:zs.length<=maxLen) :
  bz wr A B (fun b=>N+3<=b∧b<wr.heap.size) ⟨false,pg,[],f,g,zs⟩ (some ⟨N+3,0,none⟩) 0 0 va vn vc oa on oc ra rc css:=by
 have q:=(cu (css:=css) (m:=zs.length) (fun a d=>(h.kid a zs[a] (Eh d)).1)).2;have C:=h.sz;refine⟨n,⟨rfl,Ek _,En _,fun a d=>by omega,fun h=>by omega⟩,o,p,?_,fun i=>?_,fun a k D d=>?_⟩
 ·rcases h.row.2 with ⟨c,r⟩ | ⟨e,s,t,c,_,_,u,v,_⟩;·simp only[Value.slice.injEq] at c;obtain⟨_,E,F⟩:=c;exact⟨by show zs.length<=rc;omega,by omega⟩
  ·simp only[Value.slice.injEq] at c;obtain⟨_,_,rfl⟩:=c;exact⟨u,v⟩
 ·have i:0<zs.length:=i;rcases h.row.2 with ⟨c,r⟩ | ⟨e,s,t,c,G,H,_⟩;·omega
  ·simp only[Value.slice.injEq] at c;obtain⟨rfl,_,rfl⟩:=c;have x:=h.row.lt e rfl;refine⟨e,0,rfl,⟨by omega,x.2⟩,fun a d j y=>?_⟩;have d:a<zs.length:=d;rw[EK,h.row.cellAt (a*6+j) (by omega)];exact q a j d y
 ·exact cN.keep (eS.refl _ _ _) (fun _ _=>rfl) (fun b l=>⟨l.1,l.2.1⟩) (Ek _) (Ek _) k _ (h.kid a k d).2
theorem bz.weaken {f:Option Addr} {g i:Nat} {j:Option Addr} {l:Nat} (h:bz w A B P t f g i va vn vc oa on oc j l css) (c:eS A B w w') (m:∀ b,P b->w'.heap[b]?=w.heap[b]?) (n:∀ b,P b->Q b):bz w' A B Q t f g i va vn vc oa on oc j l css :=
 ⟨h.page,h.keys.keep c,h.vals.keep c,h.over.keep c,h.cap,fun r=>by
  obtain⟨b,o,s,p,u⟩:=h.cell r
  exact⟨b,o,s,n b p,fun d e q v=>(Ep (w:=w) (a:=⟨b,o+d*6+q,none⟩) (m b p)).trans (u d e q v)⟩,fun d k x e=>cN.keep c m n (Ek _) (Ek _) k _ (h.kid d k x e)⟩
theorem qJ.fin {ts:List TN} {f nx:Nat} {nj:Nat} {i:Bool} {j:List ByteArray} {l:List Int} (h:qJ w wr A B Wk N #[.slice a n c,.int .i64 nj,.bool i] xcs pg va vn vc oa on oc zs ra rc css) (m:ga pg) (o:aP wr A B va vn vc j) (p:bf wr A B oa on oc l) (q:zs.length<=maxLen)
  (e:rd ts f nx=(⟨false,pg,[],j,l,zs⟩,nj,i)) :
  ph ts f nx a n c A B Wk w (.returned (.agg (Zs false pg (some ⟨N+3,0,none⟩) 0 0 va vn vc oa on oc ra zs.length rc))) (bg wr N (.bool false) (.int .i64 pg) (.slice (some ⟨N+3,0,none⟩) 0 0) (.slice va vn vc) (.slice oa on oc) (.slice ra zs.length rc)):=by
 have d:=bk wr N (.bool false) (.int .i64 pg) (.slice (some ⟨N+3,0,none⟩) 0 0) (.slice va vn vc) (.slice oa on oc) (.slice ra zs.length rc);have u:=h.lt;have v:=h.wlt;have x:=h.blk;have r:=h.node m o p q;have y:=h.sz;refine⟨⟨some ⟨N+3,0,none⟩,0,0,va,vn,vc,oa,on,oc,ra,rc,css,?_,?_⟩,?_,?_⟩;·rw[e]
 ·rw[e];exact r.weaken (fun k z C=>d.block k (by omega) (by omega)) (fun b g=>d.block b g.2 (by omega)) (fun b g=>⟨by omega,Er g.2 d.size⟩)
 ·rw[e];exact (d.block Wk (by omega) (by omega)).trans h.wk
 ·exact⟨d.os.trans h.fr.os,d.tape.trans h.fr.tape,d.output.trans h.fr.output,Eo h.fr.size d.size,fun k s t=>(d.block k (by omega) (by omega)).trans (h.fr.block k s t)⟩
def CN (w:World) (g0:Nat) (xs:List Value) (ts:List TN) (k:Nat):Prop :=
 ∀ j,j<k->ga (ts.getD j dT).page∧∃ ka kn kc va vn vc oa on oc ya yn yc,xs[j*6]?=some (.bool (ts.getD j dT).leaf)∧xs[j*6+1]?=some (.int .i64 (ts.getD j dT).page)∧xs[j*6+2]?=some (.slice ka kn kc)∧xs[j*6+3]?=some (.slice va vn vc)∧xs[j*6+4]?=some (.slice oa on oc)∧xs[j*6+5]?=some (.slice ya yn yc) ∧
  aP w (g0+1) w.heap.size ka kn kc (ts.getD j dT).keys∧aP w (g0+1) w.heap.size va vn vc (ts.getD j dT).vals∧bf w (g0+1) w.heap.size oa on oc (ts.getD j dT).over∧bf w (g0+1) w.heap.size ya yn yc (ts.getD j dT).kids ∧
  (og w (g0+1) ka kn∧og w (g0+1) va vn∧og w (g0+1) oa on∧og w (g0+1) ya yn)
def Ds (w:World) (g k:Nat) (u0 u1 u2 u3 u4 u5:Value):World:=(((((w.setCell ⟨g,k*6,none⟩ u0).setCell ⟨g,k*6+1,none⟩ u1).setCell ⟨g,k*6+2,none⟩ u2).setCell ⟨g,k*6+3,none⟩ u3).setCell ⟨g,k*6+4,none⟩ u4).setCell ⟨g,k*6+5,none⟩ u5
def Dt (w:World) (lo g n:Nat) (ts:List TN):Prop:=∃ xs,w.ownsRow lo 44 6 (.slice (some ⟨g,0,none⟩) n n) n xs∧ts.length=n∧∀ j,j<n->∃ ka kn kc va vn vc oa on oc ya yn yc,xs[j*6+2]?=some (.slice ka kn kc)∧xs[j*6+3]?=some (.slice va vn vc)∧xs[j*6+4]?=some (.slice oa on oc)∧xs[j*6+5]?=some (.slice ya yn yc) ∧
 (kn=(ts.getD j dT).keys.length∧vn=(ts.getD j dT).vals.length∧on=(ts.getD j dT).over.length∧yn=(ts.getD j dT).kids.length)∧(og w (g+1) ka kn∧og w (g+1) va vn∧og w (g+1) oa on∧og w (g+1) ya yn)
def Dh (ts:List TN):Prop:=∀ j,j<ts.length->(ts.getD j dT).keys.length<=1048576∧(ts.getD j dT).vals.length<=1048576∧(ts.getD j dT).over.length<=1048576∧(ts.getD j dT).kids.length<=1048576
def CQ:Nat->Nat->List UInt8->List UInt8
 | 0,_,out=>out
 | f+1,k,out=>if k=0 then out else CQ f (k / 10) (UInt8.ofNat (48+k % 10)::out)
def Di (k:Nat):ByteArray:=if k=0 then ⟨#[109,48]⟩ else ⟨(109::CQ 40 k []).toArray⟩
def CR (k:Nat) (n:Nat):List Int:=(List.range n).map fun j=>((k+j:Nat):Int) % 256
def C8 (w w':World) (base:Nat) (v:Value) (n k:Nat):Prop:=w'.ownsRow base 5 1 v n (wm (CR k n))∧w.grownBy w' v.ownBlock
end Go.Proofs.YtggmghkcdfjdoaaGreat
