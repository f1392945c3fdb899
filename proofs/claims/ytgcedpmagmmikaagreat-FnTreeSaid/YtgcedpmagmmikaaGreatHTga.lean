import Derived.Test.YtgcedpmagmmikaaGreatHTks
import Derived.Test.YtgcedpmagmmikaaGreatHMem
import Derived.Test.YtgcedpmagmmikaaGreatHTp
import Derived.Test.YtgcedpmagmmikaaGreatHAp2
import Derived.Deep.RegionHeld3
import Derived.Deep.DeepCutAuto
import Derived.Deep.QuietTactic
namespace Go.Proofs.YtgcedpmagmmikaaGreat
set_option maxHeartbeats 8000000
open Go.RowKit Tryz
set_option linter.unusedVariables false
set_option linter.unusedSimpArgs false
set_option maxRecDepth 100000
variable {G L N c n nx rc:Nat} {P:Nat->Prop} {a ra:Option Addr} {fb:Array Value} {k t:T} {met:Int->Bool} {p:Int} {u v0 v1:Value} {us:Nat->Value} {w w' wr:World} {zs:List (ByteArray × ByteArray × Int)}
def aB (s:ByteArray × ByteArray × Int):List Value:=[.string s.1,.string s.2.1,.int .i64 s.2.2]
theorem uo:∀ a,(aB a).length=3:=fun _=>rfl
def qF (w:World) (P:Nat->Prop) (a:Option Addr) (n c:Nat) (zs:List (ByteArray × ByteArray × Int)):Prop :=
 zs.length=n∧n<=c∧c<=maxLen∧(0<n->∃ b,a=some ⟨b,0,none⟩∧P b∧∀ r,r<n*3->w.cell? ⟨b,r,none⟩=(aa aB zs)[r]?)
def gf (w:World) (P:Nat->Prop):T->Value->Prop
 | ⟨l,p,k,v,o,y⟩,u=>if l then ∃ (L:Nat) (a:Option Addr) (n c:Nat),u=.iface 110 (.pointer (some ⟨L,0,none⟩))∧P L∧w.heap[L]?=some (.cells #[.int .i64 p,.slice a n c] 112)∧qF w P a n c (k.zip (v.zip o))∧n=k.length
  else ∃ (L:Nat) (a:Option Addr) (n c:Nat) (us:Nat->Value),u=.iface 75 (.pointer (some ⟨L,0,none⟩))∧P L∧w.heap[L]?=some (.cells #[.int .i64 p,.slice a n c] 81)∧(n=y.length∧n<=c∧c<=maxLen)∧(0<n->∃ b,a=some ⟨b,0,none⟩∧P b∧∀ i,i<n->w.cell? ⟨b,i,none⟩=some (us i))∧∀ i,∀ t ∈ y,y[i]?=some t->gf w P t (us i)
structure gI (w:World) (P:Nat->Prop) (t:T) (L:Nat) (a:Option Addr) (n c:Nat):Prop where
 at':P L
 box:w.heap[L]?=some (.cells #[.int .i64 t.page,.slice a n c] 112)
 row:qF w P a n c (t.keys.zip (t.vals.zip t.over))
 len:n=t.keys.length
structure eM (w:World) (P:Nat->Prop) (t:T) (L:Nat) (a:Option Addr) (n c:Nat) (us:Nat->Value):Prop where
 at':P L
 box:w.heap[L]?=some (.cells #[.int .i64 t.page,.slice a n c] 81)
 len:n=t.kids.length∧n<=c∧c<=maxLen
 row:0<n->∃ b,a=some ⟨b,0,none⟩∧P b∧∀ i,i<n->w.cell? ⟨b,i,none⟩=some (us i)
 kid:∀ i,∀ k ∈ t.kids,t.kids[i]?=some k->gf w P k (us i)
theorem gf.leaf (h:gf w P t u) (b:t.leaf=true):∃ L a n c,u=.iface 110 (.pointer (some ⟨L,0,none⟩))∧gI w P t L a n c:=by
 obtain⟨j,p,k,l,m,o⟩:=t;simp only at b;rw[gf.eq_def] at h;simp only[b,if_true] at h;obtain⟨L,a,n,c,d,e,f,g,i⟩:=h;exact⟨L,a,n,c,d,e,f,g,i⟩
theorem gf.inner (h:gf w P t u) (b:t.leaf=false):∃ L a n c us,u=.iface 75 (.pointer (some ⟨L,0,none⟩))∧eM w P t L a n c us:=by
 obtain⟨l,p,k,m,o,q⟩:=t;simp only at b;rw[gf.eq_def] at h;simp only[b,Ee,En] at h;obtain⟨L,a,n,c,us,d,e,f,g,i,j⟩:=h;exact⟨L,a,n,c,us,d,e,f,g,i,j⟩
theorem gI.is (h:gI w P t L a n c) (b:t.leaf=true):gf w P t (.iface 110 (.pointer (some ⟨L,0,none⟩))):=by
 obtain⟨d,p,k,e,f,g⟩:=t;simp only at b;rw[gf.eq_def];simp only[b,if_true];exact⟨L,a,n,c,rfl,h.at',h.box,h.row,h.len⟩
theorem eM.is (h:eM w P t L a n c us) (b:t.leaf=false):gf w P t (.iface 75 (.pointer (some ⟨L,0,none⟩))):=by
 obtain⟨d,p,k,e,f,g⟩:=t;simp only at b;rw[gf.eq_def];simp only[b,Ee,En];exact⟨L,a,n,c,us,rfl,h.at',h.box,h.len,h.row,h.kid⟩
theorem qF.keep {Q:Nat->Prop} (h:qF w P a n c zs) (f:∀ b,P b->w'.heap[b]?=w.heap[b]?) (g:∀ b,P b->Q b):qF w' Q a n c zs:=by
 obtain⟨i,j,k,l⟩:=h;refine⟨i,j,k,fun m=>?_⟩;obtain⟨b,o,d,p⟩:=l m;exact⟨b,o,g b d,fun e q=>(DZ (w:=w) (a:=⟨b,e,none⟩) (f b d)).trans (p e q)⟩
theorem gf.keep {Q:Nat->Prop} (e:∀ b,P b->w'.heap[b]?=w.heap[b]?) (f:∀ b,P b->Q b):∀ t u,gf w P t u->gf w' Q t u:=by
 intro t
 induction t using T.ind with
 |h t s=>
  intro u p;cases g:t.leaf;·obtain⟨L,a,n,c,us,rfl,d,j,l,m,v⟩:=p.inner g;refine eM.is (us:=us) ⟨f L d,(e L d).trans j,l,fun x=>?_,fun i k q o=>s k q _ (v i k q o)⟩ g;obtain⟨b,y,r,z⟩:=m x;exact⟨b,y,f b r,fun i o=>(DZ (w:=w) (a:=⟨b,i,none⟩) (e b r)).trans (z i o)⟩
  ·obtain⟨L,a,n,c,rfl,d,j,l,m⟩:=p.leaf g;exact gI.is ⟨f L d,(e L d).trans j,l.keep e f,m⟩ g
theorem au {t:TypeId} (h:w.heap[N]?=some (.cells #[v0,v1] t)):w.cell? ⟨N,0,none⟩=some v0∧w.cell? ⟨N,1,none⟩=some v1:=by
 simp[World.cell?,h]
def xF (w:World) (ty:TypeId) (v:Value) (name:String) (ans:Value):Prop :=
 (∀ w,(nilAhead 293 ty v name).run prog w=.ok (some false) w)∧∃ f r,(∀ w,(method 293 ty v name).run prog w=.ok (f,r) w)∧(∀ w,(callFunc f #[r]).run prog w=.ok (.enter f #[r]) w)∧Calls prog f #[r] w fun e w'=>e=.returned ans∧w'=w
structure CL (w:World) (t:T) (ty:TypeId) (v:Value):Prop where
 size:xF w ty v "loop.example/s02098/impl.size" (.int .i64 t.size)
 where':xF w ty v "loop.example/s02098/impl.where" (.int .i64 t.page)
 height:xF w ty v "loop.example/s02098/impl.height" (.int .i64 t.ht)
 least:0<t.size->xF w ty v "loop.example/s02098/impl.least" (.string t.low)
theorem oY (h:gI w P t L a n c):Calls prog 119 #[.pointer (some ⟨L,0,none⟩)] w fun b w'=>b=.returned (.int .i64 n)∧w'=w:=by
 obtain⟨d,e⟩:=au h.box;have f:=Za h.box;clear h;go_enter func119,ntmps119;go_wp2
 go_ret;exact⟨rfl,rfl⟩
theorem nZ (h:w.heap[L]?=some (.cells #[.int .i64 p,.slice a n c] 81)):Calls prog 98 #[.pointer (some ⟨L,0,none⟩)] w fun b w'=>b=.returned (.int .i64 n)∧w'=w:=by
 obtain⟨d,e⟩:=au h;have f:=Za h;clear h;go_enter func98,ntmps98;go_wp2
 go_ret;exact⟨rfl,rfl⟩
theorem xG (h:w.cell? ⟨L,0,none⟩=some (.int .i64 p)):Calls prog 102 #[.pointer (some ⟨L,0,none⟩)] w fun b w'=>b=.returned (.int .i64 p)∧w'=w:=by
 have c:L<w.heap.size:=by
  rcases Nat.lt_or_ge L w.heap.size with a | a;·exact a
  ·simp[World.cell?,Array.getElem?_eq_none a] at h
 go_enter func102,ntmps102;go_wp2
 go_ret;exact⟨rfl,rfl⟩
theorem sm (w:World) (L:Nat):Calls prog 116 #[.pointer (some ⟨L,0,none⟩)] w fun a w'=>a=.returned (.int .i64 0)∧w'=w:=by
 go_enter func116,ntmps116;go_wp2
 go_ret;exact⟨rfl,rfl⟩
theorem oe (h:gI w P t L a n c) (d:0<n):Calls prog 117 #[.pointer (some ⟨L,0,none⟩)] w fun i w'=>i=.returned (.string (t.keys.headD ByteArray.empty))∧w'=w:=by
 obtain⟨m,o⟩:=au h.box;have p:=Za h.box;obtain⟨e,rfl,q,f⟩:=h.row.2.2.2 d;have j:w.cell? ⟨e,0,none⟩=some (.string (t.keys.headD ByteArray.empty)):=by
  rw[f 0 (by omega)];have b:=h.row.1;have g:=h.len;cases k:t.keys with
  | nil=>rw[k] at g;simp at g;omega
  |cons r s=>
   cases l:t.vals.zip t.over with
   | nil=>rw[l] at b;simp at b;omega
   | cons u v=>simp[aa,aB]
 have x:e<w.heap.size:=by
  rcases Nat.lt_or_ge e w.heap.size with b | b;·exact b
  ·simp[World.cell?,Array.getElem?_eq_none b] at j
 have y:=d;clear h f d;generalize t.keys.headD ByteArray.empty=z at *;go_enter func117,ntmps117;go_wp2
 go_ret;exact⟨rfl,rfl⟩
theorem aO {b o:Nat} {v:Value} (h:w.cell? ⟨b,o,none⟩=some v):b<w.heap.size:=by
 rcases Nat.lt_or_ge b w.heap.size with a | a;·exact a
 ·simp[World.cell?,Array.getElem?_eq_none a] at h
theorem mu (h:eM w P t L a n c us) (b:0<n) {ty:TypeId} {v:Value} (d:us 0=.iface ty v) {s:ByteArray} (i:xF w ty v "loop.example/s02098/impl.least" (.string s)):Calls prog 96 #[.pointer (some ⟨L,0,none⟩)] w fun e w'=>e=.returned (.string s)∧w'=w:=by
 obtain⟨k,l⟩:=au h.box;have m:=Za h.box;obtain⟨o,rfl,p,f⟩:=h.row b;have g:=f 0 b;rw[d] at g;have q:=aO g;obtain⟨r,u,x,y,z,j⟩:=i;clear h f d;go_enter func96,ntmps96;go_wp2_with fail
 refine j.mono ?_;rintro e w' ⟨rfl,rfl⟩;go_wp2_with fail
 go_ret;exact⟨rfl,rfl⟩
theorem qG (h:eM w P t L a n c us) (b:0<n) {ty:TypeId} {v:Value} (d:us 0=.iface ty v) {s:Int} (k:0<=s∧s<1000000) (i:xF w ty v "loop.example/s02098/impl.height" (.int .i64 s)):Calls prog 95 #[.pointer (some ⟨L,0,none⟩)] w fun e w'=>e=.returned (.int .i64 (s+1))∧w'=w:=by
 obtain⟨l,m⟩:=au h.box;have o:=Za h.box;obtain⟨p,rfl,q,f⟩:=h.row b;have g:=f 0 b;rw[d] at g;have r:=aO g;obtain⟨u,x,y,z,A,j⟩:=i;clear h f d;go_enter func95,ntmps95;go_wp2_with fail
 refine j.mono ?_;rintro e w' ⟨rfl,rfl⟩;go_wp2_with fail
 go_ret;exact⟨rfl,rfl⟩
theorem dX {r:Bool} (h:t.good r=true) (a:k ∈ t.kids):k.good false=true:=by
 rw[T.good_eq] at h;simp only[DW] at h;exact D9.1 h.1.2 (k.good false) (Ew.2 ⟨k,a,rfl⟩)
theorem el (h:k ∈ t.kids):k.nodes<t.nodes:=by
 rw[T.nodes_eq t];have:∀ (b:List T),k ∈ b->k.nodes<=(b.map T.nodes).sum:=by
  intro b
  induction b with
  | nil=>intro h;cases h
  |cons a d c=>
   intro h;rcases Ek.1 h with rfl | h;·simp
   ·have:=c h;simp;omega
 have:=this _ h;omega
theorem Cd (t:T):t.ht<t.nodes:=by
 induction t using T.ind with
 |h t c=>
  rw[T.ht_eq];split;·rw[T.nodes_eq];omega
  ·cases a:t.kids with
   | nil=>rw[T.nodes_eq,a];simp[T.htOf]
   |cons k b=>
    have f:=c k (by rw[a];exact D4 ..);have g:=el (t:=t) (k:=k) (by rw[a];exact D4 ..);simp only[D8];have d:T.htOf (k.ht::b.map T.ht)=(if k.ht<0 then (-1:Int) else if (b.map T.ht).all (fun e=>e == k.ht) then k.ht+1 else -1):=rfl;rw[d];split;·omega
    ·split<;>omega
theorem oZ {r:List T} (e:t.leaf=false) (f:t.kids=k::r) (h:0<=t.ht):t.ht=k.ht+1∧∀ a ∈ t.kids,0<=a.ht∧a.ht=k.ht:=by
 rw[T.ht_eq,if_neg (by simp[e]),f,D8] at h ⊢;obtain⟨c,d⟩:=uu h;refine⟨oX c d,fun a b=>?_⟩;rcases Ek.1 b with rfl | b;·exact⟨c,rfl⟩
 ·have:=d a.ht (List.mem_map_of_mem b);omega
theorem gf.shape (h:gf w P t u):∃ d e,u=.iface d e:=by
 cases b:t.leaf;·obtain⟨L,a,n,c,us,rfl,_⟩:=h.inner b;exact⟨_,_,rfl⟩
 ·obtain⟨L,a,n,c,rfl,_⟩:=h.leaf b;exact⟨_,_,rfl⟩
theorem gf.obj:∀ (t:T) (l:TypeId) (m:Value),t.nodes<=100000->(∃ r,t.good r=true)->0<=t.ht->gf w P t (.iface l m)->CL w t l m:=by
 intro t
 induction t using T.ind with
 |h t z=>
  rintro l m F ⟨r,f⟩ A s;cases d:t.leaf
  ·obtain⟨L,a,n,c,us,g,b⟩:=s.inner d;cases g;have i:t.size=n:=(by rw[b.len.1];simp[T.size,d]);have u:0<n:=(by rw[T.good_eq] at f;simp only[DW,D1,d,Bool.and_false,i] at f;have:=f.1.1.1.1.1;simp at this;omega);obtain⟨k,v,j⟩:∃ k v,t.kids=k::v:=Ep (by intro g;have:=b.len.1;rw[g] at this;simp at this;omega);have e:k ∈ t.kids:=(by rw[j];exact D4 ..);have o:=b.kid 0 k e (by rw[j];rfl);obtain⟨B,C,p⟩:=o.shape;rw[p] at o;obtain⟨D,x⟩:=oZ d j A;have G:=el e;have y:=z k e B C (by omega) ⟨false,dX f e⟩ (x k e).1 o;have E:0<k.size:=(by have q:=dX f e;rw[T.good_eq] at q;simp only[DW,D1] at q;have:=q.1.1.1.1.1;simp at this;omega);refine⟨⟨fun w=>by kernel_rfl,98,.pointer (some ⟨L,0,none⟩),fun w=>by kernel_rfl,fun w=>by kernel_rfl,?_⟩,⟨fun w=>by kernel_rfl,102,.pointer (some ⟨L,0,none⟩),fun w=>by kernel_rfl,fun w=>by kernel_rfl,?_⟩,⟨fun w=>by kernel_rfl,95,.pointer (some ⟨L,0,none⟩),fun w=>by kernel_rfl,fun w=>by kernel_rfl,?_⟩,fun _=>⟨fun w=>by kernel_rfl,96,.pointer (some ⟨L,0,none⟩),fun w=>by kernel_rfl,fun w=>by kernel_rfl,?_⟩⟩;·rw[i];exact nZ b.box
   ·exact xG (au b.box).1
   ·rw[D];exact qG b u p ⟨(x k e).1,by have:=Cd k;omega⟩ y.height
   ·rw[T.low_inner d j];exact mu b u p (y.least E)
  ·obtain⟨L,a,n,c,g,b⟩:=s.leaf d;cases g;have i:t.size=n:=(by rw[b.len];simp[T.size,d]);refine⟨⟨fun w=>by kernel_rfl,119,.pointer (some ⟨L,0,none⟩),fun w=>by kernel_rfl,fun w=>by kernel_rfl,?_⟩,⟨fun w=>by kernel_rfl,102,.pointer (some ⟨L,0,none⟩),fun w=>by kernel_rfl,fun w=>by kernel_rfl,?_⟩,⟨fun w=>by kernel_rfl,116,.pointer (some ⟨L,0,none⟩),fun w=>by kernel_rfl,fun w=>by kernel_rfl,?_⟩,fun H=>⟨fun w=>by kernel_rfl,117,.pointer (some ⟨L,0,none⟩),fun w=>by kernel_rfl,fun w=>by kernel_rfl,?_⟩⟩;·rw[i];exact oY b
   ·exact xG (au b.box).1
   ·rw[T.ht_eq,if_pos d];exact sm w L
   ·rw[T.low_leaf d];exact oe b (by omega)
structure eN (w:World) (G:Nat) (a:Option Addr) (n c:Nat) (nx:Nat) (met:Int->Bool):Prop where
 box:∃ cs:Array Value,w.heap[G]?=some (.cells cs 105)∧cs.size=1002∧cs[0]?=some (.slice a n c)∧cs[1]?=some (.int .i64 nx)∧∀ k:Nat,k<1000->cs[2+k]?=some (.bool (met k))
theorem eN.lt (h:eN w G a n c nx met):G<w.heap.size:=by
 obtain⟨b,h,_⟩:=h.box;exact (Za h)
theorem eN.keep (h:eN w G a n c nx met) (b:w'.heap[G]?=w.heap[G]?):eN w' G a n c nx met:=by
 obtain⟨d,h,e⟩:=h.box;exact⟨d,b.trans h,e⟩
theorem eN.c0 (h:eN w G a n c nx met):w.cell? ⟨G,0,none⟩=some (.slice a n c):=by
 obtain⟨d,h,e,b,f,g⟩:=h.box;simp[World.cell?,h,b]
theorem eN.c1 (h:eN w G a n c nx met):w.cell? ⟨G,1,none⟩=some (.int .i64 nx):=by
 obtain⟨d,h,e,f,b,g⟩:=h.box;simp[World.cell?,h,b]
theorem eN.ck (h:eN w G a n c nx met) {k:Nat} (b:k<1000):w.cell? ⟨G,2+k,none⟩=some (.bool (met k)):=by
 obtain⟨e,h,f,g,i,d⟩:=h.box;simp[World.cell?,h,d k b]
theorem eN.thaw (h:eN w G a n c nx met):∀ b,w.frozen? ⟨G,b,none⟩=false:=by
 obtain⟨d,h,_⟩:=h.box;exact ar h
theorem eN.step (h:eN w G a n c nx met) (m:Nat):eN (w.setCell ⟨G,1,none⟩ (.int .i64 m)) G a n c m met:=by
 obtain⟨b,h,d,e,i,f⟩:=h.box;refine⟨b.setIfInBounds 1 (.int .i64 m),aj h 1 _,by simpa using d,?_,?_,fun k g=>?_⟩;·rw[EG (by omega)];exact e
 ·rw[Array.getElem?_setIfInBounds_self_of_lt (by omega)]
 ·rw[EG (by omega)];exact f k g
theorem eN.mark (h:eN w G a n c nx met) {x:Nat} (m:x<1000):eN (w.setCell ⟨G,2+x,none⟩ (.bool true)) G a n c nx (fun b=>met b || b == (x:Int)):=by
 obtain⟨d,h,e,f,g,i⟩:=h.box;refine⟨d.setIfInBounds (2+x) (.bool true),aj h (2+x) _,by simpa using e,?_,?_,fun k j=>?_⟩;·rw[EG (by omega)];exact f
 ·rw[EG (by omega)];exact g
 ·by_cases l:x=k;·subst l;rw[Array.getElem?_setIfInBounds_self_of_lt (by omega)];simp
  ·rw[EG (by omega),i k j];have:((k:Int) == (x:Int))=false:=(by simp;omega);simp[this]
theorem jc (w:World):Calls prog 64 #[] w fun a w'=>a=.returned (.agg #[.int .i64 2,.int .i64 999])∧Below w.heap.size w w':=by
 go_enter func64,ntmps64;go_wp2
 exact bodyPost_ret (v:=.agg #[.int .i64 2,.int .i64 999]) (by simp[results,results64,go_sem]) rfl ⟨rfl,Zb _ _⟩
theorem uw (x:Int) (w:World):Calls prog 65 #[.agg #[.int .i64 2,.int .i64 999],.int .i64 x] w fun c w'=>c=.returned (.bool (ir x))∧Below w.heap.size w w':=by
 have b:=Zb w (.cells #[.int .i64 2,.int .i64 999] 131);by_cases d:2<=x
 ·by_cases e:x<=999
  ·have a:Hid (ir x=true):=(by show _=_;simp[ir];omega);go_enter func65,ntmps65;go_wp2
   go_ret;exact⟨by rw[a.out];rfl,b⟩
  ·have a:Hid (ir x=false):=(by show _=_;simp[ir];omega);go_enter func65,ntmps65;go_wp2
   go_ret;exact⟨by rw[a.out];rfl,b⟩
 ·have a:Hid (ir x=false):=(by show _=_;simp[ir];omega);go_enter func65,ntmps65;go_wp2
  go_ret;exact⟨by rw[a.out];rfl,b⟩
def xH (w:World) (G:Nat) (a:Option Addr) (n c nx:Nat) (met:Int->Bool) (x:Int) (e:Ending) (w':World):Prop :=
 ∃ r,e=.returned (.bool r)∧(r=true->∃ m,eT met x=some m∧eN w' G a n c nx m)∧(r=false->eT met x=none)∧Fr (fun k=>k=G) w w'
theorem ux (w:World) (G:Nat) (a:Option Addr) (n c nx:Nat) (met:Int->Bool) (x:Int) (h:eN w G a n c nx met):Calls prog 58 #[.pointer (some ⟨G,0,none⟩),.int .i64 x] w fun g w'=>xH w G a n c nx met x g w':=by
 by_cases i:x=0
 ·subst i;have A:Hid (xH w G a n c nx met 0 (.returned (.bool true)) w):=⟨true,rfl,fun _=>⟨met,by simp[eT],h⟩,(fun h=>by cases h),Fr.refl _ _⟩;clear h;go_enter func58,ntmps58;go_wp2
  go_ret;exact A.out
 ·have E:(x == 0)=false:=(by simpa using i);cases d:ir x
  ·have o:Hid (eT met x=none):=(by show _=_;simp[eT,i,d]);have j:=uw x;rw[d] at j;have q:Hid _:=j;clear j d h i;go_enter func58,ntmps58;go_wp2_with fail
   refine (jc w).mono ?_;rintro g p ⟨rfl,b⟩;go_wp2_with fail
   refine (q.out p).mono ?_;rintro g s ⟨rfl,l⟩;have m:=b.trans (l.mono b.size);go_wp2_with fail
   go_ret;exact⟨false,rfl,(fun h=>by cases h),fun _=>o.out,Fr.of_below m⟩
  ·have F:2<=x∧x<=999:=(by simpa[ir] using d);have j:=uw x;rw[d] at j;have q:Hid _:=j;clear j;obtain⟨f,rfl⟩:∃ f:Nat,x=(f:Int):=⟨x.toNat,by omega⟩;have t:f<1000:=(by omega);have v:=hidI h;have y:=h.lt;cases r:met f;·have o:Hid (eT met f=some (fun z=>met z || z == (f:Int))):=(by show _=_;simp only[eT,if_neg i,d,r];rfl);clear d h i;go_enter func58,ntmps58;(go_wp2_with fail);refine (jc w).mono ?_;rintro g p ⟨rfl,b⟩;(go_wp2_with fail);refine (q.out p).mono ?_;rintro g s ⟨rfl,l⟩;have m:=b.trans (l.mono b.size);have e:=v.out.keep (m.block G y);have u:=e.ck t;rw[r] at u;have H:=e.thaw;have B:=e.lt;have C:=e.mark t;have D:=(Fr.of_below (S:=fun k=>k=G) m).trans (af s G (2+f) (.bool true));clear e b l;(go_wp2_with fail);go_ret;exact⟨true,rfl,fun _=>⟨_,o.out,C⟩,(fun h=>by cases h),D⟩
   ·have o:Hid (eT met f=none):=(by show _=_;simp[eT,d,r];omega);clear d h i;go_enter func58,ntmps58;(go_wp2_with fail);refine (jc w).mono ?_;rintro g p ⟨rfl,b⟩;(go_wp2_with fail);refine (q.out p).mono ?_;rintro g s ⟨rfl,l⟩;have m:=b.trans (l.mono b.size);have e:=v.out.keep (m.block G y);have u:=e.ck t;rw[r] at u;have B:=e.lt;clear e b l;(go_wp2_with fail);go_ret;exact⟨false,rfl,(fun h=>by cases h),fun _=>o.out,Fr.of_below m⟩
theorem ss (k v:ByteArray) (o p:Int) (e:v.size<=maxLen) (w:World):Calls prog 66 #[.agg #[.string k,.string v,.int .i64 o],.int .i64 p] w fun f w'=>f=.returned (.bool (lI p v o))∧Below w.heap.size w w':=by
 have g:=Zb w (.cells #[.string k,.string v,.int .i64 o] 73);unfold maxLen at e;by_cases a:v.size<=8
 focus have b:Hid (lI p v o=(o == 0)):=by show _=_;simp[lI,a]
 rotate_left
 focus by_cases d:v.size<=400
 focus by_cases c:p=0
 focus
   subst c;have b:Hid (lI 0 v o=true):=by show _=_;simp[lI,a,d]
 rotate_left
 focus
   have h:(p == 0)=false:=(by simpa using c);have b:Hid (lI p v o=(o != 0)):=(by show _=_;simp[lI,a,d,c]);clear c
 rotate_left
 focus have b:Hid (lI p v o=false):=by show _=_;simp[lI,a,d]
 rotate_left
 all_goals
   go_enter func66,ntmps66;go_wp2
   go_ret;exact⟨by rw[b.out];rfl,g⟩
def GM (w:World) (P:Nat->Prop):T->Value->Prop
 | ⟨l,p,k,v,o,y⟩,u=>if l then ∃ (L:Nat) (a:Option Addr) (n c:Nat),u=.iface 110 (.pointer (some ⟨L,0,none⟩))∧P L∧w.heap[L]?=some (.cells #[.int .i64 p,.slice a n c] 112)∧w.ownsRow 0 73 3 (.slice a n c) n (aa aB (k.zip (v.zip o)))∧(∀ g,(Value.slice a n c).ownBlock=some g->P g∧g≠L)∧n=k.length
  else ∃ (L:Nat) (a:Option Addr) (n c:Nat) (ul:List Value) (Q:Nat->Nat->Prop),u=.iface 75 (.pointer (some ⟨L,0,none⟩))∧P L∧w.heap[L]?=some (.cells #[.int .i64 p,.slice a n c] 81)∧w.ownsRow 0 66 1 (.slice a n c) n ul∧(∀ g,(Value.slice a n c).ownBlock=some g->P g∧g≠L)∧n=y.length∧(∀ i j b,Q i b->Q j b->i=j)∧(∀ i b,Q i b->P b∧b≠L∧(Value.slice a n c).ownBlock≠some b)∧∀ i,∀ t ∈ y,y[i]?=some t->GM w (Q i) t (ul.getD i .nilIface)
structure su (w:World) (P:Nat->Prop) (t:T) (L:Nat) (a:Option Addr) (n c:Nat):Prop where
 at':P L
 box:w.heap[L]?=some (.cells #[.int .i64 t.page,.slice a n c] 112)
 row:w.ownsRow 0 73 3 (.slice a n c) n (aa aB (t.keys.zip (t.vals.zip t.over)))
 blk:∀ g,(Value.slice a n c).ownBlock=some g->P g∧g≠L
 len:n=t.keys.length
structure gC (w:World) (P:Nat->Prop) (t:T) (L:Nat) (a:Option Addr) (n c:Nat) (ul:List Value) (Q:Nat->Nat->Prop):Prop where
 at':P L
 box:w.heap[L]?=some (.cells #[.int .i64 t.page,.slice a n c] 81)
 row:w.ownsRow 0 66 1 (.slice a n c) n ul
 blk:∀ g,(Value.slice a n c).ownBlock=some g->P g∧g≠L
 len:n=t.kids.length
 dis:∀ i j b,Q i b->Q j b->i=j
 sub:∀ i b,Q i b->P b∧b≠L∧(Value.slice a n c).ownBlock≠some b
 kid:∀ i,∀ k ∈ t.kids,t.kids[i]?=some k->GM w (Q i) k (ul.getD i .nilIface)
theorem GM.leaf (h:GM w P t u) (b:t.leaf=true):∃ L a n c,u=.iface 110 (.pointer (some ⟨L,0,none⟩))∧su w P t L a n c:=by
 obtain⟨l,p,k,m,o,q⟩:=t;simp only at b;rw[GM.eq_def] at h;simp only[b,if_true] at h;obtain⟨L,a,n,c,d,e,f,g,i,j⟩:=h;exact⟨L,a,n,c,d,e,f,g,i,j⟩
theorem GM.inner (h:GM w P t u) (e:t.leaf=false):∃ L a n c b d,u=.iface 75 (.pointer (some ⟨L,0,none⟩))∧gC w P t L a n c b d:=by
 obtain⟨s,p,k,v,x,y⟩:=t;simp only at e;rw[GM.eq_def] at h;simp only[e,Ee,En] at h;obtain⟨L,a,n,c,b,d,f,g,i,j,l,m,o,q,r⟩:=h;exact⟨L,a,n,c,b,d,f,g,i,j,l,m,o,q,r⟩
theorem su.is (h:su w P t L a n c) (b:t.leaf=true):GM w P t (.iface 110 (.pointer (some ⟨L,0,none⟩))):=by
 obtain⟨d,p,k,e,f,g⟩:=t;simp only at b;rw[GM.eq_def];simp only[b,if_true];exact⟨L,a,n,c,rfl,h.at',h.box,h.row,h.blk,h.len⟩
theorem gC.is {ul:List Value} {Q:Nat->Nat->Prop} (h:gC w P t L a n c ul Q) (b:t.leaf=false):GM w P t (.iface 75 (.pointer (some ⟨L,0,none⟩))):=by
 obtain⟨d,p,k,e,f,g⟩:=t;simp only at b;rw[GM.eq_def];simp only[b,Ee,En];exact⟨L,a,n,c,ul,Q,rfl,h.at',h.box,h.row,h.blk,h.len,h.dis,h.sub,h.kid⟩
theorem aM {base e size:Nat} {v:Value} {b:List Value} (h:w.ownsRow base e size v n b) (d:∀ a,v.ownBlock=some a->w'.heap[a]?=w.heap[a]?):w'.ownsRow base e size v n b:=by
 refine⟨h.1,?_⟩;rcases h.2 with h | ⟨a,f,g,c,i,j,k⟩;·exact .inl h
 ·exact .inr ⟨a,f,g,c,i,(d a (by rw[c];rfl)).trans j,k⟩
theorem GM.keep:∀ (t:T) (P i:Nat->Prop) (u:Value),(∀ d,P d->w'.heap[d]?=w.heap[d]?)->(∀ d,P d->i d)->GM w P t u->GM w' i t u:=by
 intro t
 induction t using T.ind with
 |h t r=>
  intro P v u l m p;cases o:t.leaf;·obtain⟨L,a,n,c,x,i,rfl,b⟩:=p.inner o;exact gC.is (Q:=i) ⟨m L b.at',(l L b.at').trans b.box,aM b.row (fun e f=>l e (b.blk e f).1),fun e f=>⟨m e (b.blk e f).1,(b.blk e f).2⟩,b.len,b.dis,fun g d j=>⟨m d (b.sub g d j).1,(b.sub g d j).2⟩,fun g k q s=>r k q (i g) (i g) _ (fun d j=>l d (b.sub g d j).1) (fun _ j=>j) (b.kid g k q s)⟩ o
  ·obtain⟨L,a,n,c,rfl,b⟩:=p.leaf o;exact su.is ⟨m L b.at',(l L b.at').trans b.box,aM b.row (fun e f=>l e (b.blk e f).1),fun e f=>⟨m e (b.blk e f).1,(b.blk e f).2⟩,b.len⟩ o
theorem su.see (h:su w P t L a n c):gI w P t L a n c:=by
 have d:=h.row;have e:(t.keys.zip (t.vals.zip t.over)).length=n:=by have:=d.1;rw[ay uo] at this;omega
 refine⟨h.at',h.box,?_,h.len⟩;rcases d.2 with ⟨b,l⟩ | ⟨f,m,o,b,p,q,g,i,_⟩;·simp only[Value.slice.injEq] at b;obtain⟨_,r,s⟩:=b;exact⟨e,by omega,by omega,fun h=>by omega⟩
 ·simp only[Value.slice.injEq] at b;obtain⟨rfl,_,rfl⟩:=b;exact⟨e,g,i,fun u=>⟨f,rfl,(h.blk f rfl).1,fun j k=>d.cellAt j k⟩⟩
theorem GM.see:∀ (t:T) (P:Nat->Prop) (u:Value),GM w P t u->gf w P t u:=by
 intro t
 induction t using T.ind with
 |h t r=>
  intro P u j;cases f:t.leaf
  ·obtain⟨L,a,n,c,l,s,rfl,b⟩:=j.inner f;have g:=b.row;refine eM.is (us:=fun d=>l.getD d .nilIface) ⟨b.at',b.box,?_,?_,fun d k m o=>gf.keep (fun _ _=>rfl) (fun v x=>(b.sub d v x).1) k _ (r k m (s d) _ (b.kid d k m o))⟩ f
   ·rcases g.2 with ⟨e,y⟩ | ⟨i,z,A,e,B,C,p,q,_⟩;·simp only[Value.slice.injEq] at e;exact⟨b.len,by omega,by omega⟩
    ·simp only[Value.slice.injEq] at e;obtain⟨_,_,rfl⟩:=e;exact⟨b.len,p,q⟩
   ·intro D;rcases g.2 with ⟨e,y⟩ | ⟨i,z,A,e,B,C,p,q,_⟩;·omega
    ·simp only[Value.slice.injEq] at e;obtain⟨rfl,_,rfl⟩:=e;refine⟨i,rfl,(b.blk i rfl).1,fun d o=>?_⟩;rw[g.cellAt d (by omega)];have E:=g.1;simp[List.getD,show d<l.length by omega]
  ·obtain⟨L,a,n,c,rfl,b⟩:=j.leaf f;exact b.see.is f
theorem GM.drew (h:GM w P t u):GM w.drew P t u:=GM.keep (w:=w) (w':=w.drew) t P P u (fun _ _=>rfl) (fun _ h=>h) h
theorem GM.shape (h:GM w P t u):∃ a b,u=.iface a b:=(GM.see t P u h).shape
def iz (w:World) (G:Nat) (a:Option Addr) (n c:Nat) (res:Option (T × Nat × (Int->Bool))) (e:Ending) (w':World):Prop :=
 (res=none->e=.returned (.tuple #[.nilIface,.bool false]))∧(∀ t nx' met',res=some (t,nx',met')->∃ u,e=.returned (.tuple #[u,.bool true])∧GM w' (fun b=>w.heap.size<=b∧b<w'.heap.size) t u∧eN w' G a n c nx' met')∧Fr (fun k=>k=G) w w'
theorem iN:(prog.info? 73).map (fun a=>(a.zero,a.size,a.bytes))=some (some (.agg #[.string ByteArray.empty,.string ByteArray.empty,.int .i64 0]),3,40):=by kernel_rfl
theorem oJ (w:World) (a b c:Value) (t:TypeId):∀ e u,[a,b,c][e]?=some u->(w.alloc (.cells #[a,b,c] t)).cell? ((⟨w.heap.size,0,none⟩:Addr).add e)=some u:=by
 intro e u d
 match e,d with
 | 0,d=>simpa[Addr.add] using d
 | 1,d=>simpa[Addr.add] using d
 | 2,d=>simpa[Addr.add] using d
theorem li {P:Program} {ops:Array Oper} {o:Oper} {a:Act} {K:Act->World->Prop} {Q:Exit->Act->World->Prop} {E:Prop}
  (p:o.guard=none) (s x:Operand) (t:TypeId) (q:o.op=.call { callee:=.builtin .append,args:=#[s,x],argTypes:=#[t,t] })
  (base:Nat) (e:TypeId) (i:TypeInfo) (z:Value) (size f:Nat) (ht:P.underlying t=some (.slice e)) (r:P.info? e=some i) (y:i.zero=some z)
  (A:i.size=size) (B:i.bytes=f) (C:z.cells.size=size) (D:0<size)
  (v:Value) (n:Nat) (k:List Value) (F:a.eval s=v) (G:w.ownsRow base e size v n k)
  (l:Addr) (m c:Nat) (d:List Value) (H:a.eval x=.slice (some l) m c) (I:d.length=m*size) (J:∀ j u,d[j]?=some u->w.cell? (l.add j)=some u) (L:∀ u ∈ d,u.oneCell'=true)
  (M:n+m<=maxLen) (N:(n+m)*f<=140737488355328) (O:base<=w.heap.size)
  (h:∀ b w',w'.ownsRow base e size b (n+m) (k++d)->w.grownBy w' v.ownBlock->(b.ownBlock=v.ownBlock∨∀ g,b.ownBlock=some g->w.heap.size<=g)->K (a.put o.dst b) w') :
  if Region.wanted o (yielded ops a.tmps)=true then Oper.wp P o a w K Q else E:=by
 rw[if_pos (by simp[Region.wanted,p])];obtain⟨b,w',R,S,T,U⟩:=dU (P:=P) w base t o.type e i z size f ht r y A B C D v n k G l m c d I J L M N O;unfold Oper.wp execOp;simp only[q,resolve,invoke,builtin,Sem.run_bind,Sem.run_pure,Result.andThen_ok,List.map_toArray,D8,Ez,F,H,R];exact h b w' S T U
structure wo (w wr:World) (N G:Nat) (fb:Array Value) (p:Int) (a:Option Addr) (n c nx:Nat) (met:Int->Bool) (ra:Option Addr) (rc:Nat) (zs:List (ByteArray × ByteArray × Int)):Prop where
 sz:w.heap.size=N
 fb:wr.heap[N]?=some (.cells fb 100)
 lb:wr.heap[N+1]?=some (.cells #[.int .i64 p,.slice ra zs.length rc] 112)
 gr:eN wr G a n c nx met
 row:wr.ownsRow (N+2) 73 3 (.slice ra zs.length rc) zs.length (aa aB zs)
 fr:Fr (fun k=>k=G) w wr
 glt:G<N
theorem wo.lt (h:wo w wr N G fb p a n c nx met ra rc zs):N+1<wr.heap.size:=Za h.lb
theorem wo.go {d:World} {e:Int->Bool} (h:wo w wr N G fb p a n c nx met ra rc zs) (b:Fr (fun k=>k=G) wr d) (f:eN d G a n c nx e):wo w d N G fb p a n c nx e ra rc zs:=by
 have j:=h.lt;have l:=h.glt;exact⟨h.sz,(b.block N (by omega) (by omega)).trans h.fb,(b.block (N+1) (by omega) (by omega)).trans h.lb,f,am h.row b (fun g i m=>by have:=(h.row.lt g i).1;omega),h.fr.trans b,h.glt⟩
theorem wo.below {b:World} (h:wo w wr N G fb p a n c nx met ra rc zs) (d:Below wr.heap.size wr b):wo w b N G fb p a n c nx met ra rc zs :=
 h.go (Fr.of_below d) (h.gr.keep (d.block G h.gr.lt))
theorem sw {a:Type} (cs:a->List Value) (b:List a) (y:a):aa cs (b++[y])=aa cs b++cs y:=by simp[aa]
theorem wo.push {w4:World} (h:wo w wr N G fb p a n c nx met ra rc zs) {z:ByteArray × ByteArray × Int} {v':Value} (j:w4.ownsRow (N+2) 73 3 v' (zs.length+1) (aa aB zs++aB z)) (f:wr.grownBy w4 (Value.slice ra zs.length rc).ownBlock) :
  ∃ d e,v'=.slice d (zs.length+1) e∧wo w (w4.setCell ⟨N+1,1,none⟩ v') N G fb p a n c nx met d e (zs++[z])∧w4.heap[N+1]?=some (.cells #[.int .i64 p,.slice ra zs.length rc] 112):=by
 obtain⟨d,e,rfl⟩:=ao j;have l:(zs++[z]).length=zs.length+1:=by simp
 have t:=h.lt;have u:=h.glt;have v:=h.sz;have b:=af w4 (N+1) 1 (.slice d (zs.length+1) e);have g:∀ k,k<N+2->w4.heap[k]?=wr.heap[k]?:=fun k x=>f.block k (by omega) (fun m=>by have:=(h.row.lt k m.symm).1;omega);have y:=f.size;refine⟨d,e,rfl,⟨h.sz,(b.block N (by omega) (by omega)).trans ((g N (by omega)).trans h.fb),?_,h.gr.keep ((b.block G (by omega) (by omega)).trans (g G (by omega))),?_,?_,h.glt⟩,(g (N+1) (by omega)).trans h.lb⟩;·have:=aj ((g (N+1) (by omega)).trans h.lb) 1 (.slice d (zs.length+1) e);rw[l];simpa using this
 ·rw[l,sw];exact am j b (fun o q m=>by have:=(j.lt o q).1;omega)
 ·have i:=h.fr;have A:=i.size;exact⟨b.os.trans (f.os.trans i.os),b.tape.trans (f.tape.trans i.tape),b.output.trans (f.output.trans i.output),by have:=b.size;omega,fun k r s=>(b.block k (by omega) (by omega)).trans ((g k (by omega)).trans (i.block k r s))⟩
def iA (x:TN) (nx:Nat) (met:Int->Bool):Option (T × Nat × (Int->Bool)) :=
 if 4<x.keys.length∨x.vals.length≠x.keys.length∨x.over.length≠x.keys.length∨0<x.kids.length then none
 else match gH x.page (x.vals.zip x.over) met with
  | none=>none
  | some m'=>some (⟨true,x.page,x.keys,x.vals,x.over,[]⟩,nx,m')
theorem gU {a:Value} {t:TypeId} (h:w.heap[N]?=some (.cells #[v0,v1,a] t)):w.cell? ⟨N,0,none⟩=some v0∧w.cell? ⟨N,1,none⟩=some v1∧w.cell? ⟨N,2,none⟩=some a:=by
 simp[World.cell?,h]
theorem aq {a b c d:Value} {t:TypeId} (h:w.heap[N]?=some (.cells #[v0,v1,a,b,c,d] t)):w.cell? ⟨N,0,none⟩=some v0∧w.cell? ⟨N,1,none⟩=some v1∧w.cell? ⟨N,2,none⟩=some a∧w.cell? ⟨N,3,none⟩=some b∧w.cell? ⟨N,4,none⟩=some c∧w.cell? ⟨N,5,none⟩=some d:=by
 simp[World.cell?,h]
theorem sF (x:TN) (R:Option Addr) (j D:Nat) (S:Option Addr) (l r:Nat) (T:Option Addr) (on s:Nat) (L:Option Addr) (E M:Nat) (U:Bool) (w:World) (G:Nat) (a:Option Addr) (n c nx:Nat) (met:Int->Bool) (A B:Nat) (cI:B<=G) (aV:eN w G a n c nx met)
  (g:aP w A B R j D x.keys) (av:aP w A B S l r x.vals) (aw:bf w A B T on s x.over) (aL:bf w A B L E M x.kids) :
  Calls prog 59 #[.pointer (some ⟨G,0,none⟩),.agg (Zs U x.page R j D S l r T on s L E M)] w fun O w'=>iz w G a n c (iA x nx met) O w':=by
 obtain⟨N,aW⟩:=Zn w.heap.size;have ac:Hid (x.keys.length=j∧x.vals.length=l∧x.over.length=on∧x.kids.length=E):=⟨g.1,av.1,aw.1,aL.1⟩;have bW:=DX g.2.1 g.2.2.1;have bX:=DX av.2.1 av.2.2.1;have bY:=DX aw.2.1 aw.2.2.1;have bZ:=DX aL.2.1 aL.2.2.1;unfold maxLen at bW bX bY bZ;have b0:=aV.lt;have P:Hid (iA x nx met=none∨¬ (4<j∨l≠j∨on≠j∨0<E)):=by
  by_cases d:4<j∨l≠j∨on≠j∨0<E;·left;unfold iA;rw[ac.out.1,ac.out.2.1,ac.out.2.2.1,ac.out.2.2.2,if_pos d]
  ·exact .inr d
 have ah:=DS w (.cells (Zs U x.page R j D S l r T on s L E M) 100);have ai:=Zb w (.cells (Zs U x.page R j D S l r T on s L E M) 100);have aX:(w.alloc (.cells (Zs U x.page R j D S l r T on s L E M) 100)).heap.size=N+1:=by simp[aW]
 rw[aW] at ah;have bt:=hidI aV;have bu:=hidI g;have bv:=hidI av;have bw:=hidI aw;obtain⟨p,aY⟩:=Zn x.page;have b1:=hidI aY;rw[aY] at ah ai aX ⊢;clear aV g av aw aL aY;obtain⟨ax,aZ⟩:=Zn (iA x nx met);have bx:=hidI aZ;rw[aZ] at P ⊢;clear aZ;go_enter func59,ntmps59;go_upto_region 1 with fail
 generalize w.alloc (.cells (Zs U p R j D S l r T on s L E M) 100)=aj at ah ai aX ⊢;obtain⟨F,H,ay,az,aA,aC⟩:=aq ah;have bz:N<aj.heap.size:=by omega
 have V:Hid (ax=none->iz w G a n c ax (.returned (.tuple #[.nilIface,.bool false])) aj):=fun d=>⟨fun _=>rfl,(fun t a0 a1 O=>by rw[d] at O;cases O),Fr.of_below ai⟩;by_cases b2:4<j
 ·have I:=V.out (P.out.resolve_right (fun d=>d (.inl b2)));have ad:=hidI I;clear I P V;go_wp2_with fail
  refine bodyPost_ret (v:=.tuple #[.nilIface,.bool false]) (by simp[results,results59,go_sem]) rfl ?_;exact ad.out
 by_cases a2:l≠j
 ·have I:=V.out (P.out.resolve_right (fun d=>d (.inr (.inl a2))));have ad:=hidI I;have b3:((l:Int) != (j:Int))=true:=(by simp;omega);clear I P V a2;go_wp2_with fail
  refine bodyPost_ret (v:=.tuple #[.nilIface,.bool false]) (by simp[results,results59,go_sem]) rfl ?_;exact ad.out
 have b4:l=j:=by omega
 clear a2;subst b4;have b3:((l:Int) != (l:Int))=false:=by simp
 by_cases a3:on≠l
 ·have I:=V.out (P.out.resolve_right (fun d=>d (.inr (.inr (.inl a3)))));have ad:=hidI I;have cJ:((on:Int) != (l:Int))=true:=(by simp;omega);clear I P V a3;go_wp2_with fail
  refine bodyPost_ret (v:=.tuple #[.nilIface,.bool false]) (by simp[results,results59,go_sem]) rfl ?_;exact ad.out
 have b5:on=l:=by omega
 clear a3;subst b5;by_cases b6:0<E
 ·have I:=V.out (P.out.resolve_right (fun d=>d (.inr (.inr (.inr b6)))));have ad:=hidI I;clear I P V;go_wp2_with fail
  refine bodyPost_ret (v:=.tuple #[.nilIface,.bool false]) (by simp[results,results59,go_sem]) rfl ?_;exact ad.out
 clear P V;have a4:Hid (ax=match gH p (x.vals.zip x.over) met with
  | none=>none
  | some b7=>some (⟨true,p,x.keys,x.vals,x.over,[]⟩,nx,b7)):=by
  show _=_;rw[<-bx.out];unfold iA;have d:=ac.out;rw[if_neg (by omega),b1.out]
 have b8:E=0:=by omega
 subst b8;have aM:=Zb aj (.cells #[.int .i64 p,.slice none 0 0] 112);have a5:=DS aj (.cells #[.int .i64 p,.slice none 0 0] 112);rw[aX] at a5
 have aD:wo w (aj.alloc (.cells #[.int .i64 p,.slice none 0 0] 112)) N G (Zs U p R on D S on r T on s L 0 M) p a n c nx met none 0 [] :=
  ⟨aW,(aM.block N (by omega)).trans ah,a5,bt.out.keep ((aM.block G (by omega)).trans (ai.block G b0)),EH _ _ _ _,(Fr.of_below ai).trans (Fr.of_below aM),by omega⟩
 have b9:Hid (∀ wr,Fr (fun k=>k=G) w wr->aP wr A B R on D x.keys∧aP wr A B S on r x.vals∧bf wr A B T on s x.over):=fun wr ak=>by have a6:eS A B w wr:=fun k u y=>ak.block k (by omega) (by omega);exact⟨bu.out.keep a6,bv.out.keep a6,bw.out.keep a6⟩
 have al:Hid (x.keys.length=on∧x.vals.length=on∧x.over.length=on):=by have d:=ac.out;exact⟨d.1,d.2.1,d.2.2.1⟩
 obtain⟨b',ca,cb,cc,a7⟩:=info_parts iN;go_upto_region 5 with fail
 generalize aj.alloc (.cells #[.int .i64 p,.slice none 0 0] 112)=cd at aD ⊢;clear ah a5 aM ai F H ay az aA aC bx bt bu bv bw ac;obtain⟨F,H,ay,az,aA,aC⟩:=aq aD.fb;have ce:N<cd.heap.size:=by have:=aD.lt;omega
 go_wp2_with fail
 clear F H ay az aA aC ce;go_loopw [44] (fun a8 wr=>∃ (b:Nat) (ra:Option Addr) (rc:Nat) (zs:List (ByteArray × ByteArray × Int)) (W:Int->Bool),b<=on∧a8=.int .i64 b∧Hid (zs=(x.keys.zip (x.vals.zip x.over)).take b∧gH p (x.vals.zip x.over) met=gH p ((x.vals.zip x.over).drop b) W)∧wo w wr N G (Zs U p R on D S on r T on s L 0 M) p a n c nx W ra rc zs) (fun a8 _=>on - (intOf a8).toNat)
 case atStart=>exact⟨0,none,0,[],met,D0 _,rfl,⟨by simp,by simp⟩,aD⟩
 case round =>
  clear aD;obtain⟨b,ra,rc,zs,W,cK,rfl,Y,o⟩:=hrel;have a9:=o.lt;have ae:Hid (zs.length=b):=(by show _=_;rw[Y.out.1,D3,List.length_zip,List.length_zip];have:=al.out;omega);by_cases a':b<on
  ·obtain⟨bA,bB,bC⟩:=b9.out wr o.fr;obtain⟨ba,bD,rfl,cL,cf,bE⟩:=aP.at bA a';obtain⟨aE,aN,rfl,cM,bF,bG⟩:=aP.at bB a';obtain⟨aF,aO,rfl,cN,cg,bH⟩:=bf.at bC a';have aG:(x.keys.zip (x.vals.zip x.over)).take (b+1)=(x.keys.zip (x.vals.zip x.over)).take b++[(x.keys.getD b .empty,x.vals.getD b .empty,x.over.getD b 0)]:=(by have:=al.out;rw[Eo (by simp;omega)];simp[List.getD,show b<x.keys.length by omega,show b<x.vals.length by omega,show b<x.over.length by omega]);have aH:(x.vals.zip x.over).drop b=(x.vals.getD b .empty,x.over.getD b 0)::(x.vals.zip x.over).drop (b+1):=(by have:=al.out;rw[List.drop_eq_getElem_cons (by simp;omega)];simp[List.getD,show b<x.vals.length by omega,show b<x.over.length by omega]);generalize x.keys.getD b .empty=h at bE cf aG;generalize x.vals.getD b .empty=f at bG bF aG aH;generalize x.over.getD b 0=e at bH cg aG aH;have bb:Hid ((eT W e=none∨∃ C,eT W e=some C∧lI p f e=false)->ax=none):=by
    intro d;rw[a4.out,Y.out.2,aH];unfold gH;rcases d with d | ⟨C,u,y⟩;·simp[d]
    ·simp[u,y]
   have bI:Hid (∀ C,eT W e=some C->lI p f e=true->zs++[(h,f,e)]=(x.keys.zip (x.vals.zip x.over)).take (b+1)∧gH p (x.vals.zip x.over) met=gH p ((x.vals.zip x.over).drop (b+1)) C):=by
    intro C u y;refine⟨by rw[aG,Y.out.1],?_⟩;rw[Y.out.2,aH]
    conv=>lhs;unfold gH
    simp[u,y]
   clear aG aH bA bB bC Y;obtain⟨F,H,ay,az,aA,aC⟩:=aq o.fb;have ch:=o.fr.size;have bz:N<wr.heap.size:=(by omega);have ci:ba<wr.heap.size:=(by omega);have cj:aE<wr.heap.size:=(by omega);have ck:aF<wr.heap.size:=(by omega);go_upto_region 8 with fail
   go_cut [10] (fun aI bJ=>aI=.pointer (some ⟨wr.heap.size,0,none⟩)∧bJ.heap[wr.heap.size]?=some (.cells #[.string h,.string f,.int .i64 e] 73)∧Below wr.heap.size wr bJ)
   case first =>
    go_region_held3 (fun w'=>w'.cell? ⟨N,3,none⟩=some (.slice (some ⟨aE,aN,none⟩) on r)∧w'.cell? ⟨N,4,none⟩=some (.slice (some ⟨aF,aO,none⟩) on s)∧w'.cell? ⟨aE,aN+b,none⟩=some (.string f)∧w'.cell? ⟨aF,aO+b,none⟩=some (.int .i64 e)) (go_keep) (fail)
    have cl:=Zb wr (.cells #[.string h,.string f,.int .i64 e] 73);have a7:=DS wr (.cells #[.string h,.string f,.int .i64 e] 73);(go_wp2_with fail);go_meet
    exact⟨rfl,a7,cl.drew⟩
   case rest =>
    obtain⟨rfl,aJ,bK⟩:=hcut;obtain⟨m,bL⟩:=Zn wr.heap.size;have Z:=o.below bK;have cm:Hid ((Value.slice ra b rc).ownBlock≠some m):=fun O=>(by have u:=o.row;rw[ae.out] at u;have:=(u.lt m O).2;omega);have cO:N+2<=m:=(by omega);rw[bL] at aJ ⊢;clear F H ay az aA aC bE bG bH o bK bz ch ci cj ck a9 bL;generalize wc=am at Z aJ ⊢;have bM:=hidI Z.fr;have bN:Hid (eN am.drew G a n c nx W):=Z.gr.keep rfl;have cP:=Z.lt;have cQ:=Z.glt;have cn:=Za aJ;have bO:Hid (∀ X,Fr (fun k=>k=G) am X->∀ bc,eN X G a n c nx bc->wo w X N G (Zs U p (some ⟨ba,bD,none⟩) on D (some ⟨aE,aN,none⟩) on r (some ⟨aF,aO,none⟩) on s L 0 M) p a n c nx bc ra rc zs):=fun X ak bc bd=>Z.go ak bd;have be:=Z.lb;rw[ae.out] at be;have aK:Hid (∀ w',Fr (fun k=>k=G) am w'->(fun w':World=>w'.heap[m]?=some (.cells #[.string h,.string f,.int .i64 e] 73)∧w'.heap[N+1]?=some (.cells #[.int .i64 p,.slice ra b rc] 112)) w'):=fun w' ak=>⟨(ak.block m cn (by omega)).trans aJ,(ak.block (N+1) (by omega) (by omega)).trans be⟩;clear Z aJ be;(go_upto_region 9 with fail);refine Zg (fun w':World=>w'.heap[m]?=some (.cells #[.string h,.string f,.int .i64 e] 73)∧w'.heap[N+1]?=some (.cells #[.int .i64 p,.slice ra b rc] 112)) (aK.out am (Fr.refl _ _)) (fun Q=>?_);refine Zx .a0 ?_;refine Zx .a1 ?_;refine Zy .a2 (fun bg J=>by (try dsimp only at J);obtain⟨bh,q1,q2⟩:=gU J.1;go_simp;rfl) ?_;(try simp only[Zq]);refine Zr [3] ?_;refine rdA .a3 (fun q g=>?_) DR;go_simp;refine (ux am.drew G a n c nx W e bN.out).mono ?_;rintro O bP ⟨co,rfl,bi,bj,bQ⟩;have aQ:=(Fr.of_below ((D2 _ am).drew)).trans bQ;clear bQ;(go_wp2_with fail);refine g.out _ _ (aK.out bP aQ) (fun Q=>?_);clear g q;(try simp only[Zq]);cases co;·have bk:=bb.out (.inl (bj rfl));clear bi bj;refine Zx .a4 ?_;refine Zx .a5 ?_;refine Zu .a6 ?_;refine Zu .a7 ?_;(try simp only[Zq]);refine Zu .a8 ?_;refine Zu .a9 ?_;refine Zu (.t .a0) ?_;refine Zu (.t .a1) ?_;(try simp only[Zq]);refine Zu (.t .a2) ?_;refine Zu (.t .a3) ?_;refine Zx (.t .a4) ?_;(try simp only[Zq]);refine Zd ?_;(go_wp2_with fail);refine bodyPost_ret (v:=.tuple #[.nilIface,.bool false]) (by simp[results,results59,go_sem]) rfl ?_;exact⟨fun _=>rfl,(fun bR a0 a1 d=>by rw[bk] at d;cases d),(bM.out.trans aQ)⟩
    ·obtain⟨C,bl,bm⟩:=bi rfl;clear bi bj;refine Zx .a4 ?_;refine Zx .a5 ?_;refine Zy .a6 (fun bg J=>by (try dsimp only at J);obtain⟨bh,q1,q2⟩:=gU J.1;go_simp;rfl) ?_;refine Zx .a7 ?_;(try simp only[Zq]);refine Zx .a8 ?_;refine Zx .a9 ?_;refine Zx (.t .a0) ?_;refine Zy (.t .a1) (fun bg J=>by (try dsimp only at J);obtain⟨bh,q1⟩:=au J.2;go_simp;rfl) ?_;(try simp only[Zq]);refine Zr [12] ?_;refine rdA (.t .a2) (fun q g=>?_) DR;go_simp;refine (ss h f e p bF bP).mono ?_;rintro O X ⟨rfl,bn⟩;have ao:=aQ.trans (Fr.of_below bn);have cp:=bm.keep (bn.block G bm.lt);clear bn bm;(go_wp2_with fail);refine g.out _ _ (aK.out X ao) (fun Q=>?_);clear g q;(try simp only[Zq]);obtain⟨cq,aR⟩:=Zn (lI p f e);rw[aR];cases cq;·have bk:=bb.out (.inr ⟨C,bl,aR⟩);refine Zx (.t .a3) ?_;refine Zx (.t .a4) ?_;(try simp only[Zq]);refine Zd ?_;(go_wp2_with fail);refine bodyPost_ret (v:=.tuple #[.nilIface,.bool false]) (by simp[results,results59,go_sem]) rfl ?_;exact⟨fun _=>rfl,(fun bR a0 a1 d=>by rw[bk] at d;cases d),(bM.out.trans ao)⟩
     ·have cs:Hid _:=bI.out C bl aR;clear bl aR bI bb;refine Zx (.t .a3) ?_;refine Zx (.t .a4) ?_;(try simp only[Zq]);refine Zd ?_;(go_upto_region 11 with fail);have cR:=hidI ao;obtain⟨ap,bo⟩:=aK.out X ao;have bp:=bO.out X ao C cp;clear aK bN bO ao Q aQ;generalize X=K at *;have a9:=Za bo;have ct:=oJ K (.string h) (.string f) (.int .i64 e) 73;have bq:=bp.row;rw[ae.out] at bq;have ab:Below K.heap.size K (K.alloc (.cells #[.string h,.string f,.int .i64 e] 73)):=Zb _ _;have cu:=an bq ab.drew;have cv:Hid (∀ ag i,i.ownsRow (N+2) 73 3 ag (b+1) (aa aB zs++[.string h,.string f,.int .i64 e])->(K.alloc (.cells #[.string h,.string f,.int .i64 e] 73)).drew.grownBy i (Value.slice ra b rc).ownBlock->∃ aS aT,ag=.slice aS (b+1) aT∧wo w (i.setCell ⟨N+1,1,none⟩ ag) N G (Zs U p (some ⟨ba,bD,none⟩) on D (some ⟨aE,aN,none⟩) on r (some ⟨aF,aO,none⟩) on s L 0 M) p a n c nx C aS aT (zs++[(h,f,e)])∧i.heap[N+1]?=some (.cells #[.int .i64 p,.slice ra b rc] 112)):=(by intro ag i u y;have:=(bp.below ab.drew).push (z:=(h,f,e)) (v':=ag) (w4:=i) (by rw[ae.out];exact u) (by rw[ae.out];exact y);rw[ae.out] at this;exact this);have cw:N+2<=(K.alloc (.cells #[.string h,.string f,.int .i64 e] 73)).drew.heap.size:=(by have:=ab.size;have cS:(K.alloc (.cells #[.string h,.string f,.int .i64 e] 73)).drew.heap.size=(K.alloc (.cells #[.string h,.string f,.int .i64 e] 73)).heap.size:=rfl;omega);have br:=Za ap;clear bq bp;have cx:Hid (∀ i,(K.alloc (.cells #[.string h,.string f,.int .i64 e] 73)).drew.grownBy i (Value.slice ra b rc).ownBlock->i.heap[m]?=some (.cells #[.string h,.string f,.int .i64 e] 73)):=fun i y=>(y.block m (by have:=ab.size;show m<(K.alloc (.cells #[.string h,.string f,.int .i64 e] 73)).heap.size;omega) (fun O=>cm.out O.symm)).trans ((ab.block m br).trans ap);have cy:Hid (∀ (i:World) aI,i.heap[m]?=some (.cells #[.string h,.string f,.int .i64 e] 73)->(i.setCell ⟨N+1,1,none⟩ aI).heap[m]?=some (.cells #[.string h,.string f,.int .i64 e] 73)):=fun i aI d=>((af i (N+1) 1 aI).block m (Za d) (by omega)).trans d;refine Zg (fun w':World=>w'.heap[m]?=some (.cells #[.string h,.string f,.int .i64 e] 73)) (ap) (fun Q=>?_);refine Zx .a0 ?_;refine Zx .a1 ?_;refine Zx .a2 ?_;refine Zx .a3 ?_;(try simp only[Zq]);refine Zy .a5 (fun bg J=>by (try dsimp only at J);obtain⟨bh,q1,q2⟩:=gU J;go_simp;rfl) ?_;(try simp only[Zq]);refine Zr [4,6] ?_;refine rdA .a4 (fun q g=>?_) ?_;rotate_left 1;refine rdA .a6 (fun q g=>?_) ?_;rotate_left 1;exact DR
      focus
        obtain⟨F,H⟩:=au (bo);go_simp;clear F H;refine g.out _ _ (ap) (fun Q=>?_);clear g q;(try simp only[Zq]);refine Zr [6] ?_;refine rdA .a6 (fun q g=>?_) DR;go_simp
      rotate_left
      focus
        go_simp;refine g.out _ _ ((ab.block m br).trans ap) (fun Q=>?_);clear g q;(try simp only[Zq]);refine Zr [4] ?_;refine rdA .a4 (fun q g=>?_) DR;obtain⟨F,H⟩:=au ((ab.block (N+1) a9).trans bo);go_simp;clear F H
      rotate_left
      all_goals
        refine g.out _ _ ((ab.block m br).trans ap) (fun Q=>?_);clear g q;(try simp only[Zq]);refine Zr [7] ?_;refine rdA .a7 (fun q g=>?_) DR;refine li rfl _ _ 86 rfl (N+2) 73 b' _ 3 40 underlying86 ca cb cc a7 rfl (by decide) (.slice ra b rc) b (aa aB zs) (by simp[Act.eval]) cu ⟨K.heap.size,0,none⟩ 1 1 [.string h,.string f,.int .i64 e] (by simp[Act.eval]) rfl ct (by simp[Value.oneCell']) (by unfold maxLen;omega) (by omega) cw ?_;intro ag i u y cz;obtain⟨aS,aT,rfl,cA,aU⟩:=cv.out ag i u y;have bs:=cx.out i y;clear u y cz;refine g.out _ _ (bs) (fun Q=>?_);clear g q;refine Zx .a8 ?_;refine Zx .a9 ?_;(try simp only[Zq]);refine Zr [10] ?_;refine rdA (.t .a0) (fun q g=>?_) DR;obtain⟨F,H⟩:=au aU;have cB:=ar aU;have cT:=Za aU;go_simp;clear F H cB;refine g.out _ _ (cy.out i _ bs) (fun Q=>?_);clear g q;(try simp only[Zq]);refine Zd ?_;clear Q bs aU;(go_wp2_with fail);go_roundw
        case rel=>exact⟨b+1,aS,aT,zs++[(h,f,e)],C,by omega,by go_num,cs,cA⟩
        case measure=>simp[intOf];omega
  ·have cC:b=on:=(by omega);subst cC;have bS:Hid (zs=x.keys.zip (x.vals.zip x.over)):=(by show _=_;rw[Y.out.1,D6 (by simp;have:=al.out;omega)]);have bT:Hid (ax=some (⟨true,p,x.keys,x.vals,x.over,[]⟩,nx,W)):=(by show _=_;rw[a4.out,Y.out.2,List.drop_of_length_le (by simp;have:=al.out;omega)];rfl);have cD:=o.fr;have cE:=o.gr;have cU:=o.sz;have bU:GM wr (fun bV=>w.heap.size<=bV∧bV<wr.heap.size) ⟨true,p,x.keys,x.vals,x.over,[]⟩ (.iface 110 (.pointer (some ⟨N+1,0,none⟩))):=by
    refine su.is (a:=ra) (n:=zs.length) (c:=rc) ⟨⟨by omega,by omega⟩,o.lb,?_,fun cF bd=>?_,by have:=ae.out;have:=al.out;show zs.length=x.keys.length;omega⟩ rfl;·rw[<-bS.out];exact cr o.row (D0 _)
    ·have cG:=o.row.lt cF bd;exact⟨⟨by omega,cG.2⟩,by omega⟩
   have cH:Hid _:=bU;clear o bU bS Y a4;go_wp2_with fail
   refine bodyPost_ret (v:=.tuple #[.iface 110 (.pointer (some ⟨N+1,0,none⟩)),.bool true]) (by simp[results,results59,go_sem]) rfl ?_;refine⟨fun d=>(by rw[bT.out] at d;cases d),fun bR a0 a1 d=>?_,cD⟩;rw[bT.out] at d;simp only[Option.some.injEq,Prod.mk.injEq] at d;obtain⟨rfl,rfl,rfl⟩:=d;exact⟨_,rfl,cH.out,cE⟩
theorem fc (s:ByteArray) (F:s.size<=16) (n:Nat) (Q:n<=1000) (w:World) :
  Calls prog 21 #[.string s,.int .i64 n] w fun i w'=>∃ t:ByteArray,i=.returned (.string t)∧t.size=s.size*n∧Below w.heap.size w w':=by
 go_enter func21,ntmps21;go_wp2_with fail
 have r:Below w.heap.size w (w.alloc (.cells #[] 5)):=Zb _ _;have u:(w.alloc (.cells #[] 5)).ownsRow w.heap.size 5 1 (.slice (some ⟨w.heap.size,0,none⟩) 0 0) 0 (wm []):=by have:=World.ownsRow_made w #[] (base:=w.heap.size) (e:=5) (size:=1) 0 (by simp) (by unfold maxLen;omega) (by simp);simpa[wm] using this
 go_loopw [5,6] (fun G j wr=>∃ (k:Nat) (a:Option Addr) (c:Nat) (b:List Int),k<=n∧j=.int .i64 k∧b.length=s.size*k∧(∀ d ∈ b,0<=d∧d<=255)∧G=.slice a (s.size*k) c∧wr.ownsRow w.heap.size 5 1 (.slice a (s.size*k) c) (s.size*k) (wm b)∧Below w.heap.size w wr) (fun _ j _=>n - (intOf j).toNat)
 case atStart=>exact⟨0,some ⟨w.heap.size,0,none⟩,0,[],D0 _,rfl,by simp,(by intro d l;cases l),rfl,u,r⟩
 case round =>
  clear u r;obtain⟨k,a,c,b,R,rfl,x,y,rfl,f,m⟩:=hrel;have H:s.size*k<=16*1000:=Nat.mul_le_mul F (by omega);have g:=hidI x;clear x;generalize z:s.size*k=h at H g f ⊢;have A:=hidI z;clear z;by_cases S:k<n
  ·have T:=m.size;go_wp2_with (at_builtin;refine zu rfl _ _ rfl w.heap.size _ h b rfl f s rfl (by omega) (by omega) ?_;intro U V B C)
   obtain⟨I,J,rfl⟩:=ao B;have K:=m.grown C (by omega) (fun L M=>(f.lt L M).1);have o:s.size*(k+1)=h+s.size:=(by rw[Nat.mul_succ,A.out]);have D:=hidI o;have N:Hid ((b++qS s).length=s.size*(k+1)):=(by show _=_;rw[DV,AL,g.out,o]);have O:Hid (∀ d ∈ b++qS s,0<=d∧d<=255):=(by intro d l;rcases Ei.1 l with p | p;exact y d p;exact zt s d p);clear C f o;go_roundw
   case rel=>exact⟨k+1,I,J,b++qS s,by omega,by go_num,N.out,O.out,by rw[D.out],by rw[D.out];exact B,K⟩
   case measure=>simp[intOf];omega
  ·have P:k=n:=(by omega);subst P;have E:=g.out;have q:cd wr w.heap.size wr.heap.size a h c b:=(by have:=oU (v:=.slice a h c) (bs:=b) (by rw[E];exact f) y;obtain⟨W,X,Y,i,q⟩:=this;cases i;exact q);have Z:=gA q;clear f g;go_wp2
   go_ret;exact⟨_,rfl,by rw[eE,E,A.out],m⟩
theorem dk.frg {C A B:Nat} {S:Nat->Prop} (h:dk w C A B) (d:Fr S w w') (e:∀ g,S g->C<g):dk w' C A B:=by
 obtain⟨i,a,n,c,j,l,m,f,o,p⟩:=h;have q:=Za f;exact⟨i,a,n,c,j,l,m,(d.block C q (fun b=>by have:=e _ b;omega)).trans f,o,p.keep (fun k r s=>d.block k (by omega) (fun b=>by have:=e _ b;omega))⟩
theorem Fr.up2 {S T:Nat->Prop} {a b c:World} (h:Fr S a b) (k:Fr T b c) (f:∀ d,T d->a.heap.size<=d):Fr S a c :=
 ⟨k.1.trans h.1,k.2.trans h.2,k.3.trans h.3,DX h.size k.size,fun d e g=>(k.block d (DY e h.size) (fun i=>by have:=f d i;omega)).trans (h.block d e g)⟩
theorem fe (w:World) (y:Int) (h:0<=y∧y<=255):cd (w.alloc (.cells #[.int .u8 y] 5)) w.heap.size (w.heap.size+1) (some ⟨w.heap.size,0,none⟩) 1 1 [y]:=by
 refine⟨rfl,DU _,by unfold maxLen;omega,fun e a=>by simp at a;omega,fun _=>⟨w.heap.size,0,rfl,⟨DU _,by omega⟩,fun b f=>?_⟩,fun c=>by cases c⟩;obtain rfl:b=0:=by omega
 have d:=DS w (.cells #[.int .u8 y] 5);unfold World.cell?;rw[d];rfl
theorem rV (C A B:Nat) (w:World) (h:dk w C A B) :
  Calls prog 19 #[.pointer (some ⟨C,0,none⟩)] w fun e w'=>∃ t:ByteArray,e=.returned (.string t)∧t.size<=400∧dk w' C A B∧Fr (fun K=>K=C) w w':=by
 go_enter func19,ntmps19;go_wp2_with fail
 refine (bo C A B w h 8 (by omega) (by omega)).mono ?_;rintro e L ⟨k,rfl,S,z,D⟩;go_wp2_with fail
 refine (bo C A B L z 26 (by omega) (by omega)).mono ?_;rintro e M ⟨a,rfl,T,E,F⟩;go_wp2_with fail
 refine (bo C A B M E 8 (by omega) (by omega)).mono ?_;rintro e j ⟨G,rfl,U,m,H⟩;have n:=(D.trans F).trans H;clear D F H z E h;by_cases N:k=0
 ·subst N;go_wp2_with fail
  refine (bo C A B j m 3 (by omega) (by omega)).mono ?_;rintro e c ⟨o,rfl,O,p,l⟩;have r:=n.trans l;clear l m n;have g:=DS c (.cells #[.int .u8 (97+(a:Int))] 5);have b:Below c.heap.size c (c.alloc (.cells #[.int .u8 (97+(a:Int))] 5)):=Zb _ _;have q:=gA (fe c (97+(a:Int)) (by omega));have i:=dk.below p b;have d:=Fr.trans r (Fr.of_below b);clear g b;go_wp2_with fail
  rw[show (8:Int)+(o:Int)=((8+o:Nat):Int) by omega];refine (fc (AN [97+(a:Int)]) (by rw[eE];simp) (8+o) (by omega) _).mono ?_;rintro e I ⟨t,rfl,ht,f⟩;have s:t.size<=400:=(by rw[ht,eE];show 1*_<=400;omega);have u:=i.below f;have v:=d.trans (Fr.of_below f);clear ht q i d f;go_wp2_with fail
  go_ret;exact⟨t,rfl,s,u,v⟩
 ·have V:((k:Int) == 0)=false:=(by simp;omega);by_cases P:k=1
  ·subst P;go_wp2_with fail
   refine (bo C A B j m 3 (by omega) (by omega)).mono ?_;rintro e c ⟨o,rfl,O,p,l⟩;go_wp2_with fail
   refine (bo C A B c p 3 (by omega) (by omega)).mono ?_;rintro e x ⟨y,rfl,W,i,d⟩;have r:=(n.trans l).trans d;clear l m n d p;have X:96*(1+(o:Int))+(y:Int) - 1=((96*(1+o)+y - 1:Nat):Int):=(by omega);have g:=DS x (.cells #[.int .u8 (97+(a:Int))] 5);have b:Below x.heap.size x (x.alloc (.cells #[.int .u8 (97+(a:Int))] 5)):=Zb _ _;have q:=gA (fe x (97+(a:Int)) (by omega));have J:=dk.below i b;have d:=Fr.trans r (Fr.of_below b);clear g b;go_wp2_with fail
   refine (fc (AN [97+(a:Int)]) (by rw[eE];simp) (96*(1+o)+y - 1) (by omega) _).mono ?_;rintro e I ⟨t,rfl,ht,f⟩;have s:t.size<=400:=(by rw[ht,eE];show 1*_<=400;omega);have u:=J.below f;have v:=d.trans (Fr.of_below f);clear ht q J d f;go_wp2_with fail
   go_ret;exact⟨t,rfl,s,u,v⟩
  ·have Y:((k:Int) == 1)=false:=(by simp;omega);by_cases Q:k=2
   focus
     subst Q;(go_wp2_with fail);refine (p9 C A B j m 6 (by omega) (by omega)).mono ?_;rintro e c ⟨R,rfl,p,l⟩;have r:=n.trans l;clear l m n;cases R
   focus
     have g:=DS c (.cells #[.int .u8 (97+(a:Int))] 5);have b:Below c.heap.size c (c.alloc (.cells #[.int .u8 (97+(a:Int))] 5)):=Zb _ _;have q:=gA (fe c (97+(a:Int)) (by omega));have i:=dk.below p b;have d:=Fr.trans r (Fr.of_below b);clear g b;(go_wp2_with fail);refine (fc (AN [97+(a:Int)]) (by rw[eE];simp) G (by omega) _).mono ?_
   rotate_left
   focus
     have g:=DS c (.cells #[.int .u8 (97+(a:Int))] 5);have b:Below c.heap.size c (c.alloc (.cells #[.int .u8 (97+(a:Int))] 5)):=Zb _ _;have q:=gA (fe c (97+(a:Int)) (by omega));have i:=dk.below p b;have d:=Fr.trans r (Fr.of_below b);clear g b;(go_wp2_with fail);refine (fc (AN [97+(a:Int)]) (by rw[eE];simp) 400 (by omega) _).mono ?_
   rotate_left
   focus
     have Z:((k:Int) == 2)=false:=(by simp;omega);have g:=DS j (.cells #[.int .u8 (97+(a:Int))] 5);have b:Below j.heap.size j (j.alloc (.cells #[.int .u8 (97+(a:Int))] 5)):=Zb _ _;have q:=gA (fe j (97+(a:Int)) (by omega));have i:=dk.below m b;have d:=Fr.trans n (Fr.of_below b);clear g b;(go_wp2_with fail);refine (fc (AN [97+(a:Int)]) (by rw[eE];simp) G (by omega) _).mono ?_
   rotate_left
   all_goals
     rintro e I ⟨t,rfl,ht,f⟩;have s:t.size<=400:=(by rw[ht,eE];show 1*_<=400;omega);have u:=i.below f;have v:=d.trans (Fr.of_below f);clear ht q i d f;(go_wp2_with fail);go_ret;exact⟨t,rfl,s,u,v⟩
theorem rW (a b:ByteArray):(a++b).size=a.size+b.size:=by simp
theorem iK (C A B:Nat) (w:World) (h:dk w C A B) :
  Calls prog 18 #[.pointer (some ⟨C,0,none⟩)] w fun c w'=>∃ k:ByteArray,c=.returned (.string k)∧cy k=true∧dk w' C A B∧Fr (fun q=>q=C) w w':=by
 go_enter func18,ntmps18;go_wp2_with fail
 refine (bo C A B w h 40 (by omega) (by omega)).mono ?_;rintro c b ⟨a,rfl,z,g,i⟩;clear h;by_cases r:a=0
 ·subst r;go_wp2_with fail
  go_ret;exact⟨_,rfl,by decide,g,i⟩
 ·have D:((a:Int) == 0)=false:=(by simp;omega);have d:Below b.heap.size b (b.alloc (.cells #[.int .u8 (97+(a:Int) % 20)] 5)):=Zb _ _;have j:=gA (fe b (97+(a:Int) % 20) (by omega));obtain⟨l,e⟩:=Zn (AN [97+(a:Int) % 20]);have m:l.size=1:=(by rw[<-e,eE];rfl);rw[e] at j;have n:=dk.below g d;have o:=Fr.trans i (Fr.of_below d);clear e d;go_wp2_with fail
  rw[show (1:Int)+(a:Int) / 20=((1+a / 20:Nat):Int) by omega];refine (fc l (by omega) (1+a / 20) (by omega) _).mono ?_;rintro c E ⟨t,rfl,ht,f⟩;have p:cy ((⟨#[107]⟩:ByteArray)++t)=true:=(by unfold cy;have s:((⟨#[107]⟩:ByteArray)++t).size=1+t.size:=(by rw[rW];rfl);rw[s,ht,m];simp;omega);have u:Hid _:=p;have v:t.size=1*(1+a / 20):=(by rw[ht,m]);have F:t.size<=2:=(by omega);clear v;have x:=n.below f;have y:=o.trans (Fr.of_below f);clear ht j n o f p;go_wp2_with fail
  go_ret;exact⟨_,rfl,u.out,x,y⟩
end Go.Proofs.YtgcedpmagmmikaaGreat
