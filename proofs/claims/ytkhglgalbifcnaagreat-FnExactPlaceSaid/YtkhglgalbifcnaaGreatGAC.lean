import Derived.Test.YtkhglgalbifcnaaGreatGAB
import Derived.OwnWalk
namespace Go.Proofs.YtkhglgalbifcnaaGreat
set_option maxHeartbeats 1000000
open Go.RowKit
set_option linter.unusedVariables false
set_option linter.unusedSimpArgs false
set_option maxRecDepth 100000
def slCells (s:ByteArray × ByteArray × Int):List Value:=[.string s.1,.string s.2.1,.int .i64 s.2.2]
theorem sl3:∀ x,(slCells x).length=3:=fun _=>rfl
def SlAt (w:World) (P:Nat->Prop) (a:Option Addr) (n c:Nat) (zs:List (ByteArray × ByteArray × Int)):Prop :=
 zs.length=n∧n<=c∧c<=maxLen∧(0<n->∃ b,a=some ⟨b,0,none⟩∧P b∧∀ r,r<n*3->w.cell? ⟨b,r,none⟩=(rowsOf slCells zs)[r]?)
def GIs (w:World) (P:Nat->Prop):T->Value->Prop
 | ⟨l,p,k,v,o,y⟩,u=>if l then ∃ (L:Nat) (a:Option Addr) (n c:Nat),u=.iface 120 (.pointer (some ⟨L,0,none⟩))∧P L∧w.heap[L]?=some (.cells #[.int .i64 p,.slice a n c] 142)∧SlAt w P a n c (k.zip (v.zip o))∧n=k.length
  else ∃ (L:Nat) (a:Option Addr) (n c:Nat) (us:Nat->Value),u=.iface 122 (.pointer (some ⟨L,0,none⟩))∧P L∧w.heap[L]?=some (.cells #[.int .i64 p,.slice a n c] 148)∧(n=y.length∧n<=c∧c<=maxLen)∧(0<n->∃ b,a=some ⟨b,0,none⟩∧P b∧∀ i,i<n->w.cell? ⟨b,i,none⟩=some (us i))∧∀ i,∀ t ∈ y,y[i]?=some t->GIs w P t (us i)
structure GLeaf (w:World) (P:Nat->Prop) (t:T) (L:Nat) (a:Option Addr) (n c:Nat):Prop where
 at':P L
 box:w.heap[L]?=some (.cells #[.int .i64 t.page,.slice a n c] 142)
 row:SlAt w P a n c (t.keys.zip (t.vals.zip t.over))
 len:n=t.keys.length
structure GInner (w:World) (P:Nat->Prop) (t:T) (L:Nat) (a:Option Addr) (n c:Nat) (us:Nat->Value):Prop where
 at':P L
 box:w.heap[L]?=some (.cells #[.int .i64 t.page,.slice a n c] 148)
 len:n=t.kids.length∧n<=c∧c<=maxLen
 row:0<n->∃ b,a=some ⟨b,0,none⟩∧P b∧∀ i,i<n->w.cell? ⟨b,i,none⟩=some (us i)
 kid:∀ i,∀ k ∈ t.kids,t.kids[i]?=some k->GIs w P k (us i)
theorem GIs.leaf {w:World} {P:Nat->Prop} {t:T} {u:Value} (h:GIs w P t u) (hl:t.leaf=true):∃ L a n c,u=.iface 120 (.pointer (some ⟨L,0,none⟩))∧GLeaf w P t L a n c:=by
 obtain⟨l,p,k,v,o,y⟩:=t
 simp only at hl
 rw[GIs.eq_def] at h
 simp only[hl,if_true] at h
 obtain⟨L,a,n,c,e,h1,h2,h3,h4⟩:=h
 exact⟨L,a,n,c,e,h1,h2,h3,h4⟩
theorem GIs.inner {w:World} {P:Nat->Prop} {t:T} {u:Value} (h:GIs w P t u) (hl:t.leaf=false):∃ L a n c us,u=.iface 122 (.pointer (some ⟨L,0,none⟩))∧GInner w P t L a n c us:=by
 obtain⟨l,p,k,v,o,y⟩:=t
 simp only at hl
 rw[GIs.eq_def] at h
 simp only[hl,Bool.false_eq_true,if_false] at h
 obtain⟨L,a,n,c,us,e,h1,h2,h3,h4,h5⟩:=h
 exact⟨L,a,n,c,us,e,h1,h2,h3,h4,h5⟩
theorem GLeaf.is {w:World} {P:Nat->Prop} {t:T} {L:Nat} {a:Option Addr} {n c:Nat} (h:GLeaf w P t L a n c) (hl:t.leaf=true):GIs w P t (.iface 120 (.pointer (some ⟨L,0,none⟩))):=by
 obtain⟨l,p,k,v,o,y⟩:=t
 simp only at hl
 rw[GIs.eq_def]
 simp only[hl,if_true]
 exact⟨L,a,n,c,rfl,h.at',h.box,h.row,h.len⟩
theorem GInner.is {w:World} {P:Nat->Prop} {t:T} {L:Nat} {a:Option Addr} {n c:Nat} {us:Nat->Value} (h:GInner w P t L a n c us) (hl:t.leaf=false):GIs w P t (.iface 122 (.pointer (some ⟨L,0,none⟩))):=by
 obtain⟨l,p,k,v,o,y⟩:=t
 simp only at hl
 rw[GIs.eq_def]
 simp only[hl,Bool.false_eq_true,if_false]
 exact⟨L,a,n,c,us,rfl,h.at',h.box,h.len,h.row,h.kid⟩
theorem SlAt.keep {w w':World} {P Q:Nat->Prop} {a:Option Addr} {n c:Nat} {zs:List (ByteArray × ByteArray × Int)} (h:SlAt w P a n c zs) (hp:∀ b,P b->w'.heap[b]?=w.heap[b]?) (hQ:∀ b,P b->Q b):SlAt w' Q a n c zs:=by
 obtain⟨h1,h2,h3,h4⟩:=h
 refine⟨h1,h2,h3,fun hn=>?_⟩
 obtain⟨b,e,hb,hc⟩:=h4 hn
 exact⟨b,e,hQ b hb,fun r hr=>(World.cell?_of_block (w:=w) (a:=⟨b,r,none⟩) (hp b hb)).trans (hc r hr)⟩
theorem GIs.keep {w w':World} {P Q:Nat->Prop} (hp:∀ b,P b->w'.heap[b]?=w.heap[b]?) (hQ:∀ b,P b->Q b):∀ t u,GIs w P t u->GIs w' Q t u:=by
 intro t
 induction t using T.ind with
 | h t ih =>
  intro u h
  cases hl:t.leaf
  ·obtain⟨L,a,n,c,us,rfl,h1,h2,h3,h4,h5⟩:=h.inner hl
   refine GInner.is (us:=us) ⟨hQ L h1,(hp L h1).trans h2,h3,fun hn=>?_,fun i k hm hi=>ih k hm _ (h5 i k hm hi)⟩ hl
   obtain⟨b,e,hb,hc⟩:=h4 hn
   exact⟨b,e,hQ b hb,fun i hi=>(World.cell?_of_block (w:=w) (a:=⟨b,i,none⟩) (hp b hb)).trans (hc i hi)⟩
  ·obtain⟨L,a,n,c,rfl,h1,h2,h3,h4⟩:=h.leaf hl
   exact GLeaf.is ⟨hQ L h1,(hp L h1).trans h2,h3.keep hp hQ,h4⟩ hl
theorem box_twoG {w:World} {N:Nat} {v0 v1:Value} {t:TypeId} (h:w.heap[N]?=some (.cells #[v0,v1] t)):w.cell? ⟨N,0,none⟩=some v0∧w.cell? ⟨N,1,none⟩=some v1:=by
 simp[World.cell?,h]
def Obs (w:World) (ty:TypeId) (v:Value) (name:String) (ans:Value):Prop :=
 (∀ w,(nilAhead 297 ty v name).run Tryz.prog w=.ok (some false) w)∧∃ f r,(∀ w,(method 297 ty v name).run Tryz.prog w=.ok (f,r) w)∧(∀ w,(callFunc f #[r]).run Tryz.prog w=.ok (.enter f #[r]) w)∧Calls Tryz.prog f #[r] w fun e w'=>e=.returned ans∧w'=w
structure GObj (w:World) (t:T) (ty:TypeId) (v:Value):Prop where
 size:Obs w ty v "loop.example/s02098/impl.size" (.int .i64 t.size)
 where':Obs w ty v "loop.example/s02098/impl.where" (.int .i64 t.page)
 height:Obs w ty v "loop.example/s02098/impl.height" (.int .i64 t.ht)
 least:0<t.size->Obs w ty v "loop.example/s02098/impl.least" (.string t.low)
theorem leafSize_g {w:World} {P:Nat->Prop} {t:T} {L:Nat} {a:Option Addr} {n c:Nat} (h:GLeaf w P t L a n c):Calls Tryz.prog 132 #[.pointer (some ⟨L,0,none⟩)] w fun e w'=>e=.returned (.int .i64 n)∧w'=w:=by
 obtain⟨c0,c1⟩:=box_twoG h.box
 have hlt:L<w.heap.size:=(Array.getElem?_eq_some_iff.1 h.box).1
 clear h
 go_enter Tryz.func132,Tryz.ntmps132
 go_wp2
 go_ret
 exact⟨rfl,rfl⟩
theorem innerSize_g {w:World} {L:Nat} {p:Int} {a:Option Addr} {n c:Nat} (h:w.heap[L]?=some (.cells #[.int .i64 p,.slice a n c] 148)):Calls Tryz.prog 142 #[.pointer (some ⟨L,0,none⟩)] w fun e w'=>e=.returned (.int .i64 n)∧w'=w:=by
 obtain⟨c0,c1⟩:=box_twoG h
 have hlt:L<w.heap.size:=(Array.getElem?_eq_some_iff.1 h).1
 clear h
 go_enter Tryz.func142,Tryz.ntmps142
 go_wp2
 go_ret
 exact⟨rfl,rfl⟩
theorem where_g {w:World} {L:Nat} {p:Int} (h:w.cell? ⟨L,0,none⟩=some (.int .i64 p)):Calls Tryz.prog 136 #[.pointer (some ⟨L,0,none⟩)] w fun e w'=>e=.returned (.int .i64 p)∧w'=w:=by
 have hlt:L<w.heap.size:=by
  rcases Nat.lt_or_ge L w.heap.size with h1 | h1
  ·exact h1
  ·simp[World.cell?,Array.getElem?_eq_none h1] at h
 go_enter Tryz.func136,Tryz.ntmps136
 go_wp2
 go_ret
 exact⟨rfl,rfl⟩
theorem leafHeight_g (w:World) (L:Nat):Calls Tryz.prog 129 #[.pointer (some ⟨L,0,none⟩)] w fun e w'=>e=.returned (.int .i64 0)∧w'=w:=by
 go_enter Tryz.func129,Tryz.ntmps129
 go_wp2
 go_ret
 exact⟨rfl,rfl⟩
theorem leafLeast_g {w:World} {P:Nat->Prop} {t:T} {L:Nat} {a:Option Addr} {n c:Nat} (h:GLeaf w P t L a n c) (hn:0<n):Calls Tryz.prog 130 #[.pointer (some ⟨L,0,none⟩)] w fun e w'=>e=.returned (.string (t.keys.headD ByteArray.empty))∧w'=w:=by
 obtain⟨c0,c1⟩:=box_twoG h.box
 have hlt:L<w.heap.size:=(Array.getElem?_eq_some_iff.1 h.box).1
 obtain⟨b,rfl,hb,hc⟩:=h.row.2.2.2 hn
 have d0:w.cell? ⟨b,0,none⟩=some (.string (t.keys.headD ByteArray.empty)):=by
  rw[hc 0 (by omega)]
  have h1:=h.row.1
  have h2:=h.len
  cases hk:t.keys with
  | nil=>rw[hk] at h2;simp at h2;omega
  | cons x r =>
   cases hz:t.vals.zip t.over with
   | nil=>rw[hz] at h1;simp at h1;omega
   | cons q r2=>simp[rowsOf,slCells]
 have hbl:b<w.heap.size:=by
  rcases Nat.lt_or_ge b w.heap.size with h1 | h1
  ·exact h1
  ·simp[World.cell?,Array.getElem?_eq_none h1] at d0
 have hnm:0<n:=hn
 clear h hc hn
 generalize t.keys.headD ByteArray.empty=s at *
 go_enter Tryz.func130,Tryz.ntmps130
 go_wp2
 go_ret
 exact⟨rfl,rfl⟩
theorem lt_of_cellG {w:World} {b o:Nat} {v:Value} (h:w.cell? ⟨b,o,none⟩=some v):b<w.heap.size:=by
 rcases Nat.lt_or_ge b w.heap.size with h1 | h1
 ·exact h1
 ·simp[World.cell?,Array.getElem?_eq_none h1] at h
theorem innerLeast_g {w:World} {P:Nat->Prop} {t:T} {L:Nat} {a:Option Addr} {n c:Nat} {us:Nat->Value} (h:GInner w P t L a n c us) (hn:0<n) {ty:TypeId} {v:Value} (hu:us 0=.iface ty v) {s:ByteArray} (ho:Obs w ty v "loop.example/s02098/impl.least" (.string s)):Calls Tryz.prog 140 #[.pointer (some ⟨L,0,none⟩)] w fun e w'=>e=.returned (.string s)∧w'=w:=by
 obtain⟨c0,c1⟩:=box_twoG h.box
 have hlt:L<w.heap.size:=(Array.getElem?_eq_some_iff.1 h.box).1
 obtain⟨b,rfl,hb,hc⟩:=h.row hn
 have d0:=hc 0 hn
 rw[hu] at d0
 have hbl:=lt_of_cellG d0
 obtain⟨ha,f,r,hm,hcf,hcall⟩:=ho
 clear h hc hu
 go_enter Tryz.func140,Tryz.ntmps140
 go_wp2_with fail
 refine hcall.mono ?_
 rintro e w' ⟨rfl,rfl⟩
 go_wp2_with fail
 go_ret
 exact⟨rfl,rfl⟩
theorem innerHeight_g {w:World} {P:Nat->Prop} {t:T} {L:Nat} {a:Option Addr} {n c:Nat} {us:Nat->Value} (h:GInner w P t L a n c us) (hn:0<n) {ty:TypeId} {v:Value} (hu:us 0=.iface ty v) {s:Int} (hs:0<=s∧s<1000000) (ho:Obs w ty v "loop.example/s02098/impl.height" (.int .i64 s)):Calls Tryz.prog 139 #[.pointer (some ⟨L,0,none⟩)] w fun e w'=>e=.returned (.int .i64 (s+1))∧w'=w:=by
 obtain⟨c0,c1⟩:=box_twoG h.box
 have hlt:L<w.heap.size:=(Array.getElem?_eq_some_iff.1 h.box).1
 obtain⟨b,rfl,hb,hc⟩:=h.row hn
 have d0:=hc 0 hn
 rw[hu] at d0
 have hbl:=lt_of_cellG d0
 obtain⟨ha,f,r,hm,hcf,hcall⟩:=ho
 clear h hc hu
 go_enter Tryz.func139,Tryz.ntmps139
 go_wp2_with fail
 refine hcall.mono ?_
 rintro e w' ⟨rfl,rfl⟩
 go_wp2_with fail
 go_ret
 exact⟨rfl,rfl⟩
theorem goodG_kid {t k:T} {r:Bool} (h:t.good r=true) (hk:k ∈ t.kids):k.good false=true:=by
 rw[T.good_eq] at h
 simp only[Bool.and_eq_true] at h
 exact List.all_eq_true.1 h.1.2 (k.good false) (List.mem_map.2 ⟨k,hk,rfl⟩)
theorem nodesG_kid {t k:T} (h:k ∈ t.kids):k.nodes<t.nodes:=by
 rw[T.nodes_eq t]
 have:∀ (l:List T),k ∈ l->k.nodes<=(l.map T.nodes).sum:=by
  intro l
  induction l with
  | nil=>intro h;cases h
  | cons a r ih =>
   intro h
   rcases List.mem_cons.1 h with rfl | h
   ·simp
   ·have:=ih h;simp;omega
 have:=this _ h
 omega
theorem htG_le (t:T):t.ht<t.nodes:=by
 induction t using T.ind with
 | h t ih =>
  rw[T.ht_eq]
  split
  ·rw[T.nodes_eq];omega
  ·cases hk:t.kids with
   | nil=>rw[T.nodes_eq,hk];simp[T.htOf]
   | cons k r =>
    have h1:=ih k (by rw[hk];exact List.mem_cons_self ..)
    have h2:=nodesG_kid (t:=t) (k:=k) (by rw[hk];exact List.mem_cons_self ..)
    simp only[List.map_cons]
    have e2:T.htOf (k.ht::r.map T.ht)=(if k.ht<0 then (-1:Int) else if (r.map T.ht).all (fun x=>x == k.ht) then k.ht+1 else -1):=rfl
    rw[e2]
    split
    ·omega
    ·split<;>omega
theorem ht_first {t k:T} {r:List T} (hl:t.leaf=false) (hk:t.kids=k::r) (h:0<=t.ht):t.ht=k.ht+1∧∀ q ∈ t.kids,0<=q.ht∧q.ht=k.ht:=by
 rw[T.ht_eq,if_neg (by simp[hl]),hk,List.map_cons] at h ⊢
 obtain⟨i1,i2⟩:=htOf_inv h
 refine⟨htOf_all i1 i2,fun q hq=>?_⟩
 rcases List.mem_cons.1 hq with rfl | hq
 ·exact⟨i1,rfl⟩
 ·have:=i2 q.ht (List.mem_map_of_mem hq)
  omega
theorem GIs.shape {w:World} {P:Nat->Prop} {t:T} {u:Value} (h:GIs w P t u):∃ ty v,u=.iface ty v:=by
 cases hl:t.leaf
 ·obtain⟨L,a,n,c,us,rfl,_⟩:=h.inner hl
  exact⟨_,_,rfl⟩
 ·obtain⟨L,a,n,c,rfl,_⟩:=h.leaf hl
  exact⟨_,_,rfl⟩
theorem GIs.obj {w:World} {P:Nat->Prop}:∀ (t:T) (ty:TypeId) (v:Value),t.nodes<=100000->(∃ r,t.good r=true)->0<=t.ht->GIs w P t (.iface ty v)->GObj w t ty v:=by
 intro t
 induction t using T.ind with
 | h t ih =>
  rintro ty v hn ⟨r,hg⟩ hh h
  cases hl:t.leaf
  ·obtain⟨L,a,n,c,us,e,hG⟩:=h.inner hl
   cases e
   have hsz:t.size=n:=by rw[hG.len.1];simp[T.size,hl]
   have h2:0<n:=by
    rw[T.good_eq] at hg
    simp only[Bool.and_eq_true,decide_eq_true_eq,hl,Bool.and_false,hsz] at hg
    have:=hg.1.1.1.1.1
    simp at this
    omega
   obtain⟨k,ks,hk⟩:∃ k ks,t.kids=k::ks:=List.exists_cons_of_ne_nil (by intro e;have:=hG.len.1;rw[e] at this;simp at this;omega)
   have hkm:k ∈ t.kids:=by rw[hk];exact List.mem_cons_self ..
   have hK:=hG.kid 0 k hkm (by rw[hk];rfl)
   obtain⟨ty',v',hu⟩:=hK.shape
   rw[hu] at hK
   obtain⟨f1,f2⟩:=ht_first hl hk hh
   have hlt:=nodesG_kid hkm
   have hO:=ih k hkm ty' v' (by omega) ⟨false,goodG_kid hg hkm⟩ (f2 k hkm).1 hK
   have hks:0<k.size:=by
    have h9:=goodG_kid hg hkm
    rw[T.good_eq] at h9
    simp only[Bool.and_eq_true,decide_eq_true_eq] at h9
    have:=h9.1.1.1.1.1
    simp at this
    omega
   refine⟨⟨fun w=>by kernel_rfl,142,.pointer (some ⟨L,0,none⟩),fun w=>by kernel_rfl,fun w=>by kernel_rfl,?_⟩,⟨fun w=>by kernel_rfl,136,.pointer (some ⟨L,0,none⟩),fun w=>by kernel_rfl,fun w=>by kernel_rfl,?_⟩,⟨fun w=>by kernel_rfl,139,.pointer (some ⟨L,0,none⟩),fun w=>by kernel_rfl,fun w=>by kernel_rfl,?_⟩,fun _=>⟨fun w=>by kernel_rfl,140,.pointer (some ⟨L,0,none⟩),fun w=>by kernel_rfl,fun w=>by kernel_rfl,?_⟩⟩
   ·rw[hsz];exact innerSize_g hG.box
   ·exact where_g (box_twoG hG.box).1
   ·rw[f1]
    exact innerHeight_g hG h2 hu ⟨(f2 k hkm).1,by have:=htG_le k;omega⟩ hO.height
   ·rw[T.low_inner hl hk]
    exact innerLeast_g hG h2 hu (hO.least hks)
  ·obtain⟨L,a,n,c,e,hG⟩:=h.leaf hl
   cases e
   have hsz:t.size=n:=by rw[hG.len];simp[T.size,hl]
   refine⟨⟨fun w=>by kernel_rfl,132,.pointer (some ⟨L,0,none⟩),fun w=>by kernel_rfl,fun w=>by kernel_rfl,?_⟩,⟨fun w=>by kernel_rfl,136,.pointer (some ⟨L,0,none⟩),fun w=>by kernel_rfl,fun w=>by kernel_rfl,?_⟩,⟨fun w=>by kernel_rfl,129,.pointer (some ⟨L,0,none⟩),fun w=>by kernel_rfl,fun w=>by kernel_rfl,?_⟩,fun h0=>⟨fun w=>by kernel_rfl,130,.pointer (some ⟨L,0,none⟩),fun w=>by kernel_rfl,fun w=>by kernel_rfl,?_⟩⟩
   ·rw[hsz];exact leafSize_g hG
   ·exact where_g (box_twoG hG.box).1
   ·rw[T.ht_eq,if_pos hl];exact leafHeight_g w L
   ·rw[T.low_leaf hl];exact leafLeast_g hG (by omega)
theorem box6 {w:World} {g:Nat} {v0 v1 v2 v3 v4 v5:Value} {t:TypeId} (h:w.heap[g]?=some (.cells #[v0,v1,v2,v3,v4,v5] t)):w.cell? ⟨g,0,none⟩=some v0∧w.cell? ⟨g,1,none⟩=some v1∧w.cell? ⟨g,2,none⟩=some v2∧w.cell? ⟨g,3,none⟩=some v3∧w.cell? ⟨g,4,none⟩=some v4∧w.cell? ⟨g,5,none⟩=some v5:=by
 simp[World.cell?,h]
theorem szInt64S_any (a:Option Addr) (n c:Nat) (left:Int) (w:World) (h0:0<=left) (h1:left<=1048576) (hn:n<=maxLen) :
  Calls Tryz.prog 67 #[.slice a n c,.int .i64 left] w fun e w'=>∃ r:Int,e=.returned (.int .i64 r)∧(-1<=r∧r<=left∧(0<=r->r=left - n))∧w'=w:=by
 unfold maxLen at hn
 by_cases h:left - n<0
 ·go_enter Tryz.func67,Tryz.ntmps67
  go_wp2
  go_ret
  exact⟨-1,rfl,⟨by omega,by omega,by omega⟩,rfl⟩
 ·go_enter Tryz.func67,Tryz.ntmps67
  go_wp2
  go_ret
  exact⟨left - n,rfl,⟨by omega,by omega,by omega⟩,rfl⟩
theorem szStringS_any (a:Option Addr) (n c:Nat) (xs:List ByteArray) (left:Int) (w:World) (h0:0<=left) (h1:left<=1048576) (A B:Nat) (hB:B<=w.heap.size) (hF:StrsAt w A B a n c xs) :
  Calls Tryz.prog 66 #[.slice a n c,.int .i64 left] w fun e w'=>∃ r:Int,e=.returned (.int .i64 r)∧(-1<=r∧r<=left∧(0<=r->r=left - wStrs xs))∧Below w.heap.size w w':=by
 have hc:=hF.2.2.1
 have hnc:=hF.2.1
 have hl:=hF.1
 unfold maxLen at hc
 have HN:=wStrs_len xs
 have HN2:Hid ((xs.length:Int)<=wStrs xs∧xs.length=n):=⟨HN,hl⟩
 clear HN hl
 by_cases h:left - n<0
 ·go_enter Tryz.func66,Tryz.ntmps66
  go_wp2
  go_ret
  exact⟨-1,rfl,⟨by omega,by omega,by omega⟩,Below.refl _ _⟩
 ·go_enter Tryz.func66,Tryz.ntmps66
  go_wp2
  go_loopw [1,5] (fun l i wr=>∃ (k:Nat) (r:Int),k<=n∧i=.int .i64 k∧l=.int .i64 r∧0<=r∧r<=left - n∧Hid (r=left - n+k - wStrs (xs.take k))∧Below w.heap.size w wr) (fun _ i _=>n - (intOf i).toNat)
  case atStart=>exact⟨0,left - n,Nat.zero_le _,rfl,rfl,by omega,by omega,by show _=_;simp[wStrs],Below.refl _ _⟩
  case round =>
   obtain⟨k,r,hk,rfl,rfl,hr0,hr1,HR,hbel⟩:=hrel
   by_cases hlt:k<n
   ·obtain⟨b,off,rfl,hb,hfit,e0⟩:=StrsAt.at (hF.below (hbel.mono hB)) hlt
    have hsn:=take_snocD xs k ByteArray.empty (by have:=HN2.out;omega)
    generalize xs.getD k ByteArray.empty=s at hfit e0 hsn
    have HS:Hid (wStrs (xs.take (k+1))=wStrs (xs.take k)+s.size+1):=by show wStrs (xs.take (k+1))=_;rw[hsn,wStrs_append];simp[wStrs];omega
    clear hsn hF
    unfold maxLen at hfit
    by_cases h2:r - s.size<0
    ·go_wp2
     go_ret
     exact⟨-1,rfl,⟨by omega,by omega,by omega⟩,hbel⟩
    ·have H3:Hid (r - s.size=left - n+(k+1:Nat) - wStrs (xs.take (k+1))):=by
      have e1:=HR.out;have e2:=HS.out
      show r - s.size=_
      omega
     clear HR HS
     go_wp2
     go_roundw
     case rel=>exact⟨k+1,r - s.size,by omega,by go_num,rfl,by omega,by omega,H3,hbel⟩
     case measure=>simp[intOf];omega
   ·go_wp2
    go_ret
    refine⟨r,rfl,⟨by omega,by omega,fun _=>?_⟩,hbel⟩
    have e1:=HR.out
    rw[List.take_of_length_le (by have:=HN2.out;omega)] at e1
    omega
theorem szTNode_any (t:TN) (ka:Option Addr) (kn kc:Nat) (va:Option Addr) (vn vc:Nat) (oa:Option Addr) (on oc:Nat) (ya:Option Addr) (yn yc:Nat) (left:Int) (w:World) (h0:0<=left) (h1:left<=1048576) (A B:Nat) (hB:B<=w.heap.size)
  (hK:StrsAt w A B ka kn kc t.keys) (hV:StrsAt w A B va vn vc t.vals) (hO:IntsAt w A B oa on oc t.over) (hY:IntsAt w A B ya yn yc t.kids) :
  Calls Tryz.prog 36 #[.agg #[.bool t.leaf,.int .i64 t.page,.slice ka kn kc,.slice va vn vc,.slice oa on oc,.slice ya yn yc],.int .i64 left] w fun e w'=>∃ r:Int,e=.returned (.int .i64 r)∧(-1<=r∧r<=left∧(0<=r->r=left - wTN t))∧Below w.heap.size w w':=by
 have HO:Hid (t.over.length=on∧t.kids.length=yn):=⟨hO.1,hY.1⟩
 have hom:on<=maxLen:=Nat.le_trans hO.2.1 hO.2.2.1
 have hym:yn<=maxLen:=Nat.le_trans hY.2.1 hY.2.2.1
 clear hO hY
 generalize hlf:t.leaf=lf
 generalize hpg:t.page=pg
 clear hlf hpg
 go_enter Tryz.func36,Tryz.ntmps36
 go_wp2_with fail
 have hb0:Below w.heap.size w (w.alloc (.cells #[.bool lf,.int .i64 pg,.slice ka kn kc,.slice va vn vc,.slice oa on oc,.slice ya yn yc] 77)):=(Below.refl _ _).alloc (Nat.le_refl _) _
 have A0:=heap_alloc_new w (.cells #[.bool lf,.int .i64 pg,.slice ka kn kc,.slice va vn vc,.slice oa on oc,.slice ya yn yc] 77)
 have z0:w.heap.size<(w.alloc (.cells #[.bool lf,.int .i64 pg,.slice ka kn kc,.slice va vn vc,.slice oa on oc,.slice ya yn yc] 77)).heap.size:=by simp
 generalize (w.alloc (.cells #[.bool lf,.int .i64 pg,.slice ka kn kc,.slice va vn vc,.slice oa on oc,.slice ya yn yc] 77))=W0 at hb0 A0 z0 ⊢
 refine (szStringS_any _ _ _ t.keys _ _ h0 h1 A B (by omega) (hK.below (hb0.mono hB))).mono ?_
 rintro e w1 ⟨r,rfl,hr,hb1⟩
 have b1:=hb0.trans (hb1.mono hb0.size)
 have A1:=(hb1.block _ z0).trans A0
 have z1:w.heap.size<w1.heap.size:=Nat.lt_of_lt_of_le z0 hb1.size
 obtain⟨x0,x1,x2,x3,x4,x5⟩:=box6 A1
 by_cases t1:r<0
 ·go_wp2_with fail
  go_ret
  exact⟨-1,rfl,⟨by omega,by omega,by omega⟩,b1⟩
 have HR:Hid (r=left - wStrs t.keys):=hr.2.2 (by omega)
 have hr1:=hr.2.1
 clear hr hb1 A0 z0 hb0
 go_wp2_with fail
 refine (szStringS_any _ _ _ t.vals _ _ (by omega) (by omega) A B (by have:=b1.size;omega) (hV.below (b1.mono hB))).mono ?_
 rintro e w2 ⟨q,rfl,hq,hb2⟩
 have b2:=b1.trans (hb2.mono b1.size)
 have A2:=(hb2.block _ z1).trans A1
 have z2:w.heap.size<w2.heap.size:=Nat.lt_of_lt_of_le z1 hb2.size
 clear x0 x1 x2 x3 x4 x5
 obtain⟨x0,x1,x2,x3,x4,x5⟩:=box6 A2
 by_cases t2:q<0
 ·go_wp2_with fail
  go_ret
  exact⟨-1,rfl,⟨by omega,by omega,by omega⟩,b2⟩
 have HQ:Hid (q=r - wStrs t.vals):=hq.2.2 (by omega)
 have hq1:=hq.2.1
 clear hq hb2 A1 z1 b1
 go_wp2_with fail
 refine (szInt64S_any _ _ _ _ _ (by omega) (by omega) hom).mono ?_
 rintro e w3 ⟨p,rfl,hp,rfl⟩
 by_cases t3:p<0
 ·go_wp2_with fail
  go_ret
  exact⟨-1,rfl,⟨by omega,by omega,by omega⟩,b2⟩
 have HP:Hid (p=q - on):=hp.2.2 (by omega)
 have hp1:=hp.2.1
 clear hp
 go_wp2_with fail
 refine (szInt64S_any _ _ _ _ _ (by omega) (by omega) hym).mono ?_
 rintro e w4 ⟨o,rfl,ho,rfl⟩
 by_cases t4:o<0
 ·go_wp2_with fail
  go_ret
  exact⟨-1,rfl,⟨by omega,by omega,by omega⟩,b2⟩
 have HV:Hid (o=p - yn):=ho.2.2 (by omega)
 have ho1:=ho.2.1
 clear ho
 go_wp2_with fail
 go_ret
 refine⟨o,rfl,⟨by omega,by omega,fun _=>?_⟩,b2⟩
 have e1:=HR.out;have e2:=HQ.out;have e3:=HP.out;have e4:=HV.out;have e5:=HO.out
 unfold wTN
 omega
theorem szTNodeS_any (a:Option Addr) (n c:Nat) (ts:List TN) (left:Int) (w:World) (h0:0<=left) (h1:left<=1048576) (A B:Nat) (hB:B<=w.heap.size) (hF:NodesAt w A B a n c ts) :
  Calls Tryz.prog 16 #[.slice a n c,.int .i64 left] w fun e w'=>∃ r:Int,e=.returned (.int .i64 r)∧(-1<=r∧r<=left∧(0<=r->r=left - wTNs ts))∧Below w.heap.size w w':=by
 have hc:=hF.2.2.1
 have hnc:=hF.2.1
 have hl:=hF.1
 unfold maxLen at hc
 have HN:=wTNs_len ts
 have HN2:Hid ((ts.length:Int)<=wTNs ts∧ts.length=n):=⟨HN,hl⟩
 clear HN hl
 by_cases h:left - n<0
 ·go_enter Tryz.func16,Tryz.ntmps16
  go_wp2
  go_ret
  exact⟨-1,rfl,⟨by omega,by omega,by omega⟩,Below.refl _ _⟩
 ·go_enter Tryz.func16,Tryz.ntmps16
  go_wp2
  go_loopw [1,5] (fun l i wr=>∃ (k:Nat) (r:Int),k<=n∧i=.int .i64 k∧l=.int .i64 r∧0<=r∧r<=left - n∧Hid (r=left - n+k - wTNs (ts.take k))∧Below w.heap.size w wr) (fun _ i _=>n - (intOf i).toNat)
  case atStart=>exact⟨0,left - n,Nat.zero_le _,rfl,rfl,by omega,by omega,by show _=_;simp[wTNs],Below.refl _ _⟩
  case round =>
   obtain⟨k,r,hk,rfl,rfl,hr0,hr1,HR,hbel⟩:=hrel
   by_cases hlt:k<n
   ·obtain⟨b,off,rfl,hb,ka,kn,kc,va,vn,vc,oa,on,oc,ya,yn,yc,hN⟩:=NodesAt.at (hF.below (hbel.mono hB)) hlt
    have hsn:=take_snocD ts k dT (by have:=HN2.out;omega)
    generalize ts.getD k dT=t at hN hsn
    have HS:Hid (wTNs (ts.take (k+1))=wTNs (ts.take k)+wTN t+1):=by show wTNs (ts.take (k+1))=_;rw[hsn,wTNs_append];simp[wTNs];omega
    clear hsn hF
    obtain⟨c0,c1,c2,c3,c4,c5,hpg,hK,hV,hO,hY⟩:=hN
    have hs:=hbel.size
    go_wp2_with fail
    refine (szTNode_any t ka kn kc va vn vc oa on oc ya yn yc _ _ hr0 (by omega) A B (by omega) hK hV hO hY).mono ?_
    rintro e w1 ⟨r2,rfl,hr2,hb2⟩
    have hb3:=hbel.trans (hb2.mono hs)
    by_cases h2:r2<0
    ·go_wp2
     go_ret
     exact⟨-1,rfl,⟨by omega,by omega,by omega⟩,hb3⟩
    ·have h3:r2=r - wTN t:=hr2.2.2 (by omega)
     have h4:=wTN_nonneg t
     have H3:Hid (r2=left - n+(k+1:Nat) - wTNs (ts.take (k+1))):=by
      have e1:=HR.out;have e2:=HS.out
      show r2=_
      omega
     clear h3 h4 HR HS
     go_wp2
     go_roundw
     case rel=>exact⟨k+1,r2,by omega,by go_num,rfl,by omega,by omega,H3,hb3⟩
     case measure=>simp[intOf];omega
   ·go_wp2
    go_ret
    refine⟨r,rfl,⟨by omega,by omega,fun _=>?_⟩,hbel⟩
    have e1:=HR.out
    rw[List.take_of_length_le (by have:=HN2.out;omega)] at e1
    omega
theorem szTree_any (a:Option Addr) (n c:Nat) (ts:List TN) (left:Int) (w:World) (h0:0<=left) (h1:left<=1048576) (A B:Nat) (hB:B<=w.heap.size) (hF:NodesAt w A B a n c ts) :
  Calls Tryz.prog 4 #[.agg #[.slice a n c],.int .i64 left] w fun e w'=>∃ r:Int,e=.returned (.int .i64 r)∧(-1<=r∧r<=left∧(0<=r->r=left - wTNs ts))∧Below w.heap.size w w':=by
 have hb0:Below w.heap.size w (w.alloc (.cells #[.slice a n c] 24)):=(Below.refl _ _).alloc (Nat.le_refl _) _
 go_enter Tryz.func4,Tryz.ntmps4
 go_wp2_with fail
 refine (szTNodeS_any _ _ _ ts _ _ h0 h1 A B (by simp;omega) (hF.below (hb0.mono hB))).mono ?_
 rintro e w1 ⟨r,rfl,hr,hb1⟩
 have hb2:=hb0.trans (hb1.mono hb0.size)
 by_cases h2:r<0
 ·go_wp2_with fail
  go_ret
  exact⟨-1,rfl,⟨by omega,by omega,by omega⟩,hb2⟩
 ·go_wp2_with fail
  go_ret
  exact⟨r,rfl,hr,hb2⟩
theorem info_string:(Tryz.prog.info? 9).map (fun i=>(i.zero,i.size,i.bytes))=some (some (.string ByteArray.empty),1,16):=by kernel_rfl
theorem info_int64:(Tryz.prog.info? 2).map (fun i=>(i.zero,i.size,i.bytes))=some (some (.int .i64 0),1,8):=by kernel_rfl
theorem info_TNodeT:(Tryz.prog.info? 103).map (fun i=>(i.zero,i.size,i.bytes))=some (some (.agg #[.bool false,.int .i64 0,.slice none 0 0,.slice none 0 0,.slice none 0 0,.slice none 0 0]),6,112):=by kernel_rfl
theorem set_one {α:Type} {cs:α->List Value} (hc:∀ x,(cs x).length=1) {xs:List Value} {n k:Nat} {d p:α} {v:Value} {rs:List α} (hl:rs.length=n) (hk:k<n) (hp:p=rs.getD k d) (hv:cs p=[v]) (hx:xs.length=n*1) (h:∀ j,j<k->xs[j]?=(rowsOf cs rs)[j]?) :
  ∀ j,j<k+1->(xs.set k v)[j]?=(rowsOf cs rs)[j]?:=by
 intro j hj
 have e0:=rowsOf_get hc d rs k 0 (by omega) (by omega)
 by_cases h0:j=k
 ·subst h0
  rw[List.getElem?_set_self (by omega)]
  rw[<-hp,hv] at e0
  simpa using e0.symm
 ·rw[List.getElem?_set_ne (by omega)]
  exact h j (by omega)
theorem toStringS_any (a:Option Addr) (n c:Nat) (ks:List ByteArray) (w:World) (A B:Nat) (hB:B<=w.heap.size) (h:StrsAt w A B a n c ks) (hn:n<=1048576) :
  Calls Tryz.prog 71 #[.slice a n c] w fun e w'=>∃ g,w.heap.size<=g∧e=.returned (.slice (some ⟨g,0,none⟩) n n)∧w'.ownsRow w.heap.size 9 1 (.slice (some ⟨g,0,none⟩) n n) n (rowsOf strCells ks)∧Below w.heap.size w w':=by
 have hl:=h.1
 have HL:Hid (ks.length=n):=hl
 clear hl
 obtain⟨i0,hi,hz0,hz1,hz2⟩:=info_parts info_string
 go_enter Tryz.func71,Tryz.ntmps71
 go_wp2_with (at_make;refine wpList_make_full _ rfl _ _ 46 rfl w.heap.size 9 i0 _ 1 Tryz.underlying46 hi hz0 hz1 .i64 .i64 n n n rfl rfl rfl rfl (by rw[hz2];omega) (by unfold maxLen;omega) (Nat.le_refl _) ?_;intro w1 hown hgr)
 have hb1:Below w.heap.size w w1:=(Below.refl _ _).grown hgr (Nat.le_refl _) (by simp)
 go_loopw [4] (fun i wr=>∃ k:Nat,k<=n∧i=.int .i64 k∧Below w.heap.size w wr∧∃ xs,wr.ownsRow w.heap.size 9 1 (.slice (some ⟨w.heap.size,0,none⟩) n n) n xs∧∀ j,j<k->xs[j]?=(rowsOf strCells ks)[j]?) (fun i _=>n - (intOf i).toNat)
 case atStart=>exact⟨0,Nat.zero_le _,rfl,hb1,_,hown,fun j hj=>by omega⟩
 case round =>
  clear hown hgr hb1
  obtain⟨k,hk,rfl,hbel,xs,hown,hgot⟩:=hrel
  have HG:Hid (∀ j,j<k->xs[j]?=(rowsOf strCells ks)[j]?):=hgot
  clear hgot
  by_cases hlt:k<n
  ·obtain⟨b,off,rfl,hb,hfit,e0⟩:=StrsAt.at (h.below (hbel.mono hB)) hlt
   have HS:Hid (∀ j,j<k+1->(xs.set k (.string (ks.getD k ByteArray.empty)))[j]?=(rowsOf strCells ks)[j]?):=set_one sc1 HL.out hlt rfl rfl hown.1 HG.out
   generalize ks.getD k ByteArray.empty=s at e0 hfit HS
   clear h
   have hs:=hbel.size
   have hlt0:=(hown.lt w.heap.size rfl).2
   have hxl:=hown.1
   have R:=hown.stored k (.string s)
   have hbel3:=hbel.setCell (p:=⟨w.heap.size,k,none⟩) (Nat.le_refl _) (.string s)
   have hf1:=hown.frozenAt k
   obtain⟨u,hu⟩:∃ u,wr.cell? ⟨w.heap.size,k,none⟩=some u:=⟨xs[k]'(by omega),by rw[hown.cellAt k (by omega)];exact List.getElem?_eq_getElem _⟩
   clear hown
   go_wp2
   go_roundw
   case rel=>exact⟨k+1,by omega,by go_num,hbel3,_,R.1,HS.out⟩
   case measure=>simp[intOf];omega
  ·go_wp2
   go_ret
   have hkn:k=n:=by omega
   refine⟨w.heap.size,Nat.le_refl _,rfl,?_,hbel⟩
   rw[show rowsOf strCells ks=xs from ?_]
   ·exact hown
   ·refine (List.ext_getElem? fun j=>?_).symm
    by_cases hj:j<n
    ·exact HG.out j (by omega)
    ·rw[List.getElem?_eq_none (by rw[hown.1];omega),List.getElem?_eq_none (by rw[rowsOf_length sc1,HL.out];omega)]
theorem toInt64S_any (a:Option Addr) (n c:Nat) (ks:List Int) (w:World) (A B:Nat) (hB:B<=w.heap.size) (h:IntsAt w A B a n c ks) (hn:n<=1048576) :
  Calls Tryz.prog 7 #[.slice a n c] w fun e w'=>∃ g,w.heap.size<=g∧e=.returned (.slice (some ⟨g,0,none⟩) n n)∧w'.ownsRow w.heap.size 2 1 (.slice (some ⟨g,0,none⟩) n n) n (rowsOf intCells ks)∧Below w.heap.size w w':=by
 have hl:=h.1
 have HL:Hid (ks.length=n):=hl
 clear hl
 obtain⟨i0,hi,hz0,hz1,hz2⟩:=info_parts info_int64
 go_enter Tryz.func7,Tryz.ntmps7
 go_wp2_with (at_make;refine wpList_make_full _ rfl _ _ 25 rfl w.heap.size 2 i0 _ 1 Tryz.underlying25 hi hz0 hz1 .i64 .i64 n n n rfl rfl rfl rfl (by rw[hz2];omega) (by unfold maxLen;omega) (Nat.le_refl _) ?_;intro w1 hown hgr)
 have hb1:Below w.heap.size w w1:=(Below.refl _ _).grown hgr (Nat.le_refl _) (by simp)
 go_loopw [4] (fun i wr=>∃ k:Nat,k<=n∧i=.int .i64 k∧Below w.heap.size w wr∧∃ xs,wr.ownsRow w.heap.size 2 1 (.slice (some ⟨w.heap.size,0,none⟩) n n) n xs∧∀ j,j<k->xs[j]?=(rowsOf intCells ks)[j]?) (fun i _=>n - (intOf i).toNat)
 case atStart=>exact⟨0,Nat.zero_le _,rfl,hb1,_,hown,fun j hj=>by omega⟩
 case round =>
  clear hown hgr hb1
  obtain⟨k,hk,rfl,hbel,xs,hown,hgot⟩:=hrel
  have HG:Hid (∀ j,j<k->xs[j]?=(rowsOf intCells ks)[j]?):=hgot
  clear hgot
  by_cases hlt:k<n
  ·obtain⟨b,off,rfl,hb,hfit,e0⟩:=IntsAt.at (h.below (hbel.mono hB)) hlt
   have HS:Hid (∀ j,j<k+1->(xs.set k (.int .i64 (ks.getD k 0)))[j]?=(rowsOf intCells ks)[j]?):=set_one ic1 HL.out hlt rfl rfl hown.1 HG.out
   generalize ks.getD k 0=s at e0 hfit HS
   clear h
   have hs:=hbel.size
   have hlt0:=(hown.lt w.heap.size rfl).2
   have hxl:=hown.1
   have R:=hown.stored k (.int .i64 s)
   have hbel3:=hbel.setCell (p:=⟨w.heap.size,k,none⟩) (Nat.le_refl _) (.int .i64 s)
   have hf1:=hown.frozenAt k
   obtain⟨u,hu⟩:∃ u,wr.cell? ⟨w.heap.size,k,none⟩=some u:=⟨xs[k]'(by omega),by rw[hown.cellAt k (by omega)];exact List.getElem?_eq_getElem _⟩
   clear hown
   go_wp2
   go_roundw
   case rel=>exact⟨k+1,by omega,by go_num,hbel3,_,R.1,HS.out⟩
   case measure=>simp[intOf];omega
  ·go_wp2
   go_ret
   have hkn:k=n:=by omega
   refine⟨w.heap.size,Nat.le_refl _,rfl,?_,hbel⟩
   rw[show rowsOf intCells ks=xs from ?_]
   ·exact hown
   ·refine (List.ext_getElem? fun j=>?_).symm
    by_cases hj:j<n
    ·exact HG.out j (by omega)
    ·rw[List.getElem?_eq_none (by rw[hown.1];omega),List.getElem?_eq_none (by rw[rowsOf_length ic1,HL.out];omega)]
theorem heap_setT {w:World} {b t:Nat} {cs:Array Value} (h:w.heap[b]?=some (.cells cs t (0,0))) (o:Nat) (v:Value):(w.setCell ⟨b,o,none⟩ v).heap[b]?=some (.cells (cs.setIfInBounds o v) t (0,0)):=by
 obtain⟨hlt,hk⟩:=Array.getElem?_eq_some_iff.1 h
 show (w.heap.modify b _)[b]?=_
 rw[Array.getElem?_eq_getElem (by rw[Array.size_modify];exact hlt),Array.getElem_modify_self,hk]
 rfl
theorem fr_setT (w:World) (b o:Nat) (v:Value):Fr (fun k=>k=b) w (w.setCell ⟨b,o,none⟩ v) :=
 ⟨rfl,rfl,rfl,by simp[World.setCell],fun k _ hk=>by
  show (w.heap.modify b _)[k]?=_
  rw[Array.getElem?_modify,if_neg (fun e=>hk e.symm)]⟩
theorem thawT {w:World} {g:Nat} {cs:Array Value} {t:TypeId} (h:w.heap[g]?=some (.cells cs t)):∀ o,w.frozen? ⟨g,o,none⟩=false:=by
 intro o;simp[World.frozen?,h]
def put6T (w:World) (N:Nat) (u0 u1 u2 u3 u4 u5:Value):World:=(((((w.setCell ⟨N,0,none⟩ u0).setCell ⟨N,1,none⟩ u1).setCell ⟨N,2,none⟩ u2).setCell ⟨N,3,none⟩ u3).setCell ⟨N,4,none⟩ u4).setCell ⟨N,5,none⟩ u5
theorem put6T_box {w:World} {N t:Nat} {v0 v1 v2 v3 v4 v5:Value} (h:w.heap[N]?=some (.cells #[v0,v1,v2,v3,v4,v5] t)) (u0 u1 u2 u3 u4 u5:Value):(put6T w N u0 u1 u2 u3 u4 u5).heap[N]?=some (.cells #[u0,u1,u2,u3,u4,u5] t):=by
 simp[put6T,World.setCell,Array.getElem?_modify,h]
theorem put6T_fr (w:World) (N:Nat) (u0 u1 u2 u3 u4 u5:Value):Fr (fun x=>x=N) w (put6T w N u0 u1 u2 u3 u4 u5) :=
 (((((fr_setT _ _ _ _).trans (fr_setT _ _ _ _)).trans (fr_setT _ _ _ _)).trans (fr_setT _ _ _ _)).trans (fr_setT _ _ _ _)).trans (fr_setT _ _ _ _)
theorem alloc3 (w:World) (a b c:Obj):(((w.alloc a).alloc b).alloc c).heap[w.heap.size]?=some a∧(((w.alloc a).alloc b).alloc c).heap[w.heap.size+1]?=some b∧(((w.alloc a).alloc b).alloc c).heap[w.heap.size+1+1]?=some c:=by
 have s1:(w.alloc a).heap.size=w.heap.size+1:=by simp
 have s2:((w.alloc a).alloc b).heap.size=w.heap.size+1+1:=by simp
 have e1:=heap_alloc_new w a
 have e2:=heap_alloc_new (w.alloc a) b
 have e3:=heap_alloc_new ((w.alloc a).alloc b) c
 have k2:=(Below.refl (w.alloc a).heap.size (w.alloc a)).alloc (Nat.le_refl _) b
 have k3:=(Below.refl ((w.alloc a).alloc b).heap.size ((w.alloc a).alloc b)).alloc (Nat.le_refl _) c
 rw[s1] at e2
 rw[s2] at e3
 exact⟨(k3.block _ (by omega)).trans ((k2.block _ (by omega)).trans e1),(k3.block _ (by omega)).trans e2,e3⟩
def RoomL (w:World) (lo:Nat) (a:Option Addr) (n:Nat):Prop:=0<n->∃ b off,a=some ⟨b,off,none⟩∧(lo<=b∧b<w.heap.size)∧∀ i,i<n->(∃ v,w.cell? ⟨b,off+i,none⟩=some v)∧w.frozen? ⟨b,off+i,none⟩=false
theorem RoomL.below {w w':World} {lo:Nat} {a:Option Addr} {n:Nat} (h:RoomL w lo a n) (hb:Below w.heap.size w w'):RoomL w' lo a n:=fun hn=>by
 obtain⟨b,off,e,hl,hc⟩:=h hn
 refine⟨b,off,e,⟨hl.1,Nat.lt_of_lt_of_le hl.2 hb.size⟩,fun i hi=>?_⟩
 obtain⟨⟨v,hv⟩,hf⟩:=hc i hi
 have hk:=hb.block b hl.2
 exact⟨⟨v,(World.cell?_of_block (w:=w) (a:=⟨b,off+i,none⟩) hk).trans hv⟩,by simpa[World.frozen?,hk] using hf⟩
theorem room_set (w:World) (p:Addr) (u:Value) (b o:Nat) (h:∃ v,w.cell? ⟨b,o,none⟩=some v) (hf:w.frozen? ⟨b,o,none⟩=false):(∃ v,(w.setCell p u).cell? ⟨b,o,none⟩=some v)∧(w.setCell p u).frozen? ⟨b,o,none⟩=false:=by
 obtain⟨v,hv⟩:=h
 by_cases hpb:p.block=b
 ·cases hb:w.heap[b]? with
  | none=>simp[World.cell?,hb] at hv
  | some ob =>
   cases ob with
   | cells cs t fz =>
    have hm:(w.setCell p u).heap[b]?=some (.cells (if p.spot.isSome then cs else cs.setIfInBounds p.off u) t fz):=by
     show (w.heap.modify p.block _)[b]?=_
     rw[hpb,Array.getElem?_modify,if_pos rfl,hb]
     rfl
    have ho:o<cs.size:=by
     simp[World.cell?,hb] at hv
     exact (Array.getElem?_eq_some_iff.1 hv).1
    refine⟨?_,by simpa[World.frozen?,hm,hb] using hf⟩
    simp only[World.cell?,hm]
    have hs:o<(if p.spot.isSome then cs else cs.setIfInBounds p.off u).size:=by
     split
     ·exact ho
     ·rw[Array.size_setIfInBounds];exact ho
    have hq:=Array.getElem?_eq_getElem hs
    generalize (if p.spot.isSome then cs else cs.setIfInBounds p.off u)=ds at hs hq ⊢
    exact⟨ds[o],by simp[hq]⟩
   | _=>simp[World.cell?,hb] at hv
 ·have hk:(w.setCell p u).heap[b]?=w.heap[b]?:=by
   show (w.heap.modify p.block _)[b]?=_
   rw[Array.getElem?_modify,if_neg hpb]
  exact⟨⟨v,(World.cell?_of_block (w:=w) (a:=⟨b,o,none⟩) hk).trans hv⟩,by simpa[World.frozen?,hk] using hf⟩
theorem RoomL.set {w:World} {lo:Nat} {a:Option Addr} {n:Nat} (h:RoomL w lo a n) (p:Addr) (u:Value):RoomL (w.setCell p u) lo a n:=fun hn=>by
 obtain⟨b,off,e,hl,hc⟩:=h hn
 exact⟨b,off,e,⟨hl.1,by simpa[World.setCell] using hl.2⟩,fun i hi=>room_set w p u b (off+i) (hc i hi).1 (hc i hi).2⟩
theorem RoomL.lower {w:World} {lo lo':Nat} {a:Option Addr} {n:Nat} (h:RoomL w lo a n) (hl:lo'<=lo):RoomL w lo' a n:=fun hn=>by
 obtain⟨b,off,e,h1,hc⟩:=h hn
 exact⟨b,off,e,⟨by omega,h1.2⟩,hc⟩
theorem room_of_own {w:World} {base e g n c:Nat} {xs:List Value} (h:w.ownsRow base e 1 (.slice (some ⟨g,0,none⟩) n c) n xs):RoomL w base (some ⟨g,0,none⟩) n:=fun hn =>
 ⟨g,0,rfl,h.lt g rfl,fun i hi=>⟨⟨xs[i]'(by have:=h.1;omega),by rw[Nat.zero_add,h.cellAt i (by omega)];exact List.getElem?_eq_getElem _⟩,by rw[Nat.zero_add];exact h.frozenAt i⟩⟩
theorem RoomL.put6 {w:World} {lo:Nat} {a:Option Addr} {n:Nat} (h:RoomL w lo a n) (N:Nat) (u0 u1 u2 u3 u4 u5:Value):RoomL (put6T w N u0 u1 u2 u3 u4 u5) lo a n:=(((((h.set _ u0).set _ u1).set _ u2).set _ u3).set _ u4).set _ u5
structure TSt (w W:World) (N:Nat) (c r o:Array Value):Prop where
 arg:W.heap[N]?=some (.cells c 77)
 res:W.heap[N+1]?=some (.cells r 103)
 out:W.heap[N+1+1]?=some (.cells o 103)
 bel:Below w.heap.size w W
 lt:N+1+1<W.heap.size
theorem TSt.below {w W W':World} {N:Nat} {c r o:Array Value} (h:TSt w W N c r o) (hb:Below W.heap.size W W') (hN:w.heap.size=N):TSt w W' N c r o :=
 ⟨(hb.block _ (by have:=h.lt;omega)).trans h.arg,(hb.block _ (by have:=h.lt;omega)).trans h.res,(hb.block _ h.lt).trans h.out,h.bel.trans (hb.mono (by have:=h.lt;omega)),Nat.lt_of_lt_of_le h.lt hb.size⟩
theorem TSt.set {w W:World} {N:Nat} {c r o:Array Value} (h:TSt w W N c r o) (hN:w.heap.size=N) (i:Nat) (v:Value):TSt w (W.setCell ⟨N+1+1,i,none⟩ v) N c r (o.setIfInBounds i v) :=
 ⟨((fr_setT W (N+1+1) i v).block N (by have:=h.lt;omega) (by omega)).trans h.arg,((fr_setT W (N+1+1) i v).block (N+1) (by have:=h.lt;omega) (by omega)).trans h.res,heap_setT h.out i v,h.bel.trans ((fr_setT W (N+1+1) i v).below (by have:=h.lt;omega) (fun g e=>by omega)),by simpa[World.setCell] using h.lt⟩
theorem toTNode_any (lf:Bool) (pg:Int) (ks vs:List ByteArray) (os ys:List Int) (ka:Option Addr) (kn kc:Nat) (va:Option Addr) (vn vc:Nat) (oa:Option Addr) (on oc:Nat) (ya:Option Addr) (yn yc:Nat) (w:World) (A B:Nat) (hB:B<=w.heap.size)
  (hK:StrsAt w A B ka kn kc ks) (hV:StrsAt w A B va vn vc vs) (hO:IntsAt w A B oa on oc os) (hY:IntsAt w A B ya yn yc ys) (h1:kn<=1048576) (h2:vn<=1048576) (h3:on<=1048576) (h4:yn<=1048576) :
  Calls Tryz.prog 48 #[.agg #[.bool lf,.int .i64 pg,.slice ka kn kc,.slice va vn vc,.slice oa on oc,.slice ya yn yc]] w fun e w'=>∃ k v o y,e=.returned (.agg #[.bool lf,.int .i64 pg,.slice (some ⟨k,0,none⟩) kn kn,.slice (some ⟨v,0,none⟩) vn vn,.slice (some ⟨o,0,none⟩) on on,.slice (some ⟨y,0,none⟩) yn yn]) ∧
   StrsAt w' w.heap.size w'.heap.size (some ⟨k,0,none⟩) kn kn ks∧StrsAt w' w.heap.size w'.heap.size (some ⟨v,0,none⟩) vn vn vs∧IntsAt w' w.heap.size w'.heap.size (some ⟨o,0,none⟩) on on os∧IntsAt w' w.heap.size w'.heap.size (some ⟨y,0,none⟩) yn yn ys∧Below w.heap.size w w'∧(RoomL w' w.heap.size (some ⟨k,0,none⟩) kn∧RoomL w' w.heap.size (some ⟨v,0,none⟩) vn∧RoomL w' w.heap.size (some ⟨o,0,none⟩) on∧RoomL w' w.heap.size (some ⟨y,0,none⟩) yn):=by
 obtain⟨N,hN⟩:∃ N,w.heap.size=N:=⟨_,rfl⟩
 have S0:TSt w (((w.alloc (.cells #[.bool lf,.int .i64 pg,.slice ka kn kc,.slice va vn vc,.slice oa on oc,.slice ya yn yc] 77)).alloc (.cells #[.bool false,.int .i64 0,.slice none 0 0,.slice none 0 0,.slice none 0 0,.slice none 0 0] 103)).alloc (.cells #[.bool lf,.int .i64 pg,.slice none 0 0,.slice none 0 0,.slice none 0 0,.slice none 0 0] 103)) N #[.bool lf,.int .i64 pg,.slice ka kn kc,.slice va vn vc,.slice oa on oc,.slice ya yn yc] #[.bool false,.int .i64 0,.slice none 0 0,.slice none 0 0,.slice none 0 0,.slice none 0 0] #[.bool lf,.int .i64 pg,.slice none 0 0,.slice none 0 0,.slice none 0 0,.slice none 0 0]:=by
  subst hN
  exact⟨(alloc3 w _ _ _).1,(alloc3 w _ _ _).2.1,(alloc3 w _ _ _).2.2,(((Below.refl _ _).alloc (Nat.le_refl _) _).alloc (by simp) _).alloc (by simp;omega) _,by simp⟩
 go_enter Tryz.func48,Tryz.ntmps48
 go_wp2_with fail
 generalize (((w.alloc (.cells #[.bool lf,.int .i64 pg,.slice ka kn kc,.slice va vn vc,.slice oa on oc,.slice ya yn yc] 77)).alloc (.cells #[.bool false,.int .i64 0,.slice none 0 0,.slice none 0 0,.slice none 0 0,.slice none 0 0] 103)).alloc (.cells #[.bool lf,.int .i64 pg,.slice none 0 0,.slice none 0 0,.slice none 0 0,.slice none 0 0] 103))=W0 at S0 ⊢
 refine (toStringS_any _ _ _ ks W0 A B (by have:=S0.bel.size;omega) (hK.below (S0.bel.mono hB)) h1).mono ?_
 rintro e w1 ⟨g1,hg1,rfl,o1,b1⟩
 obtain⟨_,_,e1,r1⟩:=RowsAt.of_owns (fit:=strFit) (d:=ByteArray.empty) sc1 o1 hK.1 hK.2.2.2.1
 cases e1
 have r1':=r1.up (A':=N+3) (B':=w1.heap.size) (by have:=S0.lt;omega) (Nat.le_refl _)
 have m1:=(room_of_own o1).lower (lo':=N) (by have:=S0.lt;omega)
 have S1:=S0.below b1 hN
 clear S0 b1 o1 r1 hK
 have l1:=S1.lt
 obtain⟨x0,x1,x2,x3,x4,x5⟩:=box6 S1.arg
 obtain⟨y0,y1,y2,y3,y4,y5⟩:=box6 S1.out
 have f1:=thawT S1.out
 have S2:=S1.set hN 2 (.slice (some ⟨g1,0,none⟩) kn kn)
 have q1:=r1'.keep ((Keeps.refl _ _ _).set (p:=⟨N+1+1,2,none⟩) (.inl (by simp)) (.slice (some ⟨g1,0,none⟩) kn kn))
 have z1:(w1.setCell ⟨N+1+1,2,none⟩ (.slice (some ⟨g1,0,none⟩) kn kn)).heap.size=w1.heap.size:=by simp[World.setCell]
 have t1:N<w1.heap.size:=by omega
 have m1:=m1.set ⟨N+1+1,2,none⟩ (.slice (some ⟨g1,0,none⟩) kn kn)
 clear S1 r1'
 go_wp2_with fail
 generalize (w1.setCell ⟨N+1+1,2,none⟩ (.slice (some ⟨g1,0,none⟩) kn kn))=W1 at S2 q1 z1 m1 ⊢
 clear x0 x1 x2 x3 x4 x5 y0 y1 y2 y3 y4 y5 f1
 refine (toStringS_any _ _ _ vs W1 A B (by have:=S2.bel.size;omega) (hV.below (S2.bel.mono hB)) h2).mono ?_
 rintro e w2 ⟨g2,hg2,rfl,o2,b2⟩
 obtain⟨_,_,e1,r2⟩:=RowsAt.of_owns (fit:=strFit) (d:=ByteArray.empty) sc1 o2 hV.1 hV.2.2.2.1
 cases e1
 have r2':=r2.up (A':=N+3) (B':=w2.heap.size) (by have:=S2.lt;omega) (Nat.le_refl _)
 have q1':=(q1.below (by rw[<-z1];exact b2)).up (A':=N+3) (B':=w2.heap.size) (Nat.le_refl _) (by rw[<-z1];exact b2.size)
 have m1:=m1.below b2
 have m2:=(room_of_own o2).lower (lo':=N) (by have:=S2.lt;omega)
 have S3:=S2.below b2 hN
 clear S2 b2 o2 r2 hV q1 z1 l1 t1
 have l2:=S3.lt
 obtain⟨x0,x1,x2,x3,x4,x5⟩:=box6 S3.arg
 obtain⟨y0,y1,y2,y3,y4,y5⟩:=box6 S3.out
 have f1:=thawT S3.out
 have S4:=S3.set hN 3 (.slice (some ⟨g2,0,none⟩) vn vn)
 have q1:=q1'.keep ((Keeps.refl _ _ _).set (p:=⟨N+1+1,3,none⟩) (.inl (by simp)) (.slice (some ⟨g2,0,none⟩) vn vn))
 have q2:=r2'.keep ((Keeps.refl _ _ _).set (p:=⟨N+1+1,3,none⟩) (.inl (by simp)) (.slice (some ⟨g2,0,none⟩) vn vn))
 have z2:(w2.setCell ⟨N+1+1,3,none⟩ (.slice (some ⟨g2,0,none⟩) vn vn)).heap.size=w2.heap.size:=by simp[World.setCell]
 have t2:N<w2.heap.size:=by omega
 have m1:=m1.set ⟨N+1+1,3,none⟩ (.slice (some ⟨g2,0,none⟩) vn vn)
 have m2:=m2.set ⟨N+1+1,3,none⟩ (.slice (some ⟨g2,0,none⟩) vn vn)
 clear S3 r2' q1'
 go_wp2_with fail
 generalize (w2.setCell ⟨N+1+1,3,none⟩ (.slice (some ⟨g2,0,none⟩) vn vn))=W2 at S4 q1 q2 z2 m1 m2 ⊢
 clear x0 x1 x2 x3 x4 x5 y0 y1 y2 y3 y4 y5 f1
 refine (toInt64S_any _ _ _ os W2 A B (by have:=S4.bel.size;omega) (hO.below (S4.bel.mono hB)) h3).mono ?_
 rintro e w3 ⟨g3,hg3,rfl,o3,b3⟩
 obtain⟨_,_,e1,r3⟩:=RowsAt.of_owns (fit:=I64) (d:=0) ic1 o3 hO.1 hO.2.2.2.1
 cases e1
 have r3':=r3.up (A':=N+3) (B':=w3.heap.size) (by have:=S4.lt;omega) (Nat.le_refl _)
 have q1':=(q1.below (by rw[<-z2];exact b3)).up (A':=N+3) (B':=w3.heap.size) (Nat.le_refl _) (by rw[<-z2];exact b3.size)
 have q2':=(q2.below (by rw[<-z2];exact b3)).up (A':=N+3) (B':=w3.heap.size) (Nat.le_refl _) (by rw[<-z2];exact b3.size)
 have m1:=m1.below b3
 have m2:=m2.below b3
 have m3:=(room_of_own o3).lower (lo':=N) (by have:=S4.lt;omega)
 have S5:=S4.below b3 hN
 clear S4 b3 o3 r3 hO q1 q2 z2 l2 t2
 have l3:=S5.lt
 obtain⟨x0,x1,x2,x3,x4,x5⟩:=box6 S5.arg
 obtain⟨y0,y1,y2,y3,y4,y5⟩:=box6 S5.out
 have f1:=thawT S5.out
 have S6:=S5.set hN 4 (.slice (some ⟨g3,0,none⟩) on on)
 have q1:=q1'.keep ((Keeps.refl _ _ _).set (p:=⟨N+1+1,4,none⟩) (.inl (by simp)) (.slice (some ⟨g3,0,none⟩) on on))
 have q2:=q2'.keep ((Keeps.refl _ _ _).set (p:=⟨N+1+1,4,none⟩) (.inl (by simp)) (.slice (some ⟨g3,0,none⟩) on on))
 have q3:=r3'.keep ((Keeps.refl _ _ _).set (p:=⟨N+1+1,4,none⟩) (.inl (by simp)) (.slice (some ⟨g3,0,none⟩) on on))
 have z3:(w3.setCell ⟨N+1+1,4,none⟩ (.slice (some ⟨g3,0,none⟩) on on)).heap.size=w3.heap.size:=by simp[World.setCell]
 have t3:N<w3.heap.size:=by omega
 have m1:=m1.set ⟨N+1+1,4,none⟩ (.slice (some ⟨g3,0,none⟩) on on)
 have m2:=m2.set ⟨N+1+1,4,none⟩ (.slice (some ⟨g3,0,none⟩) on on)
 have m3:=m3.set ⟨N+1+1,4,none⟩ (.slice (some ⟨g3,0,none⟩) on on)
 clear S5 r3' q1' q2'
 go_wp2_with fail
 generalize (w3.setCell ⟨N+1+1,4,none⟩ (.slice (some ⟨g3,0,none⟩) on on))=W3 at S6 q1 q2 q3 z3 m1 m2 m3 ⊢
 clear x0 x1 x2 x3 x4 x5 y0 y1 y2 y3 y4 y5 f1
 refine (toInt64S_any _ _ _ ys W3 A B (by have:=S6.bel.size;omega) (hY.below (S6.bel.mono hB)) h4).mono ?_
 rintro e w4 ⟨g4,hg4,rfl,o4,b4⟩
 obtain⟨_,_,e1,r4⟩:=RowsAt.of_owns (fit:=I64) (d:=0) ic1 o4 hY.1 hY.2.2.2.1
 cases e1
 have r4':=r4.up (A':=N+3) (B':=w4.heap.size) (by have:=S6.lt;omega) (Nat.le_refl _)
 have q1':=(q1.below (by rw[<-z3];exact b4)).up (A':=N+3) (B':=w4.heap.size) (Nat.le_refl _) (by rw[<-z3];exact b4.size)
 have q2':=(q2.below (by rw[<-z3];exact b4)).up (A':=N+3) (B':=w4.heap.size) (Nat.le_refl _) (by rw[<-z3];exact b4.size)
 have q3':=(q3.below (by rw[<-z3];exact b4)).up (A':=N+3) (B':=w4.heap.size) (Nat.le_refl _) (by rw[<-z3];exact b4.size)
 have MM:Hid (RoomL w4 N (some ⟨g1,0,none⟩) kn∧RoomL w4 N (some ⟨g2,0,none⟩) vn∧RoomL w4 N (some ⟨g3,0,none⟩) on∧RoomL w4 N (some ⟨g4,0,none⟩) yn):=⟨m1.below b4,m2.below b4,m3.below b4,(room_of_own o4).lower (lo':=N) (by have:=S6.lt;omega)⟩
 clear m1 m2 m3
 have S7:=S6.below b4 hN
 clear S6 b4 o4 r4 hY q1 q2 q3 z3 l3 t3
 have l4:=S7.lt
 have S8:=S7.set hN 5 (.slice (some ⟨g4,0,none⟩) yn yn)
 obtain⟨y0,y1,y2,y3,y4,y5⟩:=box6 S7.out
 obtain⟨v0,v1,v2,v3,v4,v5⟩:=box6 S8.out
 obtain⟨u0,u1,u2,u3,u4,u5⟩:=box6 S8.res
 have f1:=thawT S7.out
 have f2:=thawT S8.res
 have l5:N+1<w4.heap.size:=by omega
 have K:Keeps (N+3) w4.heap.size w4 (put6T (w4.setCell ⟨N+1+1,5,none⟩ (.slice (some ⟨g4,0,none⟩) yn yn)) (N+1) (.bool lf) (.int .i64 pg) (.slice (some ⟨g1,0,none⟩) kn kn) (.slice (some ⟨g2,0,none⟩) vn vn) (.slice (some ⟨g3,0,none⟩) on on) (.slice (some ⟨g4,0,none⟩) yn yn)):=by
  unfold put6T
  iterate 7 refine Keeps.set ?_ (.inl (by simp)) _
  exact Keeps.refl _ _ _
 have hX:=put6T_box S8.res (.bool lf) (.int .i64 pg) (.slice (some ⟨g1,0,none⟩) kn kn) (.slice (some ⟨g2,0,none⟩) vn vn) (.slice (some ⟨g3,0,none⟩) on on) (.slice (some ⟨g4,0,none⟩) yn yn)
 have hFr:=put6T_fr (w4.setCell ⟨N+1+1,5,none⟩ (.slice (some ⟨g4,0,none⟩) yn yn)) (N+1) (.bool lf) (.int .i64 pg) (.slice (some ⟨g1,0,none⟩) kn kn) (.slice (some ⟨g2,0,none⟩) vn vn) (.slice (some ⟨g3,0,none⟩) on on) (.slice (some ⟨g4,0,none⟩) yn yn)
 have hbl:=S8.bel.trans (hFr.below (B:=w.heap.size) (S8.bel.size) (fun g e=>by omega))
 have hsz:(put6T (w4.setCell ⟨N+1+1,5,none⟩ (.slice (some ⟨g4,0,none⟩) yn yn)) (N+1) (.bool lf) (.int .i64 pg) (.slice (some ⟨g1,0,none⟩) kn kn) (.slice (some ⟨g2,0,none⟩) vn vn) (.slice (some ⟨g3,0,none⟩) on on) (.slice (some ⟨g4,0,none⟩) yn yn)).heap.size=w4.heap.size:=by simp[put6T,World.setCell]
 clear S7 S8 hFr
 go_wp2
 show bodyPost _ _ _ _ _ (put6T (w4.setCell ⟨N+1+1,5,none⟩ (.slice (some ⟨g4,0,none⟩) yn yn)) (N+1) (.bool lf) (.int .i64 pg) (.slice (some ⟨g1,0,none⟩) kn kn) (.slice (some ⟨g2,0,none⟩) vn vn) (.slice (some ⟨g3,0,none⟩) on on) (.slice (some ⟨g4,0,none⟩) yn yn))
 obtain⟨p0,p1,p2,p3,p4,p5⟩:=box6 hX
 refine bodyPost_ret (v:=.agg #[.bool lf,.int .i64 pg,.slice (some ⟨g1,0,none⟩) kn kn,.slice (some ⟨g2,0,none⟩) vn vn,.slice (some ⟨g3,0,none⟩) on on,.slice (some ⟨g4,0,none⟩) yn yn]) (by simp[results,Tryz.results48,go_sem,p0,p1,p2,p3,p4,p5]) rfl ⟨g1,g2,g3,g4,rfl,?_,?_,?_,?_,hbl,by rw[hN];exact⟨(MM.out.1.set _ _).put6 _ _ _ _ _ _ _,(MM.out.2.1.set _ _).put6 _ _ _ _ _ _ _,(MM.out.2.2.1.set _ _).put6 _ _ _ _ _ _ _,(MM.out.2.2.2.set _ _).put6 _ _ _ _ _ _ _⟩⟩
 ·rw[hsz];exact (q1'.keep K).up (by omega) (Nat.le_refl _)
 ·rw[hsz];exact (q2'.keep K).up (by omega) (Nat.le_refl _)
 ·rw[hsz];exact (q3'.keep K).up (by omega) (Nat.le_refl _)
 ·rw[hsz];exact (r4'.keep K).up (by omega) (Nat.le_refl _)
end Go.Proofs.YtkhglgalbifcnaaGreat
