import Derived.Test.YtggmghkcdfjdoaaGreatHTks
import Derived.Test.YtggmghkcdfjdoaaGreatHTvl
namespace Go.Proofs.YtggmghkcdfjdoaaGreat
open Go.RowKit Tryz
set_option linter.unusedVariables false
set_option linter.unusedSimpArgs false
set_option maxRecDepth 100000
variable {L c hi lo m n:Nat} {P:Nat->Prop} {Q:Nat->Nat->Prop} {a:Option Addr} {k t:T} {s:ByteArray × ByteArray × Int} {ul:List Value} {w:World} {ys:List T}
theorem gC.one (h:gC w P t L a n c ul Q):∀ d ∈ ul,d.oneCell'=true:=by
 intro d g;obtain⟨b,hi,rfl⟩:=List.mem_iff_getElem.1 g;have l:=h.row.1;have m:=h.len;obtain⟨k,e⟩:∃ k,t.kids[b]?=some k:=⟨_,Eh (by omega)⟩;have f:=h.kid b k (Ew e) e;have i:ul.getD b .nilIface=ul[b]:=by simp[List.getD,hi]
 rw[i] at f;obtain⟨o,p,j⟩:=f.shape;rw[j];rfl
theorem pB {u:Value} (h:GM w P t u) (k:Nat) (f:0<k) (m:k<t.size) (o:t.size<=1000) (g:∀ b,P b->b<w.heap.size):Calls prog 26 #[u,.int .i64 k] w fun i j=>j8 w P t k u i j:=by
 cases d:t.leaf;·obtain⟨L,a,n,c,ul,Q,rfl,e⟩:=h.inner d;have l:t.size=n:=(by rw[e.len];simp[T.size,d]);exact qN e d k f (by omega) (by omega) g e.one
 ·obtain⟨L,a,n,c,rfl,e⟩:=h.leaf d;have l:t.size=n:=(by rw[e.len];simp[T.size,d]);exact tw e d k f (by omega) (by omega) g
theorem GM.size {ty:TypeId} {v:Value} (h:GM w P t (.iface ty v)):xF w ty v "loop.example/s02098/impl.size" (.int .i64 t.size):=by
 cases d:t.leaf;·obtain⟨L,a,n,c,ul,Q,e,b⟩:=h.inner d;cases e;have f:t.size=n:=(by rw[b.len];simp[T.size,d]);refine⟨fun w=>by kernel_rfl,93,.pointer (some ⟨L,0,none⟩),fun w=>by kernel_rfl,fun w=>by kernel_rfl,?_⟩;rw[f];exact nZ b.box
 ·obtain⟨L,a,n,c,e,b⟩:=h.leaf d;cases e;have f:t.size=n:=(by rw[b.len];simp[T.size,d]);refine⟨fun w=>by kernel_rfl,114,.pointer (some ⟨L,0,none⟩),fun w=>by kernel_rfl,fun w=>by kernel_rfl,?_⟩;rw[f];exact oY b.see
def fJ (w w':World) (P:Nat->Prop):Nat->Prop:=fun b=>(P b∨w.heap.size<=b)∧b<w'.heap.size
theorem mL {i:Nat} {z:T} (h:(ys.set m k)[i]?=some z):(i=m∧z=k∧m<ys.length)∨(i≠m∧ys[i]?=some z):=by
 rw[List.getElem?_set] at h;split at h
 ·rename_i a;split at h;·rename_i b;simp at h;exact .inl ⟨a.symm,h.symm,b⟩
  ·cases h
 ·rename_i a;exact .inr ⟨fun c=>a c.symm,h⟩
theorem gC.swap {w':World} (h:gC w P t L a n c ul Q) (f:∀ b,P b->b<w.heap.size) {m:Nat} (C:m<n) {R:Nat->Prop} {k:T} (l:Fr (Q m) w w') (y:GM w' R k (ul.getD m .nilIface)) (p:∀ b,R b->(Q m b∨w.heap.size<=b)∧b<w'.heap.size) :
  gC w' (fJ w w' P) { t with kids:=t.kids.set m k } L a n c ul (fun d b=>if d=m then R b else Q d b):=by
 have D:=l.size;have z:=f L h.at';have A:¬ Q m L:=fun e=>(h.sub m L e).2.1 rfl;refine⟨⟨.inl h.at',by omega⟩,(l.block L z A).trans h.box,am h.row l (fun g i e=>(h.sub m g e).2.2 i),fun g i=>⟨⟨.inl (h.blk g i).1,by have:=f g (h.blk g i).1;omega⟩,(h.blk g i).2⟩,by simpa using h.len,fun d q b hi j=>?_,fun d b hi=>?_,fun d u E hi=>?_⟩
 ·skip;split at hi<;>split at j;·omega
  ·rename_i B r;rcases (p b hi).1 with e | e;·have:=h.dis m q b e j;omega
   ·have:=f b (h.sub q b j).1;omega
  ·rename_i B r;rcases (p b j).1 with e | e;·have:=h.dis d m b hi e;omega
   ·have:=f b (h.sub d b hi).1;omega
  ·exact h.dis d q b hi j
 ·skip;split at hi
  ·have s:=p b hi;rcases s.1 with e | e;·exact⟨⟨.inl (h.sub m b e).1,s.2⟩,(h.sub m b e).2⟩
   ·exact⟨⟨.inr e,s.2⟩,by omega,fun r=>by have:=f b (h.blk b r).1;omega⟩
  ·exact⟨⟨.inl (h.sub d b hi).1,by have:=f b (h.sub d b hi).1;omega⟩,(h.sub d b hi).2⟩
 ·rcases mL hi with ⟨rfl,rfl,_⟩ | ⟨v,x⟩;·simp only[if_true];exact y
  ·simp only[if_neg v];exact GM.keep u (Q d) (Q d) _ (fun b o=>l.block b (f b (h.sub d b o).1) (fun e=>v (h.dis d m b o e))) (fun _ o=>o) (h.kid d u (Ew x) x)
theorem gC.ins {w4:World} {a':Option Addr} {c' j:Nat} (h:gC w P t L a n c ul Q) (r:∀ b,P b->b<w.heap.size) (X:j<=n) {R:Nat->Prop} {k:T} {u:Value} (S:GM w R k u) (y:∀ b,R b->P b) (z:∀ d b,R b->¬ Q d b) (D:¬ R L) (U:∀ f,(Value.slice a n c).ownBlock=some f->¬ R f)
  (E:w4.ownsRow 0 68 1 (.slice a' (n+1) c') (n+1) (ul.take j++[u]++ul.drop j)) (A:w.grownBy w4 (Value.slice a n c).ownBlock) (B:(Value.slice a' (n+1) c').ownBlock=(Value.slice a n c).ownBlock∨∀ f,(Value.slice a' (n+1) c').ownBlock=some f->w.heap.size<=f) :
  gC (w4.setCell ⟨L,1,none⟩ (.slice a' (n+1) c')) (fJ w w4 P) { t with kids:=t.kids.take j++[k]++t.kids.drop j } L a' (n+1) c' (ul.take j++[u]++ul.drop j) (fun d b=>if d<j then Q d b else if d=j then R b else Q (d - 1) b)∧w4.heap[L]?=some (.cells #[.int .i64 t.page,.slice a n c] 83):=by
 have Y:ul.length=n:=by have:=h.row.1;omega
 have Z:=h.len;have V:=r L h.at';have aa:=A.size;have F:=af w4 L 1 (.slice a' (n+1) c');have G:=(A.block L V (fun e=>(h.blk L e.symm).2 rfl)).trans h.box;have H:∀ b,P b->b≠L->(Value.slice a n c).ownBlock≠some b->(w4.setCell ⟨L,1,none⟩ (.slice a' (n+1) c')).heap[b]?=w.heap[b]?:=fun b o s W=>(F.block b (by have:=r b o;omega) s).trans (A.block b (r b o) (fun e=>W e.symm));have I:∀ b,P b->(Value.slice a n c).ownBlock≠some b->(Value.slice a' (n+1) c').ownBlock≠some b:=fun b o s e=>by
  rcases B with g | g;·rw[g] at e;exact s e
  ·have:=g b e;have:=r b o;omega
 have J:∀ f,(Value.slice a' (n+1) c').ownBlock=some f->f≠L:=fun f i e=>by
  rcases B with g | g;·rw[g] at i;exact (h.blk f i).2 e
  ·have:=g f i;omega
 have K:∀ b,R b->(Value.slice a n c).ownBlock≠some b:=fun b l e=>U b e l;refine⟨⟨⟨.inl h.at',by omega⟩,?_,?_,fun f i=>⟨⟨?_,(E.lt f i).2⟩,J f i⟩,?_,fun d v b hi m=>?_,fun d b hi=>?_,fun d q C hi=>?_⟩,G⟩;·simpa using aj G 1 (.slice a' (n+1) c')
 ·exact am E F (fun f i e=>J f i e)
 ·rcases B with g | g;·rw[g] at i;exact .inl (h.blk f i).1
  ·exact .inr (g f i)
 ·simp only[El,Eu,ET,EU,List.length_nil];omega
 ·skip;split at hi<;>split at m;·exact h.dis d v b hi m
  ·split at m;·exact absurd hi (z d b m)
   ·have:=h.dis d (v - 1) b hi m;omega
  ·split at hi;·exact absurd m (z v b hi)
   ·have:=h.dis (d - 1) v b hi m;omega
  ·split at hi<;>split at m;·omega
   ·exact absurd m (z _ b hi)
   ·exact absurd hi (z _ b m)
   ·have:=h.dis (d - 1) (v - 1) b hi m;omega
 ·skip;have M:∀ d,Q d b->fJ w w4 P b∧b≠L∧(Value.slice a' (n+1) c').ownBlock≠some b:=fun d hi=>(by have x:=h.sub d b hi;exact⟨⟨.inl x.1,by have:=r b x.1;omega⟩,x.2.1,I b x.1 x.2.2⟩);split at hi;·exact M d hi
  ·split at hi;·exact⟨⟨.inl (y b hi),by have:=r b (y b hi);omega⟩,fun e=>D (by rw[<-e];exact hi),I b (y b hi) (K b hi)⟩
   ·exact M _ hi
 ·have N:∀ d q,t.kids[d]?=some q->GM (w4.setCell ⟨L,1,none⟩ (.slice a' (n+1) c')) (Q d) q (ul.getD d .nilIface):=fun d q C =>GM.keep q (Q d) (Q d) _ (fun b l=>H b (h.sub d b l).1 (h.sub d b l).2.1 (h.sub d b l).2.2) (fun _ l=>l) (h.kid d q (Ew C) C);dsimp only at hi;rw[EA] at hi;by_cases o:d<j;·rw[EE (by rw[Eu];omega),E9,if_pos o] at hi;have e:(ul.take j++[u]++ul.drop j).getD d .nilIface=ul.getD d .nilIface:=(by simp only[List.getD,EA];rw[EE (by rw[Eu];omega),E9,if_pos o]);rw[e];simp only[if_pos o];exact N d q hi
  ·rw[EB (by rw[Eu];omega),Eu,show min j t.kids.length=j by omega] at hi;by_cases s:d=j;·subst s;simp at hi;subst hi;have e:(ul.take d++[u]++ul.drop d).getD d .nilIface=u:=(by simp only[List.getD,EA];rw[EB (by rw[Eu];omega),Eu,show min d ul.length=d by omega,Nat.sub_self];rfl);rw[e];simp only[Fs,EO,if_true];exact GM.keep k R R u (fun b l=>H b (y b l) (fun e=>D (by rw[<-e];exact l)) (K b l)) (fun _ h=>h) S
   ·obtain⟨p,rfl⟩:∃ p,d=j+1+p:=⟨d - (j+1),by omega⟩;have O:j+1+p - j=p+1:=(by omega);rw[O] at hi;simp only[Fj,ED,List.getElem?_cons_succ,E2] at hi;have e:(ul.take j++[u]++ul.drop j).getD (j+1+p) .nilIface=ul.getD (j+p) .nilIface:=(by simp only[List.getD,EA];rw[EB (by rw[Eu];omega),Eu,show min j ul.length=j by omega,O];simp only[Fj,ED,List.getElem?_cons_succ,E2]);rw[e];simp only[if_neg o,if_neg s,show j+1+p - 1=j+p by omega];exact N (j+p) q hi
theorem gC.see (q:gC w P t L a n c ul Q):eM w P t L a n c (fun b=>ul.getD b .nilIface):=by
 have e:=q.row;refine⟨q.at',q.box,?_,?_,fun b k i hi=>gf.keep (fun _ _=>rfl) (fun j l=>(q.sub b j l).1) k _ (GM.see k (Q b) _ (q.kid b k i hi))⟩
 ·rcases e.2 with ⟨d,m⟩ | ⟨f,o,p,d,r,s,g,h,_⟩;·simp only[Value.slice.injEq] at d;exact⟨q.len,by omega,by omega⟩
  ·simp only[Value.slice.injEq] at d;obtain⟨_,_,rfl⟩:=d;exact⟨q.len,g,h⟩
 ·intro u;rcases e.2 with ⟨d,m⟩ | ⟨f,o,p,d,r,s,g,h,_⟩;·omega
  ·simp only[Value.slice.injEq] at d;obtain⟨rfl,_,rfl⟩:=d;refine⟨f,rfl,(q.blk f rfl).1,fun b hi=>?_⟩;rw[e.cellAt b (by omega)];have v:=e.1;simp[List.getD,show b<ul.length by omega]
theorem gC.below {w':World} (h:gC w P t L a n c ul Q) (f:∀ b,P b->b<w.heap.size) (e:Below w.heap.size w w'):gC w' P t L a n c ul Q :=
 ⟨h.at',(e.block L (f L h.at')).trans h.box,an h.row e,h.blk,h.len,h.dis,h.sub,fun d k g hi=>GM.keep k (Q d) (Q d) _ (fun b i=>e.block b (f b (h.sub d b i).1)) (fun _ h=>h) (h.kid d k g hi)⟩
theorem gC.re {t':T} (h:gC w P t L a n c ul Q) (d:t'.page=t.page) (b:t'.kids=t.kids):gC w P t' L a n c ul Q :=
 ⟨h.at',by rw[d];exact h.box,h.row,h.blk,by rw[b];exact h.len,h.dis,h.sub,fun e k f hi=>h.kid e k (by rw[<-b];exact f) (by rw[<-b];exact hi)⟩
def BV (key val:ByteArray) (k:T):Prop:=∀ (w:World) (P:Nat->Prop) (ty:TypeId) (v:Value),GM w P k (.iface ty v)->(∀ b,P b->b<w.heap.size)->(∀ w,(nilAhead 290 ty v "loop.example/s02098/impl.put").run prog w=.ok (some false) w)∧∃ f r,(∀ w,(method 290 ty v "loop.example/s02098/impl.put").run prog w=.ok (f,r) w)∧(∀ x w,(callFunc f #[r,x]).run prog w=.ok (.enter f #[r,x]) w)∧Calls prog f #[r,.agg #[.string key,.string val,.int .i64 0]] w fun e w'=>jK w P (aW key val k) (.iface ty v) e w'
theorem mM (h:m<ys.length):ys.set m k=ys.take m++[k]++ys.drop (m+1):=by
 rw[List.set_eq_take_append_cons_drop,if_pos h];simp
theorem Ai {x k1 k2:T} (h:m<ys.length):((ys.set m x).set m k1).take (m+1)++[k2]++((ys.set m x).set m k1).drop (m+1)=ys.take m++[k1,k2]++ys.drop (m+1):=by
 rw[List.set_set,mM h];have a:(ys.take m++[k1]++ys.drop (m+1)).take (m+1)=ys.take m++[k1]:=by rw[EM (by simp;omega),Ey (by simp;omega)]
 have b:(ys.take m++[k1]++ys.drop (m+1)).drop (m+1)=ys.drop (m+1):=by rw[Fh (by simp;omega),List.drop_of_length_le (by simp;omega),ED]
 rw[a,b];simp
theorem gC.set0 {e i:World} (h:gC w P t L a n c ul Q) (j:∀ b,P b->b<w.heap.size) (l:Below w.heap.size w e) (m:i=e.setCell ⟨L,0,none⟩ (.int .i64 0)):gC i P { t with page:=0 } L a n c ul Q:=by
 have f:=h.below j l;have g:=af e L 0 (.int .i64 0);rw[<-m] at g;have u:=l.size;refine⟨h.at',by rw[m];simpa using aj f.box 0 (.int .i64 0),am f.row g (fun p q r=>(h.blk p q).2 r),h.blk,h.len,h.dis,h.sub,fun d k s hi=>GM.keep k (Q d) (Q d) _ (fun b o=>g.block b (by have:=j b (h.sub d b o).1;omega) (h.sub d b o).2.1) (fun _ h=>h) (f.kid d k s hi)⟩
theorem gW (h:gC w P t L a n c ul Q) (i:m<n):∃ b d e,a=some ⟨b,0,none⟩∧ul.getD m .nilIface=.iface d e∧w.cell? ⟨b,m,none⟩=some (.iface d e):=by
 have o:=h.len;obtain⟨k,f⟩:∃ k,t.kids[m]?=some k:=⟨_,Eh (by omega)⟩;obtain⟨d,e,g⟩:=(h.kid m k (Ew f) f).shape;obtain⟨b,j,_,l⟩:=h.see.row (by omega);exact⟨b,d,e,j,g,(l m i).trans (by rw[g])⟩
set_option maxHeartbeats 4000000 in
theorem tC (h:gC w P t L a n c ul Q) (aS:t.leaf=false) (br:0<n) (bY:n<=4) (aw:∀ i,P i->i<w.heap.size) (key val:ByteArray) (aT:∀ k ∈ t.kids,k.nodes<=100000∧k.good false=true∧0<=k.ht) (aU:∀ k ∈ t.kids,(aW key val k).size<=5) (aV:∀ k ∈ t.kids,(∃ v,ew t key v∧t.kids[v]?=some k)->BV key val k) :
  Calls prog 92 #[.pointer (some ⟨L,0,none⟩),.agg #[.string key,.string val,.int .i64 0]] w fun b bs=>jK w P (aW key val t) (.iface 77 (.pointer (some ⟨L,0,none⟩))) b bs:=by
 obtain⟨G,H⟩:=Zn w.heap.size;have bZ:L<G:=by have:=aw L h.at';omega
 have aX:=hidI aV;have aY:=hidI aT;have aZ:=hidI aU;have a0:=hidI aS;have a1:=h.at';have ae:=Zb w (.cells #[.string key,.string val,.int .i64 0] 75);have ax:=Ej w (.cells #[.string key,.string val,.int .i64 0] 75);have b0:(w.alloc (.cells #[.string key,.string val,.int .i64 0] 75)).heap.size=G+1:=by simp[H]
 rw[H] at ax;have a2:=hidI h;have a3:=(ae.block L (by omega)).trans h.box;have a4:=gu a3;clear h aV aT aU aS;go_enter func92,ntmps92;go_upto_region 1 with fail
 generalize w.alloc (.cells #[.string key,.string val,.int .i64 0] 75)=bt at *;go_wp2_with fail
 refine a4.mono ?_;rintro b ay ⟨rfl,az⟩;have N:=af bt L 0 (.int .i64 0);rw[<-az] at N;have ag:=a2.out.set0 aw ae az;have a5:=(N.block G (by omega) (by omega)).trans ax;have b1:=N.size;have a6:Fr (fun i=>P i∨G<=i) w ay:=(Fr.of_below ae).trans (N.weak (fun p b=>.inl (by rw[b];exact a1)));have aA:∀ i,P i->i<ay.heap.size:=fun i bu=>by have:=aw i bu;omega
 have a7:=lJ ag.see br (by omega) (fun v k hi=>by have a8:t.kids[v]?=some k:=hi;have y:=Ew a8;have z:=ag.kid v k y a8;obtain⟨O,S,b⟩:=z.shape;rw[b] at z;obtain⟨bv,ah,bw⟩:=aY.out k y;have bx:0<k.size:=(by rw[T.good_eq] at ah;simp only[Em,Es] at ah;have:=ah.1.1.1.1.1;simp at this;omega);exact⟨O,S,b,(gf.obj k O S bv ⟨false,ah⟩ bw (GM.see _ _ _ z)).least bx⟩) key;obtain⟨bz,q1,q2⟩:=gU a5;have b2:G<ay.heap.size:=by omega
 have A:Hid _:=ag;clear a4 az N a3 ax ae ag;go_wp2_with fail
 refine a7.mono ?_;rintro b B ⟨m,rfl,a9,rfl⟩;have U:ew t key m:=a9;have aB:=hidI (wH U);have ba:=a2.out.len;have aC:m<n:=by have:=U.1;omega
 obtain⟨k,V⟩:∃ k,t.kids[m]?=some k:=⟨_,Eh U.1⟩;have y:=Ew V;obtain⟨i,O,S,rfl,aD,bb⟩:=gW A.out aC;have z:=A.out.kid m k y V;rw[aD] at z;obtain⟨bA,b3,b4,bB,bc,bd⟩:=aX.out k y ⟨m,U,V⟩ B (Q m) O S z (fun d e=>aA d (A.out.sub m d e).1);have bC:=bc (.agg #[.string key,.string val,.int .i64 0]);obtain⟨bD,bE⟩:=au A.out.box;have b5:L<B.heap.size:=by omega
 have b6:=aO bb;have be:=aZ.out k y;have ai:Hid (aW key val t=⟨false,0,[],[],[],t.kids.take m++cR (aW key val k)++t.kids.drop (m+1)⟩):=by show _=_;have:=dw (key:=key) (val:=val) a0.out (k:=k) (by rw[aB.out];exact V);rw[aB.out] at this;exact this
 have bf:=hidI aD;have bg:=hidI ba;clear a7 a9 U V y z bc aX aY aZ aB a0 aD ba;generalize aW key val k=o at *;go_wp2_with fail
 refine bd.mono ?_;rintro b aE ⟨rfl,⟨aj,W,ak⟩,X⟩;have b7:=X.size;have bh:=A.out.swap aA aC X (by rw[bf.out];exact W) ak;have al:=a6.trans (X.weak (fun p b=>.inl (A.out.sub m p b).1));have aF:∀ d,fJ B aE P d->d<aE.heap.size:=fun d e=>e.2;obtain⟨bi,b8,b9,bj,bk,am⟩:=W.size;have aG:Hid _:=bh;have bF:=be;have bG:Hid (∃ s,o.size=s):=⟨_,rfl⟩;obtain⟨s,aH⟩:=bG.out;have an:=hidI aH;rw[aH] at am bF;have Y:∀ d,fJ B aE P d->P d∨G<=d:=fun d e=>by
  rcases e.1 with b | b;·exact .inl b
  ·exact .inr (by omega)
 clear bd bD bE bz q1 q2 bb a5 bh aH be bA bB bC aA;go_wp2_with fail
 refine am.mono ?_;rintro b q ⟨rfl,rfl⟩;by_cases bH:s<=4
 ·have bI:¬ ((4:Int)<(s:Int)):=(by omega);have I:Hid (jK w P (aW key val t) (.iface 77 (.pointer (some ⟨L,0,none⟩))) (.returned (.tuple #[])) q):=(by refine⟨rfl,⟨fJ B q P,?_,fun d e=>⟨by rw[H];exact Y d e,e.2⟩⟩,eV (by rw[H];exact al)⟩;rw[ai.out];refine gC.is (t:=⟨false,0,[],[],[],_⟩) (aG.out.re rfl ?_) rfl;show _=t.kids.set m o;have aI:cR o=[o]:=(by unfold cR;rw[if_pos (by rw[an.out];exact bH)]);rw[aI,mM (by have:=bg.out;omega)]);clear am bj bi bk al ak W X;go_wp2_with fail
  go_end0
  exact⟨rfl,I.out.2⟩
 ·have bI:(4:Int)<(s:Int):=(by omega);have bl:=W.drew;have ao:=pB bl 3 (by omega) (by rw[an.out];omega) (by rw[an.out];omega) (fun d e=>(ak d e).2);have aJ:Hid _:=aG.out.below aF ((Ev _ q).drew);have bm:=aJ.out.box;have b':IntKind.i64.wrap ((m:Int)+1)=(m:Int)+1:=(by rw[Fa];omega);have bn:=al.trans (Fr.of_below ((Ev _ q).drew));have I:Hid (∀ b g,j8 q.drew aj o 3 (.iface O S) b g->∃ r u,b=.returned (.iface r u)∧g.heap[L]?=some (.cells #[.int .i64 0,.slice (some ⟨i,0,none⟩) n c] 83)∧(g.alloc (.cells #[.iface r u] 68)).heap[L]?=some (.cells #[.int .i64 0,.slice (some ⟨i,0,none⟩) n c] 83)∧Calls prog 100 #[.slice (some ⟨i,0,none⟩) n c,.int .i64 ((m:Int)+1),.slice (some ⟨g.heap.size,0,none⟩) 1 1] (g.alloc (.cells #[.iface r u] 68)) fun b Z=>∃ C D,b=.returned (.slice C (n+1) D)∧Z.heap[L]?=some (.cells #[.int .i64 0,.slice (some ⟨i,0,none⟩) n c] 83)∧jK w P (aW key val t) (.iface 77 (.pointer (some ⟨L,0,none⟩))) (.returned (.tuple #[])) (Z.setCell ⟨L,1,none⟩ (.slice C (n+1) D))):=by
   rintro b g ⟨ca,rfl,⟨bJ,aK,bK,bo,bL,J⟩,aL⟩;obtain⟨r,u,rfl⟩:=bo.shape;have cb:q.heap.size<=g.heap.size:=aL.size;have cc:q.drew.heap.size=q.heap.size:=rfl;have K:=aJ.out;have bM:(fun d=>if m=m then aj d else Q m d)=aj:=(by funext d;simp);have bp:=K.swap (fun d e=>e.2) (m:=m) aC (R:=bJ) (k:=o.fore 3) (by rw[bM];exact aL) (by rw[bf.out];exact bK) (fun d e=>by have:=J d (.inl e);simpa using this);have aM:Below g.heap.size g (g.alloc (.cells #[.iface r u] 68)):=Zb _ _;have M:=bp.below (fun d e=>e.2) aM;have bN:=Ej g (.cells #[.iface r u] 68);have cd:(g.alloc (.cells #[.iface r u] 68)).heap.size=g.heap.size+1:=(by simp);have bO:=GM.keep _ aK aK _ (fun d e=>aM.block d (J d (.inr e)).2) (fun _ h=>h) bo;have ap:∀ d,aj d->fJ B q P d∧d≠L∧(Value.slice (some ⟨i,0,none⟩) n c).ownBlock≠some d:=fun d e=>(by have:=K.sub m d (by rw[if_pos rfl];exact e);exact this);have ce:L<q.heap.size:=(by have:=aF L K.at';omega);refine⟨r,u,rfl,bp.box,M.box,?_⟩;have aa:=pq (m+1) n c g.heap.size (some ⟨i,0,none⟩) ul [.iface r u] _ M.row (by omega) (by omega) rfl bN (fun b=>by have:=(M.blk _ b).1.2;omega) (by simp[Value.oneCell']) M.one;refine aa.mono ?_;rintro b Z ⟨C,D,rfl,bP,aN,bQ⟩;have cf:=aN.size;have bR:∀ d,aK d->fJ q.drew g (fJ B q P) d:=fun d e=>by
    have aP:=J d (.inr e);rcases aP.1 with b | b;·exact⟨.inl (ap d b).1,aP.2⟩
    ·exact⟨.inr b,aP.2⟩
   obtain⟨bS,bT⟩:=M.ins (j:=m+1) (a':=C) (c':=D) (fun d e=>by have:=e.2;omega) (by omega) bO bR (fun v d e ab=>by
    by_cases hi:v=m;·simp only[if_pos hi] at ab;exact bL d ab e
    ·simp only[if_neg hi] at ab;rcases (J d (.inr e)).1 with b | b;·exact hi (K.dis v m d (by simp only[if_neg hi];exact ab) (by rw[if_pos rfl];exact b))
     ·have:=(K.sub v d (by simp only[if_neg hi];exact ab)).1.2;omega) (fun e=>by
     rcases (J L (.inr e)).1 with b | b;·exact (ap L b).2.1 rfl
     ·omega) (fun p aq e=>by
     rcases (J p (.inr e)).1 with b | b;·exact (ap p b).2.2 aq
     ·have:=(K.blk p aq).1.2;omega) bP aN bQ
   refine⟨C,D,rfl,bT,rfl,⟨_,gC.is (bS.re (t':=aW key val t) (by rw[ai.out]) ?_) (by rw[ai.out]),fun d e=>?_⟩,?_⟩;·rw[ai.out];show t.kids.take m++cR o++t.kids.drop (m+1)=((t.kids.set m o).set m (o.fore 3)).take (m+1)++[o.rest 3]++((t.kids.set m o).set m (o.fore 3)).drop (m+1);have aI:cR o=[o.fore 3,o.rest 3]:=(by unfold cR;rw[if_neg (by rw[an.out];omega)]);rw[aI,Ai (by have:=bg.out;omega)]
   ·have bU:=e.2;refine⟨?_,by simpa[World.setCell] using bU⟩;rw[H];rcases e.1 with b | b
    ·rcases b.1 with b | b;·exact Y d b
     ·exact .inr (by omega)
    ·exact .inr (by omega)
   ·refine eV ?_;rw[H];have bV:=af Z L 1 (.slice C (n+1) D);refine (((bn.trans (aL.weak (fun p b=>Y p (ap p b).1))).trans (Fr.of_below aM)).trans (Fr.of_grown aN (fun p aq=>?_))).trans (bV.weak (fun p b=>.inl (by rw[b];exact a1)));rcases (M.blk p aq).1.1 with b | b;·exact Y p b
    ·exact .inr (by omega)
  have cg:L<q.heap.size:=(by have:=aJ.out.at';exact this.2);clear am bj bi bk al ak W X bn bl aG aF Y A a6;go_upto_region 6 with fail
  refine Zg (fun _:World=>True) (trivial) (fun x=>?_);refine Zx .a0 ?_;refine Zx .a1 ?_;refine Zx .a2 ?_;refine Zx .a3 ?_;try simp only[Zq]
  refine Zx .a5 ?_;refine Zx .a6 ?_;refine Zx .a7 ?_;try simp only[Zq]
  refine Zr [4,8] ?_;refine rdA .a4 (fun l f=>?_) ?_;rotate_left 1;refine rdA .a8 (fun l f=>?_) ?_;rotate_left 1;exact Ei
  focus
    obtain⟨E,F⟩:=au bm;have ac:=Za (bm);go_simp;clear E F ac;refine f.out _ _ (trivial) (fun x=>?_);clear f l;(try simp only[Zq]);refine Zr [8] ?_;refine rdA .a8 (fun l f=>?_) Ei;go_simp;refine ao.mono ?_;intro b g ad;obtain⟨r,u,rfl,aQ,aR,aa⟩:=I.out b g ad;clear ad I ao;(go_wp2_with fail);refine f.out _ _ (trivial) (fun x=>?_);clear f l;(try simp only[Zq]);refine Zr [9] ?_;refine rdA .a9 (fun l f=>?_) Ei;go_simp
  rotate_left
  focus
    go_simp;refine ao.mono ?_;intro b g ad;obtain⟨r,u,rfl,aQ,aR,aa⟩:=I.out b g ad;clear ad I ao;(go_wp2_with fail);refine f.out _ _ (trivial) (fun x=>?_);clear f l;(try simp only[Zq]);refine Zr [4,9] ?_;refine rdA .a4 (fun l f=>?_) ?_;rotate_left 1;refine rdA .a9 (fun l f=>?_) ?_;rotate_left 1;exact Ei
  focus
    obtain⟨E,F⟩:=au aQ;have ac:=Za (aQ);go_simp;clear E F ac;refine f.out _ _ (trivial) (fun x=>?_);clear f l;(try simp only[Zq]);refine Zr [9] ?_;refine rdA .a9 (fun l f=>?_) Ei;go_simp
  rotate_left
  focus
    go_simp;refine f.out _ _ (trivial) (fun x=>?_);clear f l;(try simp only[Zq]);refine Zr [4] ?_;refine rdA .a4 (fun l f=>?_) Ei;obtain⟨E,F⟩:=au aR;have ac:=Za (aR);go_simp;clear E F ac
  rotate_left
  all_goals
    refine f.out _ _ (trivial) (fun x=>?_);clear f l;(try simp only[Zq]);refine Zr [10] ?_;refine rdA (.t .a0) (fun l f=>?_) Ei;go_simp;refine aa.mono ?_;rintro b Z ⟨C,D,rfl,av,bq⟩;have bW:Hid _:=bq.2;clear bq aa;(go_wp2_with fail);refine f.out _ _ (trivial) (fun x=>?_);clear f l;refine Zx (.t .a1) ?_;refine Zx (.t .a2) ?_;(try simp only[Zq]);refine Zr [13] ?_;refine rdA (.t .a3) (fun l f=>?_) Ei;obtain⟨E,F⟩:=au av;have bX:=ar av;have ch:=Za av;go_simp;clear E F bX;refine f.out _ _ (trivial) (fun x=>?_);clear f l;(try simp only[Zq]);refine Zd ?_;clear x av;(go_wp2_with fail);go_end0
    exact⟨rfl,bW.out⟩
structure iU (t:T) (lo hi:Nat):Prop where
 page:t.page=0
 size:lo<=t.size∧t.size<=hi
 leaf:t.leaf=true->t.vals.length=t.keys.length∧t.over.length=t.keys.length∧(∀ x ∈ t.vals.zip t.over,aU 0 x.1 x.2=true)∧t.kids=[]
 kids:∀ k ∈ t.kids,k.good false=true∧cg k
theorem aF {r:Bool} (h:t.good r=true):((if r && t.leaf then 0 else 2)<=t.size∧t.size<=4)∧(t.leaf=true->t.vals.length=t.keys.length∧t.over.length=t.keys.length∧∀ b ∈ t.vals.zip t.over,aU t.page b.1 b.2=true)∧∀ k ∈ t.kids,k.good false=true:=by
 have c:=h;rw[T.good_eq] at h;simp only[Em,Es] at h;refine⟨by simpa using h.1.1.1.1,fun d=>?_,fun k e=>dX c e⟩;have a:=h.1.1.2;rw[d] at a;simp only[Fg,E8,Em,Es,Ez] at a;exact⟨a.1.1,a.1.2,a.2⟩
theorem iU.good (h:iU t lo hi) (r:Bool) (e:(if r && t.leaf then 0 else 2)<=t.size) (f:t.size<=4):t.good r=true:=by
 rw[T.good_eq];have a:=h.page;simp only[Em,Es];refine⟨⟨⟨⟨⟨by simpa using e,f⟩,by simp[a]⟩,?_⟩,?_⟩,?_⟩
 ·cases g:t.leaf;·rfl
  ·obtain⟨i,j,l,_⟩:=h.leaf g;simp only[Fg,E8,Em,Es,Ez];exact⟨⟨i,j⟩,fun c b=>by rw[a];exact l c b⟩
 ·rw[Ez];intro c b;obtain⟨k,d,rfl⟩:=EY.1 b;exact (h.kids k d).1
 ·rw[Ez];intro k d;simp[a]
theorem iU.shape (h:iU t lo hi):cg t:=by
 rw[bj];exact⟨fun a=>(h.leaf a).2.2.2,fun k b=>(h.kids k b).2⟩
theorem jg {p:Int} {v:ByteArray} {o:Int} (h:aU p v o=true):aU 0 v o=true:=by
 unfold aU at h ⊢;simp only[Em] at h ⊢;exact⟨h.1,by simp⟩
theorem uX:∀ (a:List (ByteArray × ByteArray × Int)),(a.map (fun s=>s.2.1)).zip (a.map (fun s=>s.2.2))=a.map (fun s=>s.2)
 | []=>rfl
 | s::r=>by simp[uX r]
theorem pC {zs:List (ByteArray × ByteArray × Int)} (h:lo<=zs.length∧zs.length<=hi) (b:∀ s ∈ zs,aU 0 s.2.1 s.2.2=true):iU (cw zs) lo hi:=by
 refine⟨rfl,by simpa[cw,T.size] using h,fun _=>⟨by simp[cw],by simp[cw],fun f a=>?_,rfl⟩,fun k c=>by simp[cw] at c⟩;have d:(cw zs).vals.zip (cw zs).over=zs.map (fun s=>s.2):=uX zs;rw[d] at a;obtain⟨s,e,rfl⟩:=EY.1 a;exact b s e
theorem xP {a:List ByteArray} {b:List ByteArray} {c:List Int} (h:s ∈ a.zip (b.zip c)):s.2 ∈ b.zip c:=by
 obtain⟨d,e⟩:=s;exact (List.of_mem_zip h).2
theorem uY (h:iU t lo 5) (o:lo<=2):∀ d ∈ cR t,iU d lo 4:=by
 intro d a;unfold cR at a;split at a;·rename_i g;simp at a;subst a;exact⟨h.page,⟨h.size.1,g⟩,h.leaf,h.kids⟩
 ·rename_i g;have i:t.size=5:=(by have:=h.size.2;omega);simp only[EL,Fy,or_false] at a;cases b:t.leaf
  ·have e:t.kids.length=5:=(by simpa[T.size,b] using i);rcases a with rfl | rfl;·exact⟨rfl,by simp[T.size,T.fore,b,e];omega,fun f=>by simp[T.fore,b] at f,fun k c=>h.kids k (EI c)⟩
   ·exact⟨rfl,by simp[T.size,T.rest,b,e];omega,fun f=>by simp[T.rest,b] at f,fun k c=>h.kids k (EF c)⟩
  ·have e:t.keys.length=5:=(by simpa[T.size,b] using i);obtain⟨j,l,m,n⟩:=h.leaf b;rcases a with rfl | rfl;·refine⟨rfl,by simp[T.size,T.fore,b,e];omega,fun _=>⟨by simp[T.fore,j],by simp[T.fore,l],fun d a=>m d ?_,by simp[T.fore,n]⟩,fun k c=>h.kids k (EI c)⟩;simp only[T.fore,List.zip,<-List.take_zipWith] at a;exact EI a
   ·refine⟨rfl,by simp[T.size,T.rest,b,e];omega,fun _=>⟨by simp[T.rest,j],by simp[T.rest,l],fun d a=>m d ?_,by simp[T.rest,n]⟩,fun k c=>h.kids k (EF c)⟩;simp only[T.rest,List.zip,<-List.drop_zipWith] at a;exact EF a
theorem jh (t:T):1<=(cR t).length∧(cR t).length<=2:=by
 unfold cR;split<;>simp
theorem iV (key val:ByteArray) (n:val.size<=400):∀ (t:T) (d:Bool),t.good d=true->cg t->iU (aW key val t) (if d && t.leaf then 0 else 2) 5:=by
 intro t
 induction t using T.ind with
 |h t o=>
  intro d p e;rw[bj] at e;obtain⟨f,q,g⟩:=aF p;cases b:t.leaf
  ·have r:t.size=t.kids.length:=(by simp[T.size,b]);have j:0<t.kids.length:=(by simp[b] at f;omega);obtain⟨k,u,i⟩:=fA (key:=key) (ys:=t.kids) j;rw[dw b u];have l:=o k i false (g k i) (e.2 k i);simp only[Bool.false_and,EC,EO] at l;have m:=wI (key:=key) t.kids j;have B:=jh (aW key val k);refine⟨rfl,?_,fun v=>by simp at v,fun c a=>?_⟩;·simp[T.size,b] at f ⊢;omega
   ·rcases EG.1 a with a | a
    ·rcases EG.1 a with a | a;·exact⟨g c (EI a),e.2 c (EI a)⟩
     ·have:=uY l (Ek _) c a;exact⟨this.good false (by simpa using this.size.1) this.size.2,this.shape⟩
    ·exact⟨g c (EF a),e.2 c (EF a)⟩
  ·rw[ed b];obtain⟨w,x,y⟩:=q b;have z:(t.keys.zip (t.vals.zip t.over)).length=t.keys.length:=(by simp[w,x]);have r:t.size=t.keys.length:=(by simp[T.size,b]);refine pC ?_ (fun s A=>?_);·rw[pt,z];rw[b] at f;generalize (if (d && true)=true then 0 else 2)=lo at *;split<;>omega
   ·rcases uT A with rfl | m;·unfold aU;simp[n]
    ·exact jg (y _ (xP m))
theorem uZ {key val:ByteArray} (a:val.size<=400) {k:T} (b:k.good false=true) (c:cg k):(aW key val k).size<=5:=(iV key val a k false b c).size.2
theorem yO (key val:ByteArray) (r:val.size<=400):∀ (t:T) (i:Bool),t.nodes<=100000->t.good i=true->0<=t.ht->cg t->bl t.slots->BV key val t:=by
 intro t
 induction t using T.ind with
 |h t s=>
  intro i E m u f j w P F G o p;have H:=f;rw[bj] at f;obtain⟨v,I,l⟩:=aF m;cases d:t.leaf;·obtain⟨L,a,n,c,ul,Q,g,e⟩:=o.inner d;cases g;have x:t.size=n:=(by rw[e.len];simp[T.size,d]);have y:2<=n∧n<=4:=(by simp[d] at v;omega);obtain⟨J,K,z⟩:∃ k A,t.kids=k::A:=EX (by intro g;have:=e.len;rw[g] at this;simp at this;omega);obtain⟨M,q⟩:=oZ d z u;refine⟨fun w=>by kernel_rfl,92,.pointer (some ⟨L,0,none⟩),fun w=>by kernel_rfl,fun B w=>by kernel_rfl,?_⟩;exact tC e d (by omega) y.2 p key val (fun k b=>⟨by have:=el b;omega,l k b,(q k b).1⟩) (fun k b=>uZ r (l k b) (f.2 k b)) (fun k b ⟨N,hi,C⟩=>s k b false (by have:=el b;omega) (l k b) (q k b).1 (f.2 k b) (fh d ⟨i,m⟩ j hi C).2)
  ·obtain⟨L,a,n,c,g,e⟩:=o.leaf d;cases g;have x:t.size=n:=(by rw[e.len];simp[T.size,d]);have D:t.slots=t.keys.zip (t.vals.zip t.over):=(by rw[T.slots_eq,if_pos d,f.1 d];simp);rw[D] at j;refine⟨fun w=>by kernel_rfl,113,.pointer (some ⟨L,0,none⟩),fun w=>by kernel_rfl,fun B w=>by kernel_rfl,?_⟩;rw[ed d];exact uU e j (by omega) p key val
theorem rF (t:T):((cR t).map T.nodes).sum<=t.nodes+1:=by
 unfold cR;split;·simp
 ·simp only[Ex,E6,Ff,List.sum_nil,T.nodes_eq];have a:(t.kids.map T.nodes).sum=((t.kids.take 3).map T.nodes).sum+((t.kids.drop 3).map T.nodes).sum:=(by rw[<-List.sum_append,<-E5,EV]);simp only[T.fore,T.rest];omega
theorem yP (key val:ByteArray):∀ (t:T) (d:Bool),t.good d=true->cg t->(aW key val t).nodes+1<=2*t.nodes:=by
 intro t
 induction t using T.ind with
 |h t i=>
  intro d j e;rw[bj] at e;obtain⟨l,s,n⟩:=aF j;cases a:t.leaf
  ·have f:0<t.kids.length:=(by simp[a,T.size] at l;omega);obtain⟨k,b,c⟩:=fA (key:=key) (ys:=t.kids) f;rw[dw a b,T.nodes_eq,T.nodes_eq t];have u:=i k c false (n k c) (e.2 k c);have v:=rF (aW key val k);have g:=wI (key:=key) t.kids f;generalize ci key t.kids=m at *;have w:(t.kids.map T.nodes).sum=((t.kids.take m).map T.nodes).sum+k.nodes+((t.kids.drop (m+1)).map T.nodes).sum:=by
    have o:t.kids=t.kids.take m++(k::t.kids.drop (m+1)):=by
     have p:t.kids.drop m=k::t.kids.drop (m+1):=by
      rw[List.drop_eq_getElem_cons g]
      congr 1
      rw[Eh g] at b;simpa using b
     rw[<-p,EV]
    have q:=congrArg (fun r=>(r.map T.nodes).sum) o;simp only[E5,Ex,List.sum_append,Ff] at q;omega
   simp only[E5,List.sum_append];omega
  ·rw[ed a];have:(cw (ej key val (t.keys.zip (t.vals.zip t.over)))).nodes=1:=(by rw[T.nodes_eq];rfl);rw[this,T.nodes_eq t];omega
theorem iW (h:s ∈ t.slots):(t.leaf=true∧s ∈ t.keys.zip (t.vals.zip t.over))∨∃ k ∈ t.kids,s ∈ k.slots:=by
 rw[T.slots_eq] at h;rcases EG.1 h with h | h
 ·split at h;·rename_i a;exact .inl ⟨a,h⟩
  ·cases h
 ·obtain⟨d,a,b⟩:=List.mem_flatten.1 h;obtain⟨k,c,rfl⟩:=EY.1 a;exact .inr ⟨k,c,b⟩
theorem iX (a:k ∈ t.kids) (b:s ∈ k.slots):s ∈ t.slots:=by
 rw[T.slots_eq];exact List.mem_append_right _ (List.mem_flatten.2 ⟨k.slots,EY.2 ⟨k,a,rfl⟩,b⟩)
theorem lT (a:t.leaf=true) (b:s ∈ t.keys.zip (t.vals.zip t.over)):s ∈ t.slots:=by
 rw[T.slots_eq,if_pos a];exact List.mem_append_left _ b
theorem rG {x:T} (b:x ∈ cR t) (d:s ∈ x.slots):s ∈ t.slots:=by
 unfold cR at b;split at b;·simp at b;subst b;exact d
 ·simp only[EL,Fy,or_false] at b;rcases b with rfl | rfl
  ·rcases iW d with ⟨c,a⟩ | ⟨k,e,a⟩;·simp only[T.fore] at a c;rw[rB] at a;exact lT c (EI a)
   ·exact iX (EI e) a
  ·rcases iW d with ⟨c,a⟩ | ⟨k,e,a⟩;·simp only[T.rest] at a c;rw[rC] at a;exact lT c (EF a)
   ·exact iX (EF e) a
theorem yQ (key val:ByteArray):∀ (t:T),(t.leaf=false->0<t.kids.length)->(∀ k ∈ t.kids,k.good false=true)->∀ s ∈ (aW key val t).slots,s=(key,val,0)∨s ∈ t.slots:=by
 intro t
 induction t using T.ind with
 |h t j=>
  intro l m s c;cases d:t.leaf
  ·obtain⟨k,n,e⟩:=fA (key:=key) (ys:=t.kids) (l d);rw[dw d n] at c;rcases iW c with ⟨a,_⟩ | ⟨o,b,f⟩;·simp at a
   ·rcases EG.1 b with b | b
    ·rcases EG.1 b with b | b;·exact .inr (iX (EI b) f)
     ·have g:=aF (m k e);rcases j k e (fun a=>by simp[T.size,a] at g;omega) g.2.2 s (rG b f) with a | a;·exact .inl a
      ·exact .inr (iX e a)
    ·exact .inr (iX (EF b) f)
  ·rw[ed d] at c;rcases iW c with ⟨_,i⟩ | ⟨o,b,_⟩
   ·rw[rx] at i;rcases uT i with a | a;·exact .inl a
    ·exact .inr (lT d a)
   ·simp[cw] at b
theorem pD:∀ (t:T) (f:Bool),t.good f=true->cg t->t.whole=true:=by
 intro t
 induction t using T.ind with
 |h t i=>
  intro f j d;rw[bj] at d;obtain⟨l,m,g⟩:=aF j;rw[T.whole_eq];simp only[Em];refine⟨⟨?_,?_⟩,?_⟩
  ·cases c:t.leaf;·rfl
   ·obtain⟨n,o,_⟩:=m c;have e:t.size=t.keys.length:=(by simp[T.size,c]);simp only[Fg,E8,Em,Es];exact⟨⟨⟨n,o⟩,by omega⟩,by simp[d.1 c]⟩
  ·cases c:t.leaf
   ·have e:t.size=t.kids.length:=(by simp[T.size,c]);simp only[E8,Em,Ez,Es];refine⟨?_,fun k b=>?_⟩
    ·cases b:t.kids with
     | nil=>rw[b] at e;simp[c] at l e;omega
     | cons a q=>rfl
    ·have:=(aF (g k b)).1;simp at this;omega
   ·rfl
  ·rw[Ez];intro r p;obtain⟨k,b,rfl⟩:=EY.1 p;exact i k b false (g k b) (d.2 k b)
theorem mN {key val:ByteArray} (p:val.size<=400) (q:cy key=true) {t:T} (e:t.good true=true) (m:cg t) (r:t.slots.all (fun s=>cy s.1)=true):(bu key val t).good true=true∧cg (bu key val t)∧(bu key val t).whole=true∧(bu key val t).nodes<=2*t.nodes+1∧(bu key val t).slots.all (fun s=>cy s.1)=true:=by
 have b:=iV key val p t true e m;have z:=yP key val t true e m;have f:=aF e;have n:∀ s ∈ (aW key val t).slots,cy s.1=true:=fun s g=>by
  rcases yQ key val t (fun a=>by simp[T.size,a] at f;omega) f.2.2 s g with a | a;·rw[a];exact q
  ·exact (Ez.1 r) s a
 have c:(bu key val t).good true=true∧cg (bu key val t)∧(bu key val t).nodes<=2*t.nodes+1∧(bu key val t).slots.all (fun s=>cy s.1)=true:=by
  unfold bu;split
  ·rename_i h;have u:(aW key val t).leaf=t.leaf:=by
    cases i:t.leaf;·obtain⟨k,v,_⟩:=fA (key:=key) (ys:=t.kids) (by simp[T.size,i] at f;omega);rw[dw i v]
    ·rw[ed i];rfl
   exact⟨b.good true (by rw[u];simpa using b.size.1) h,b.shape,by omega,Ez.2 n⟩
  ·rename_i h;have w:∀ d ∈ cR (aW key val t),d.good false=true∧cg d:=fun d j=>(by have x:iU (aW key val t) 2 5:=⟨b.page,⟨by omega,b.size.2⟩,b.leaf,b.kids⟩;have:=uY x (Ek _) d j;exact⟨this.good false (by simpa using this.size.1) this.size.2,this.shape⟩);have l:(cR (aW key val t)).length=2:=(by unfold cR;rw[if_neg h];rfl);have o:iU ⟨false,0,[],[],[],cR (aW key val t)⟩ 2 4:=⟨rfl,by simp[T.size,l],fun a=>by simp at a,w⟩;refine⟨o.good true (by simp[T.size,l]) (by simp[T.size,l]),o.shape,?_,Ez.2 (fun s g=>?_)⟩;·rw[T.nodes_eq];have:=rF (aW key val t);simp only;omega
   ·rcases iW g with ⟨a,_⟩ | ⟨d,j,y⟩;·simp at a
    ·exact n s (rG j y)
 exact⟨c.1,c.2.1,pD _ true c.1 c.2.1,c.2.2⟩
end Go.Proofs.YtggmghkcdfjdoaaGreat
