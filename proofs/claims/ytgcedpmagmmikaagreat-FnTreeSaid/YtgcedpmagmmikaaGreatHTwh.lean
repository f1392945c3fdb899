import Derived.Test.YtgcedpmagmmikaaGreatHTks
import Derived.Test.YtgcedpmagmmikaaGreatHTp
import Derived.Test.YtgcedpmagmmikaaGreatHTlr
import Derived.Test.YtgcedpmagmmikaaGreatHTgg
import Derived.Test.YtgcedpmagmmikaaGreatHTve
import Derived.Test.YtgcedpmagmmikaaGreatHTsa
import Derived.Test.YtgcedpmagmmikaaGreatHTui
import Derived.Test.YtgcedpmagmmikaaGreatHTpx
import Derived.Deep.QuietTactic
import Derived.BigQuiet
import Derived.Deep.RegionWith
namespace Go.Proofs.YtgcedpmagmmikaaGreat
open Go.RowKit Tryz
set_option linter.unusedVariables false
set_option linter.unusedSimpArgs false
set_option maxRecDepth 100000
variable {M SZ:Nat} {Wd w:World} {a:Act} {con:Nat->Nat->List Value} {da len:Nat->Nat->Nat} {keep:List (Nat × Value)} {p:Nat->Nat} {t:T}
def cE (j:Nat):TypeId:=if j<2 then 9 else 2
def cS (j:Nat):Nat:=1
structure JC (SZ:Nat) (Wd:World) (M:Nat) (da:Nat->Nat->Nat) (con:Nat->Nat->List Value) (len:Nat->Nat->Nat) (keep:List (Nat × Value)) (p:Nat->Nat) (a:Act) (w:World):Prop where
 sz:a.tmps.size=SZ
 df:a.defers=[]
 kp:∀ x ∈ keep,a.eval (.tmp x.1)=x.2
 cur:∀ j,j<4->0<p j->w.ownsRow M (cE j) (cS j) (a.eval (.tmp (da j (p j)))) (len j (p j)) (con j (p j))
 apart:∀ i j,i<4->j<4->i≠j->0<p i->0<p j->∀ g,(a.eval (.tmp (da i (p i)))).ownBlock=some g->(a.eval (.tmp (da j (p j)))).ownBlock≠some g
 fr:Fr (fun g=>M<=g) Wd w
theorem JC.move {w':World} (h:JC SZ Wd M da con len keep p a w) {j q mx:Nat} (o:j<4) (E:0<q) (F:q<=mx) (G:∀ b,b<4->p b<=mx) (H:∀ b r k s,b<4->k<4->0<r->r<=mx->0<s->s<=mx->b≠k->da b r≠da k s) (I:∀ t ∈ keep,t.1≠da j q) (J:da j q<SZ) (N:M<=w.heap.size)
  {v:Value} (K:w'.ownsRow M (cE j) (cS j) v (len j q) (con j q)) (A:Fr (fun c=>0<p j∧(a.eval (.tmp (da j (p j)))).ownBlock=some c) w w') (L:∀ c,v.ownBlock=some c->(0<p j∧(a.eval (.tmp (da j (p j)))).ownBlock=some c)∨w.heap.size<=c) :
  JC SZ Wd M da con len keep (rI p j q) (a.put (some (da j q)) v) w':=by
 have x:da j q<a.tmps.size:=by rw[h.sz];exact J
 have n:∀ b,b<4->b≠j->0<p b->(a.put (some (da j q)) v).eval (.tmp (da b (p b)))=a.eval (.tmp (da b (p b))):=fun b e m d=>ke a _ _ v (H b (p b) j q e o d (G b e) E F m);have B:∀ b,b<4->b≠j->0<p b->∀ c,(a.eval (.tmp (da b (p b)))).ownBlock=some c->v.ownBlock≠some c:=fun b e m d c f g=>by
  rcases L c g with ⟨l,C⟩ | C;·exact h.apart b j e o m d l c f C
  ·have:=((h.cur b e d).lt c f).2;omega
 refine⟨by simp[Act.put,h.sz],by simp[Act.put,h.df],fun t D=>by rw[ke a _ _ v (I t D)];exact h.kp t D,fun b e d=>?_,fun b k e u m d l c f=>?_,?_⟩
 ·by_cases i:b=j;·subst i;simp only[rI,if_true] at d ⊢;rw[jk a _ v x];exact K
  ·simp only[rI,if_neg i] at d ⊢;rw[n b e i d];exact am (h.cur b e d) A (fun c f g=>h.apart b j e o i d g.1 c f g.2)
 ·by_cases i:b=j;·subst i;have y:k≠b:=fun g=>m g.symm;simp only[rI,if_true,if_neg y] at d l f ⊢;rw[jk a _ v x] at f;rw[n k u y l];exact fun g=>B k u y l c g f
  ·by_cases z:k=j;·subst z;simp only[rI,if_true,if_neg i] at d l f ⊢;rw[jk a _ v x];rw[n b e i d] at f;exact B b e i d c f
   ·simp only[rI,if_neg i,if_neg z] at d l f ⊢;rw[n b e i d] at f;rw[n k u z l];exact h.apart b k e u m d l c f
 ·refine h.fr.trans (A.weak (fun c g=>((h.cur j o g.1).lt c g.2).1))
theorem JC.re {f:Nat->Nat} (h:JC SZ Wd M da con len keep p a w) (e:∀ b,b<4->f b=p b):JC SZ Wd M da con len keep f a w :=
 ⟨h.sz,h.df,h.kp,fun b c d=>by rw[e b c] at d ⊢;exact h.cur b c d,fun g b i c k d j=>by rw[e g i] at d ⊢;rw[e b c] at j ⊢;exact h.apart g b i c k d j,h.fr⟩
theorem JC.load (h:JC SZ Wd M da con len keep p a w) {d mx:Nat} {v:Value} (n:d<SZ) (f:∀ g ∈ keep,g.1≠d) (o:∀ b,b<4->p b<=mx) (r:∀ j q,j<4->0<q->q<=mx->da j q≠d):JC SZ Wd M da con len ((d,v)::keep) p (a.put (some d) v) w:=by
 have k:∀ b,b<4->0<p b->(a.put (some d) v).eval (.tmp (da b (p b)))=a.eval (.tmp (da b (p b))):=fun b c e=>ke a _ _ v (r b (p b) c e (o b c));refine⟨by simp[Act.put,h.sz],by simp[Act.put,h.df],fun g i=>?_,fun b c e=>by rw[k b c e];exact h.cur b c e,fun b l c f s e m=>by rw[k b c e,k l f m];exact h.apart b l c f s e m,h.fr⟩;rcases Ek.1 i with rfl | i;·exact jk a _ v (by rw[h.sz];exact n)
 ·rw[ke a _ _ v (f g i)];exact h.kp g i
theorem zm {P:Program} {ops:Array Oper} {o:Oper} {K:Act->World->Prop} {Q:Exit->Act->World->Prop} {E:Prop} (b:o.guard=none) (t:TypeId) (x:Operand) (c:o.op=.load t x) {u v:Value} (d:a.eval x=u) (e:(Instr.loadAt t u).run P w=.ok v w) (h:K (a.put o.dst v) w):if Region.wanted o (yielded ops a.tmps)=true then Oper.wp P o a w K Q else E:=by
 rw[if_pos (by simp[Region.wanted,b])];unfold Oper.wp execOp;simp only[c,Sem.run_bind,Sem.run_pure,Result.andThen_ok,d,e];exact h
def dG:Array Oper:=#[
 ⟨some 19,Op.fieldAddr 25 (.tmp 3) 0,0,"l3_tree.go:244",#[],none⟩,
 ⟨some 20,Op.load 23 (.tmp 19),23,"l3_tree.go:244",#[⟨0,.data⟩],none⟩,
 ⟨some 21,Op.fieldAddr 100 (.tmp 5) 0,0,"l3_tree.go:244",#[],none⟩,
 ⟨some 22,Op.load 4 (.tmp 21),4,"l3_tree.go:244",#[⟨2,.data⟩],none⟩,
 ⟨some 23,Op.fieldAddr 100 (.tmp 5) 1,0,"l3_tree.go:244",#[],none⟩,
 ⟨some 24,Op.load 2 (.tmp 23),2,"l3_tree.go:244",#[⟨4,.data⟩],none⟩,
 ⟨some 25,Op.buildSlice 51 0 #[],51,"l3_tree.go:244",#[],none⟩,
 ⟨some 26,Op.fieldAddr 100 (.tmp 5) 2,0,"l3_tree.go:244",#[],none⟩,
 ⟨some 27,Op.load 51 (.tmp 26),51,"l3_tree.go:244",#[⟨7,.data⟩],none⟩,
 ⟨some 28,Op.call { callee:=Callee.builtin Builtin.append,args:=#[Operand.tmp 25,Operand.tmp 27],argTypes:=#[51,51] },51,"l3_tree.go:244",#[⟨6,.data⟩,⟨8,.data⟩],none⟩,
 ⟨some 29,Op.buildSlice 51 0 #[],51,"l3_tree.go:244",#[],none⟩,
 ⟨some 30,Op.fieldAddr 100 (.tmp 5) 3,0,"l3_tree.go:244",#[],none⟩,
 ⟨some 31,Op.load 51 (.tmp 30),51,"l3_tree.go:244",#[⟨11,.data⟩],none⟩,
 ⟨some 32,Op.call { callee:=Callee.builtin Builtin.append,args:=#[Operand.tmp 29,Operand.tmp 31],argTypes:=#[51,51] },51,"l3_tree.go:244",#[⟨10,.data⟩,⟨12,.data⟩,⟨9,.chain⟩],none⟩,
 ⟨some 33,Op.buildSlice 52 0 #[],52,"l3_tree.go:244",#[],none⟩,
 ⟨some 34,Op.fieldAddr 100 (.tmp 5) 4,0,"l3_tree.go:244",#[],none⟩,
 ⟨some 35,Op.load 52 (.tmp 34),52,"l3_tree.go:244",#[⟨15,.data⟩],none⟩,
 ⟨some 36,Op.call { callee:=Callee.builtin Builtin.append,args:=#[Operand.tmp 33,Operand.tmp 35],argTypes:=#[52,52] },52,"l3_tree.go:244",#[⟨14,.data⟩,⟨16,.data⟩,⟨13,.chain⟩],none⟩,
 ⟨some 37,Op.buildSlice 52 0 #[],52,"l3_tree.go:244",#[],none⟩,
 ⟨some 38,Op.fieldAddr 100 (.tmp 5) 5,0,"l3_tree.go:244",#[],none⟩,
 ⟨some 39,Op.load 52 (.tmp 38),52,"l3_tree.go:244",#[⟨19,.data⟩],none⟩,
 ⟨some 40,Op.call { callee:=Callee.builtin Builtin.append,args:=#[Operand.tmp 37,Operand.tmp 39],argTypes:=#[52,52] },52,"l3_tree.go:244",#[⟨18,.data⟩,⟨20,.data⟩,⟨17,.chain⟩],none⟩,
 ⟨some 41,Op.build 100 #[(0,Operand.tmp 22),(1,Operand.tmp 24),(2,Operand.tmp 28),(3,Operand.tmp 32),(4,Operand.tmp 36),(5,Operand.tmp 40)],100,"l3_tree.go:244",#[⟨3,.data⟩,⟨5,.data⟩,⟨9,.data⟩,⟨13,.data⟩,⟨17,.data⟩,⟨21,.data⟩],none⟩,
 ⟨some 42,Op.buildSlice 23 1 #[(0,Operand.tmp 41)],23,"l3_tree.go:244",#[⟨22,.data⟩],none⟩,
 ⟨some 43,Op.call { callee:=Callee.builtin Builtin.append,args:=#[Operand.tmp 20,Operand.tmp 42],argTypes:=#[23,23] },23,"l3_tree.go:244",#[⟨1,.data⟩,⟨23,.data⟩,⟨21,.chain⟩],none⟩,
 ⟨some 44,Op.fieldAddr 25 (.tmp 3) 0,0,"l3_tree.go:244",#[⟨0,.phase⟩,⟨1,.phase⟩,⟨2,.phase⟩,⟨3,.phase⟩,⟨4,.phase⟩,⟨5,.phase⟩,⟨6,.phase⟩,⟨7,.phase⟩,⟨8,.phase⟩,⟨9,.phase⟩,⟨10,.phase⟩,⟨11,.phase⟩,⟨12,.phase⟩,⟨13,.phase⟩,⟨14,.phase⟩,⟨15,.phase⟩,⟨16,.phase⟩,⟨17,.phase⟩,⟨18,.phase⟩,⟨19,.phase⟩,⟨20,.phase⟩,⟨21,.phase⟩,⟨22,.phase⟩,⟨23,.phase⟩,⟨24,.phase⟩],none⟩,
 ⟨none,Op.store 23 (.tmp 44) (.tmp 43),0,"l3_tree.go:244",#[⟨25,.data⟩,⟨24,.data⟩,⟨24,.chain⟩,⟨0,.phase⟩,⟨1,.phase⟩,⟨2,.phase⟩,⟨3,.phase⟩,⟨4,.phase⟩,⟨5,.phase⟩,⟨6,.phase⟩,⟨7,.phase⟩,⟨8,.phase⟩,⟨9,.phase⟩,⟨10,.phase⟩,⟨11,.phase⟩,⟨12,.phase⟩,⟨13,.phase⟩,⟨14,.phase⟩,⟨15,.phase⟩,⟨16,.phase⟩,⟨17,.phase⟩,⟨18,.phase⟩,⟨19,.phase⟩,⟨20,.phase⟩,⟨21,.phase⟩,⟨22,.phase⟩,⟨23,.phase⟩,⟨24,.phase⟩],none⟩]
def pZ (p0 p1 p2 p3 q:Nat):Array Bool:=#[true,decide (1<=q),true,true,true,true,decide (1<=p0),true,true,decide (2<=p0),decide (1<=p1),true,true,decide (2<=p1),decide (1<=p2),true,true,decide (2<=p2),decide (1<=p3),true,true,decide (2<=p3),false,false,false,false,false]
def jW (p0 p1 p2 p3:Nat):Bool:=(decide (p1<=1) || decide (p0=2)) && (decide (p2<=1) || decide (p1=2)) && (decide (p3<=1) || decide (p2=2))
def AH (p0 p1 p2 p3 q i:Nat):Bool:=(i == 1 && q == 0) || (i == 6 && p0 == 0) || (i == 10 && p1 == 0) || (i == 14 && p2 == 0) || (i == 18 && p3 == 0) || (i == 9 && p0 == 1) || (i == 13 && p1 == 1 && p0 == 2) || (i == 17 && p2 == 1 && p1 == 2) || (i == 21 && p3 == 1 && p2 == 2)
def yr:Bool:=(List.range 3).all fun p0=>(List.range 3).all fun p1=>(List.range 3).all fun p2=>(List.range 3).all fun p3=>(List.range 2).all fun q=>!(jW p0 p1 p2 p3) || (p0 == 2 && p1 == 2 && p2 == 2 && p3 == 2) || (!((Region.ready .any dG (pZ p0 p1 p2 p3 q)).isEmpty) && (Region.ready .any dG (pZ p0 p1 p2 p3 q)).all (fun i=>AH p0 p1 p2 p3 q i))
theorem tP:yr=true:=by kernel_rfl
theorem xj (b:Nat) (f:b<3) (c:Nat) (g:c<3) (d:Nat) (h:d<3) (e:Nat) (i:e<3) (q:Nat) (j:q<2) (k:jW b c d e=true) (l:¬ (b=2∧c=2∧d=2∧e=2)):Region.ready .any dG (pZ b c d e q)≠[]∧(Region.ready .any dG (pZ b c d e q)).all (fun m=>AH b c d e q m)=true:=by
 have a:=tP;unfold yr at a;have a:=D9.1 a b (List.mem_range.2 f);have a:=D9.1 a c (List.mem_range.2 g);have a:=D9.1 a d (List.mem_range.2 h);have a:=D9.1 a e (List.mem_range.2 i);have a:=D9.1 a q (List.mem_range.2 j);rw[k] at a;simp only[EK,EE,Bool.or_eq_true,DW,beq_iff_eq] at a;rcases a with a | a;·exact absurd ⟨a.1.1.1,a.1.1.2,a.1.2,a.2⟩ l
 ·exact⟨fun n=>by rw[n] at a;simp at a,a.2⟩
def rT (j q:Nat):Nat:=22+3*q+4*j
theorem yt (i r k s:Nat) (a:i<4) (b:k<4) (c:0<r) (d:r<=2) (e:0<s) (f:s<=2) (g:i≠k):rT i r≠rT k s:=by unfold rT;omega
def qR (xA:Nat->List Value) (j q:Nat):List Value:=if q=1 then [] else xA j
def mY (nA:Nat->Nat) (j q:Nat):Nat:=if q=1 then 0 else nA j
def lB (keep:List (Nat × Value)) (v:Value) (q:Nat):List (Nat × Value):=if q=0 then keep else (20,v)::keep
theorem cP {v:Value} {q:Nat} {x:Nat × Value} (h:x ∈ keep):x ∈ lB keep v q:=by
 unfold lB;split;·exact h
 ·exact Eg _ h
set_option maxHeartbeats 4000000 in
theorem zo {Q:Exit->Act->World->Prop} {S:World->Prop} {R:Nat} (aq:M<=Wd.heap.size) (z:∀ w,Fr (fun y=>M<=y) Wd w->S w) (aw:45<=SZ) (ah:Nat->Value) (t:Nat->List Value) (u:Nat->Nat) (keep:List (Nat × Value)) (ac:∀ n ∈ keep,n.1≠20∧∀ b,b<4->∀ f,0<f->f<=2->n.1≠rT b f) (W:∀ b,b<4->(27+4*b,ah b) ∈ keep)
  (X:∀ b,b<4->bi Wd M (cS b) (u b) (ah b) (t b)) (G:Value) (ar:(19,.pointer (some ⟨R,0,none⟩)) ∈ keep) (au:∀ w,Fr (fun y=>M<=y) Wd w->(Instr.loadAt 23 (.pointer (some ⟨R,0,none⟩))).run prog w=.ok G w)
  (ai:∀ f a w,f<2->JC SZ Wd M rT (qR t) (mY u) (lB keep G f) (fun _=>2) a w->wpAnyH prog .any dG Q S (1 - f+5) (pZ 2 2 2 2 f) a w) :
  ∀ P g h i e f a w,g<3->h<3->i<3->e<3->f<2->jW g h i e=true->g+h+i+e+f+P=9->JC SZ Wd M rT (qR t) (mY u) (lB keep G f) (p4 g h i e) a w->wpAnyH prog .any dG Q S (P+5) (pZ g h i e f) a w:=by
 intro P
 induction P with
 |zero=>intro g h i e f a w aj T U ak al x av k;obtain rfl:g=2:=(by omega);obtain rfl:h=2:=(by omega);obtain rfl:i=2:=(by omega);obtain rfl:e=2:=(by omega);obtain rfl:f=1:=(by omega);exact ai 1 a w (by omega) (k.re (fun b p=>by unfold p4;split;rfl;split;rfl;split;rfl;rfl))
 |succ P A=>
  intro g h i e f a w aj T U ak al x av k;by_cases am:g=2∧h=2∧i=2∧e=2;·obtain⟨rfl,rfl,rfl,rfl⟩:=am;obtain rfl:f=0:=(by omega);obtain rfl:P=0:=(by omega);exact ai 0 a w (by omega) (k.re (fun b p=>by unfold p4;split;rfl;split;rfl;split;rfl;rfl))
  obtain⟨an,ao⟩:=xj g aj h T i U e ak f al x am;have H:=DX aq k.fr.size;have Y:Below M Wd w:=⟨k.fr.os,k.fr.tape,k.fr.output,k.fr.size,fun ad c=>k.fr.block ad (by omega) (by omega)⟩;have ae:∀ m,m<4->p4 g h i e m<=2:=fun m af=>(by unfold p4;split;omega;split;omega;split;omega;omega);have ap:∀ n ∈ lB keep G f,∀ b,b<4->∀ E,0<E->E<=2->n.1≠rT b E:=fun n r b p E T U=>by
   unfold lB at r;split at r;·exact (ac n r).2 b p E T U
   ·rcases Ek.1 r with rfl | r;·show 20≠rT b E;unfold rT;omega
    ·exact (ac n r).2 b p E T U
  have Z:∀ b,b<4->p4 g h i e b=0->JC SZ Wd M rT (qR t) (mY u) (lB keep G f) (rI (p4 g h i e) b 1) (a.put (some (rT b 1)) (.slice (some ⟨w.heap.size,0,none⟩) 0 0)) (w.alloc (.cells #[] (cE b))):=fun b p V =>k.move (mx:=2) p (by omega) (by omega) ae yt (fun n r=>ap n r b p 1 (by omega) (by omega)) (by unfold rT;omega) H (dp w (cE b) (cS b) M H) ⟨rfl,rfl,rfl,by simp,fun ad c _=>(Zb w _).block ad c⟩ (fun y I=>.inr (by have:=cC I;omega));have aa:∀ b,b<4->p4 g h i e b=1->∀ q s,s.ownsRow M (cE b) (cS b) q (mY u b 2) (qR t b 2)->w.grownBy s (a.eval (.tmp (rT b 1))).ownBlock->(q.ownBlock=(a.eval (.tmp (rT b 1))).ownBlock∨∀ y,q.ownBlock=some y->w.heap.size<=y)->JC SZ Wd M rT (qR t) (mY u) (lB keep G f) (rI (p4 g h i e) b 2) (a.put (some (rT b 2)) q) s:=fun b p V q s B C D =>
   k.move (mx:=2) p (by omega) (by omega) ae yt (fun n r=>ap n r b p 2 (by omega) (by omega)) (by unfold rT;omega) H B (Fr.of_grown C (fun y I=>by rw[V];exact⟨by omega,I⟩)) (fun y I=>by
    rcases D with ag | ag;·rw[ag] at I;exact .inl (by rw[V];exact⟨by omega,I⟩)
    ·exact .inr (ag y I))
  have ab:∀ b,b<4->p4 g h i e b=1->w.ownsRow M (cE b) (cS b) (a.eval (.tmp (rT b 1))) (mY u b 1) (qR t b 1):=fun b p V=>(by have:=k.cur b p (by omega);rw[V] at this;exact this);refine wpAnyH_all rfl an (fun m af=>?_);have c:=D9.1 ao m af;clear ao an af;simp only[AH,Bool.or_eq_true,DW,beq_iff_eq] at c;rcases c with ((((((((c | c) | c) | c) | c) | c) | c) | c) | c);·obtain rfl:m=1:=c.1;obtain rfl:f=0:=c.2;refine wpOp_step (ops:=dG) (o:=⟨some 20,Op.load 23 (.tmp 19),23,"l3_tree.go:244",#[⟨0,.data⟩],none⟩) rfl (fun F l=>?_);refine zm rfl _ _ rfl (k.kp _ ar) (au w k.fr) ?_;have j:=k.load (d:=20) (mx:=2) (v:=G) (by omega) (fun n r=>(ac n r).1) ae (fun b E p T U=>by unfold rT;omega);exact l _ _ ⟨z _ j.fr,A g h i e 1 _ _ (by omega) (by omega) (by omega) (by omega) (by omega) x (by omega) j⟩
  ·obtain rfl:m=6:=c.1;obtain rfl:g=0:=c.2;refine wpOp_step (ops:=dG) (o:=⟨some 25,Op.buildSlice 51 0 #[],51,"l3_tree.go:244",#[],none⟩) rfl (fun F l=>?_);refine eC rfl 51 9 rfl (jl w) ?_;have j:=(Z 0 (by omega) rfl).re (vj 0 h i e 1);exact l _ _ ⟨z _ j.fr,A 1 h i e f _ _ (by omega) (by omega) (by omega) (by omega) (by omega) (by revert x;unfold jW;simp<;>omega) (by omega) j⟩
  ·obtain rfl:m=10:=c.1;obtain rfl:h=0:=c.2;refine wpOp_step (ops:=dG) (o:=⟨some 29,Op.buildSlice 51 0 #[],51,"l3_tree.go:244",#[],none⟩) rfl (fun F l=>?_);refine eC rfl 51 9 rfl (jl w) ?_;have j:=(Z 1 (by omega) rfl).re (vk g 0 i e 1);exact l _ _ ⟨z _ j.fr,A g 1 i e f _ _ (by omega) (by omega) (by omega) (by omega) (by omega) (by revert x;unfold jW;simp<;>omega) (by omega) j⟩
  ·obtain rfl:m=14:=c.1;obtain rfl:i=0:=c.2;refine wpOp_step (ops:=dG) (o:=⟨some 33,Op.buildSlice 52 0 #[],52,"l3_tree.go:244",#[],none⟩) rfl (fun F l=>?_);refine eC rfl 52 2 rfl (lZ w) ?_;have j:=(Z 2 (by omega) rfl).re (vp g h 0 e 1);exact l _ _ ⟨z _ j.fr,A g h 1 e f _ _ (by omega) (by omega) (by omega) (by omega) (by omega) (by revert x;unfold jW;simp<;>omega) (by omega) j⟩
  ·obtain rfl:m=18:=c.1;obtain rfl:e=0:=c.2;refine wpOp_step (ops:=dG) (o:=⟨some 37,Op.buildSlice 52 0 #[],52,"l3_tree.go:244",#[],none⟩) rfl (fun F l=>?_);refine eC rfl 52 2 rfl (lZ w) ?_;have j:=(Z 3 (by omega) rfl).re (vq g h i 0 1);exact l _ _ ⟨z _ j.fr,A g h i 1 f _ _ (by omega) (by omega) (by omega) (by omega) (by omega) (by revert x;unfold jW;simp<;>omega) (by omega) j⟩
  ·obtain rfl:m=9:=c.1;obtain rfl:g=1:=c.2;refine wpOp_step (ops:=dG) (o:=⟨some 28,Op.call { callee:=Callee.builtin Builtin.append,args:=#[Operand.tmp 25,Operand.tmp 27],argTypes:=#[51,51] },51,"l3_tree.go:244",#[⟨6,.data⟩,⟨8,.data⟩],none⟩) rfl (fun F l=>?_);obtain⟨J,K,L,N,O⟩:=info_parts fi;refine aN rfl _ _ 51 rfl M 9 J _ 1 16 underlying51 K L N O rfl (by decide) (by decide) _ _ _ rfl (ab 0 (by omega) rfl) (by simp[mY]) _ M (u 0) (t 0) (k.kp _ (cP (W 0 (by omega)))) ((X 0 (by omega)).below Y) H ?_;intro q s B C D;have j:=(aa 0 (by omega) rfl q s (by have:=B;simpa[mY,qR,cE,cS] using this) C D).re (vj 1 h i e 2);exact l _ _ ⟨z _ j.fr,A 2 h i e f _ _ (by omega) (by omega) (by omega) (by omega) (by omega) (by revert x;unfold jW;simp<;>omega) (by omega) j⟩
  ·obtain rfl:m=13:=c.1.1;obtain rfl:h=1:=c.1.2;obtain rfl:g=2:=c.2;refine wpOp_step (ops:=dG) (o:=⟨some 32,Op.call { callee:=Callee.builtin Builtin.append,args:=#[Operand.tmp 29,Operand.tmp 31],argTypes:=#[51,51] },51,"l3_tree.go:244",#[⟨10,.data⟩,⟨12,.data⟩,⟨9,.chain⟩],none⟩) rfl (fun F l=>?_);obtain⟨J,K,L,N,O⟩:=info_parts fi;refine aN rfl _ _ 51 rfl M 9 J _ 1 16 underlying51 K L N O rfl (by decide) (by decide) _ _ _ rfl (ab 1 (by omega) rfl) (by simp[mY]) _ M (u 1) (t 1) (k.kp _ (cP (W 1 (by omega)))) ((X 1 (by omega)).below Y) H ?_;intro q s B C D;have j:=(aa 1 (by omega) rfl q s (by have:=B;simpa[mY,qR,cE,cS] using this) C D).re (vk 2 1 i e 2);exact l _ _ ⟨z _ j.fr,A 2 2 i e f _ _ (by omega) (by omega) (by omega) (by omega) (by omega) (by revert x;unfold jW;simp<;>omega) (by omega) j⟩
  ·obtain rfl:m=17:=c.1.1;obtain rfl:i=1:=c.1.2;obtain rfl:h=2:=c.2;refine wpOp_step (ops:=dG) (o:=⟨some 36,Op.call { callee:=Callee.builtin Builtin.append,args:=#[Operand.tmp 33,Operand.tmp 35],argTypes:=#[52,52] },52,"l3_tree.go:244",#[⟨14,.data⟩,⟨16,.data⟩,⟨13,.chain⟩],none⟩) rfl (fun F l=>?_);obtain⟨J,K,L,N,O⟩:=info_parts gR;refine aN rfl _ _ 52 rfl M 2 J _ 1 8 underlying52 K L N O rfl (by decide) (by decide) _ _ _ rfl (ab 2 (by omega) rfl) (by simp[mY]) _ M (u 2) (t 2) (k.kp _ (cP (W 2 (by omega)))) ((X 2 (by omega)).below Y) H ?_;intro q s B C D;have j:=(aa 2 (by omega) rfl q s (by have:=B;simpa[mY,qR,cE,cS] using this) C D).re (vp g 2 1 e 2);exact l _ _ ⟨z _ j.fr,A g 2 2 e f _ _ (by omega) (by omega) (by omega) (by omega) (by omega) (by revert x;unfold jW;simp<;>omega) (by omega) j⟩
  ·obtain rfl:m=21:=c.1.1;obtain rfl:e=1:=c.1.2;obtain rfl:i=2:=c.2;refine wpOp_step (ops:=dG) (o:=⟨some 40,Op.call { callee:=Callee.builtin Builtin.append,args:=#[Operand.tmp 37,Operand.tmp 39],argTypes:=#[52,52] },52,"l3_tree.go:244",#[⟨18,.data⟩,⟨20,.data⟩,⟨17,.chain⟩],none⟩) rfl (fun F l=>?_);obtain⟨J,K,L,N,O⟩:=info_parts gR;refine aN rfl _ _ 52 rfl M 2 J _ 1 8 underlying52 K L N O rfl (by decide) (by decide) _ _ _ rfl (ab 3 (by omega) rfl) (by simp[mY]) _ M (u 3) (t 3) (k.kp _ (cP (W 3 (by omega)))) ((X 3 (by omega)).below Y) H ?_;intro q s B C D;have j:=(aa 3 (by omega) rfl q s (by have:=B;simpa[mY,qR,cE,cS] using this) C D).re (vq g h 2 1 2);exact l _ _ ⟨z _ j.fr,A g h 2 2 f _ _ (by omega) (by omega) (by omega) (by omega) (by omega) (by revert x;unfold jW;simp<;>omega) (by omega) j⟩
def C2 (w:World) (zs:List (ByteArray × ByteArray)) (e:Ending) (w':World):Prop:=∃ oa oc,e=.returned (.agg #[.slice oa (nQ zs).length oc])∧aw w' w.heap.size w'.heap.size oa (nQ zs).length oc (nQ zs)∧Below w.heap.size w w'
theorem tQ (w:World):Calls prog 54 #[] w fun l b=>∃ c,l=.returned (.agg #[.slice (some ⟨c,0,none⟩) 1 1])∧aw b w.heap.size b.heap.size (some ⟨c,0,none⟩) 1 1 [⟨true,0,[],[],[],[]⟩]∧Below w.heap.size w b∧w.heap.size<=c:=by
 have m:Below w.heap.size w ((w.alloc (.cells #[.slice (some ⟨w.heap.size+1,0,none⟩) 1 1] 25)).alloc (.cells (Z0 true 0) 100)):=(Zb _ _).alloc (by simp) _;have d:((w.alloc (.cells #[.slice (some ⟨w.heap.size+1,0,none⟩) 1 1] 25)).alloc (.cells (Z0 true 0) 100)).heap[w.heap.size+1]?=some (.cells (Z0 true 0) 100):=by
  have:=DS (w.alloc (.cells #[.slice (some ⟨w.heap.size+1,0,none⟩) 1 1] 25)) (.cells (Z0 true 0) 100)
  rwa [show (w.alloc (.cells #[.slice (some ⟨w.heap.size+1,0,none⟩) 1 1] 25)).heap.size=w.heap.size+1 by simp] at this
 go_enter func54,ntmps54;go_wp2
 refine bodyPost_ret (v:=.agg #[.slice (some ⟨w.heap.size+1,0,none⟩) 1 1]) (by simp[results,results54,go_sem]) rfl ⟨w.heap.size+1,rfl,?_,m,by omega⟩;generalize (w.alloc (.cells #[.slice (some ⟨w.heap.size+1,0,none⟩) 1 1] 25)).alloc (.cells (Z0 true 0) 100)=f at d ⊢;have n:=Za d;obtain⟨o,p,q,r,s,t⟩:=gv d;have a:∀ {e:Type} (g:e->List Value) (h:e->Prop) (i:e),aR f w.heap.size f.heap.size 1 g h i none 0 0 []:=fun g h i=>⟨rfl,DU _,by unfold maxLen;exact D0 _,fun j k=>absurd k (by omega),fun u=>absurd u (by omega)⟩;refine⟨rfl,DU _,by unfold maxLen;omega,fun _=>⟨w.heap.size+1,0,rfl,⟨by omega,n⟩,fun j k=>?_⟩⟩;obtain rfl:j=0:=by omega
 exact⟨none,0,0,none,0,0,none,0,0,none,0,0,o,p,q,r,s,t,⟨by decide,by decide⟩,a _ _ _,a _ _ _,a _ _ _,a _ _ _⟩
def p8 (x:TN):Prop:=x.keys.length<=4∧x.vals.length<=4∧x.over.length<=4∧x.kids.length<=4
theorem vO {x:TN}:∀ (e:List (Nat->List TN)) (b:Nat),x ∈ bJ b e->∃ c ∈ e,∃ d,x ∈ c d
 | [],b,a=>by simp[bJ] at a
 | c::r,b,a=>by
  rw[bJ,Ei] at a
  rcases a with a | a
  ·exact⟨c,D4 ..,b,a⟩
  ·obtain⟨f,g,d,h⟩:=vO r _ a
   exact⟨f,Eg _ g,d,h⟩
theorem oB:∀ (b:List Nat) (a:Nat),(aX a b).length=b.length
 | [],a=>rfl
 | x::r,a=>by simp only[aX,Eq,oB r]
theorem ij (t:T):(∃ f,t.good f=true)->∀ g,∀ d ∈ t.flat g,p8 d:=by
 induction t using T.ind with
 |h t j=>
  rintro ⟨f,b⟩ g d a;have k:=b;rw[T.good_eq] at b;simp only[DW,D1] at b;rw[T.flat_eq] at a;cases c:t.leaf
  ·rw[c] at a;simp only[Ee,En,Ek] at a;have e:t.kids.length<=4:=(by have:=b.1.1.1.1.2;simpa[T.size,c] using this);rcases a with rfl | a;·exact⟨by simp;omega,by simp,by simp,by rw[oB,Ev];exact e⟩
   ·obtain⟨p,l,m,a⟩:=vO _ _ a;obtain⟨n,i,rfl⟩:=Ew.1 l;exact j n i ⟨false,aY k i⟩ m d a
  ·rw[c] at a b;simp only[if_true,List.mem_singleton] at a;subst a;have e:t.keys.length<=4:=(by have:=b.1.1.1.1.2;simpa[T.size,c] using this);have o:=b.1.1.2;simp only[EK,EE,DW,D1] at o;exact⟨e,by show t.vals.length<=4;omega,by show t.over.length<=4;omega,by simp⟩
def DJ (h:Int) (ts:List T):Prop:=∀ t ∈ ts,bv t∧t.ht=h∧t.nums=[]
def qc (x:TN):Prop:=ga x.page∧(∀ s ∈ x.keys,dm s)∧(∀ s ∈ x.vals,dm s)∧(∀ z ∈ x.over,ga z)∧∀ z ∈ x.kids,ga z
theorem rY {x:TN}:∀ (e:List (Nat->List TN)) (b:Nat),x ∈ bJ b e->∃ d ∈ e,∃ c,x ∈ d c∧b<=c∧c+(d c).length<=b+(bJ b e).length
 | [],b,a=>by simp[bJ] at a
 | d::r,b,a=>by
  rw[bJ,Ei] at a
  rw[bJ,DV]
  rcases a with a | a
  ·exact⟨d,D4 ..,b,a,DU _,by omega⟩
  ·obtain⟨f,g,c,h,i,j⟩:=rY r _ a
   exact⟨f,Eg _ g,c,h,by omega,by omega⟩
theorem qd {z:Int}:∀ (c:List Nat) (b:Nat),z ∈ aX b c->(b:Int)<=z∧z<=((b+c.sum:Nat):Int)
 | [],b,a=>by simp[aX] at a
 | n::r,b,a=>by
  rw[aX,Ek] at a
  rw[EL]
  rcases a with rfl | a
  ·omega
  ·have:=qd r _ a;omega
theorem rZ {r:Bool} (b:t.leaf=true) (a:t.good r=true) (c:t.slots.all (fun s=>cy s.1)=true):∀ d ∈ t.keys,cy d=true:=by
 intro d f;obtain⟨g,i,rfl⟩:=List.mem_iff_getElem.1 f;rw[T.good_eq] at a;simp only[DW,D1] at a;have e:=a.1.1.2;rw[b] at e;simp only[EK,EE,DW,D1] at e;rw[T.slots_eq,b,if_pos rfl,List.all_append,DW] at c;have h:g<(t.keys.zip (t.vals.zip t.over)).length:=by simp;omega
 have:=D9.1 c.1 _ (Ey h);simpa[List.getElem_zip] using this
theorem BB (t:T):(∃ e,t.good e=true)->t.slots.all (fun i=>cy i.1)=true->t.low.size<=8:=by
 induction t using T.ind with
 |h t j=>
  rintro ⟨e,f⟩ d;cases b:t.leaf
  ·cases a:t.kids with
   |nil=>obtain⟨l,m,c,n,o,p⟩:=t;simp only at b a;subst b a;simp[T.low]
   |cons c rest=>rw[T.low_inner b a];have g:c ∈ t.kids:=(by rw[a];exact D4 ..);refine j c g ⟨false,aY f g⟩ ?_;rw[T.slots_eq,a,D8,Ex,List.all_append,List.all_append,DW,DW] at d;exact d.2.1
  ·rw[T.low_leaf b];have k:=rZ b f d;cases a:t.keys with
   | nil=>simp
   |cons c rest=>have:=k c (by rw[a];exact D4 ..);unfold cy at this;simp only[DW,D1] at this;exact this.2
theorem xw {s:ByteArray} (h:s.size<=400):dm s:=by unfold dm maxLen;omega
theorem AT {x:Int} (h:(x == 0 || ir x)=true):ga x:=by
 simp only[Bool.or_eq_true,beq_iff_eq] at h;unfold ga;rcases h with h | h;·omega
 ·unfold ir at h;simp only[D1] at h;omega
theorem vW {k:T} (h:t.slots.all (fun a=>cy a.1)=true) (b:k ∈ t.kids):k.slots.all (fun a=>cy a.1)=true:=by
 rw[T.slots_eq,List.all_append,DW] at h;rw[D9];intro a c;exact D9.1 h.2 a (List.mem_flatten.2 ⟨k.slots,Ew.2 ⟨k,b,rfl⟩,c⟩)
theorem AU (t:T):(∃ r,t.good r=true)->bv t->t.slots.all (fun d=>cy d.1)=true->∀ d,d+t.nodes<=1000000->∀ l ∈ t.flat d,qc l:=by
 induction t using T.ind with
 |h t A=>
  rintro ⟨r,f⟩ s m d B l b;have n:=f;rw[T.good_eq] at f;simp only[DW] at f;have u:=AT f.1.1.1.2;have C:=(aC t).1 s;have o:=dq t s.shape d;rw[T.flat_eq] at b o;cases k:t.leaf
  ·rw[k] at b o;simp only[Ee,En,Ek,Eq] at b o;rcases b with rfl | b
   ·refine⟨u,fun g a=>?_,(fun g a=>by cases a),(fun g a=>by cases a),fun v a=>?_⟩;·obtain⟨i,e,rfl⟩:=Ew.1 a;have w:=List.mem_of_mem_tail e;exact xw (DX (BB i ⟨false,aY n w⟩ (vW m w)) (by omega))
    ·have:=qd _ _ a;rw[T.nodes_eq] at B;unfold ga;omega
   ·obtain⟨G,D,E,b,x,p⟩:=rY _ _ b;obtain⟨i,e,rfl⟩:=Ew.1 D;have y:=C.2.2 i e;rw[dq i y.shape] at p;exact A i e ⟨false,aY n e⟩ y (vW m e) E (by omega) l b
  ·rw[k] at b;simp only[if_true,List.mem_singleton] at b;subst b;have q:=f.1.1.2;rw[k] at q;simp only[EK,EE,DW,D1] at q;have z:∀ c (x:c<t.vals.length) (p:c<t.over.length),aU t.page t.vals[c] t.over[c]=true:=fun c x p=>(by have F:c<(t.vals.zip t.over).length:=(by simp;omega);have:=D9.1 q.2 _ (Ey F);simpa[List.getElem_zip] using this);refine⟨u,fun g a=>?_,fun g a=>?_,fun v a=>?_,(fun v a=>by cases a)⟩;·have:=rZ k n m g a;unfold cy at this;simp only[DW,D1] at this;exact xw (by omega)
   ·obtain⟨c,j,rfl⟩:=List.mem_iff_getElem.1 a;simp only at j;have:=z c j (by omega);unfold aU at this;simp only[DW,D1] at this;exact xw this.1.1.1
   ·obtain⟨c,j,rfl⟩:=List.mem_iff_getElem.1 a;simp only at j;have:=z c (by omega) j;unfold aU at this;simp only[DW,D1] at this;exact AT this.1.1.2
theorem cj.nodesF {base n c:Nat} {a:Option Addr} {ts:List TN} {us:Nat->Nat->Value} (h:cj w base (.slice a n c) (ts.map TN.nd) us) (u:n=ts.length) (C:∀ x ∈ ts,qc x):aw w base w.heap.size a n c ts:=by
 have V:(ts.map TN.nd).length=n:=by rw[Ev,u]
 rcases h.row.2 with ⟨l,W⟩ | ⟨y,X,Y,l,Z,ab,ad,D,_⟩;·simp only[Value.slice.injEq] at l;obtain⟨rfl,rfl,rfl⟩:=l;exact⟨u.symm,DU _,by unfold maxLen;exact D0 _,fun z=>absurd z (by omega)⟩
 ·simp only[Value.slice.injEq] at l;obtain⟨rfl,_,rfl⟩:=l;refine⟨u.symm,by omega,D,fun z=>⟨y,0,rfl,h.row.lt y rfl,fun b af=>?_⟩⟩;have A:b<(ts.map TN.nd).length:=(by omega);have E:(ts.map TN.nd).getD b dN=TN.nd (ts.getD b dT):=(by simp[List.getD,show b<ts.length by omega]);have g:=fun e f=>h.cell (i:=b) (j:=e) A f;have m:=h.data b A;rw[E] at g m;have o:qc (ts.getD b dT):=C _ (by rw[show ts.getD b dT=ts[b]'(by omega) by simp[List.getD,show b<ts.length by omega]];exact Ey _);have p:=m 0 (by omega);have q:=m 1 (by omega);have r:=m 2 (by omega);have s:=m 3 (by omega);replace p:w.ownsRow base 9 1 (us b 0) (aa ae (ts.getD b dT).keys).length (aa ae (ts.getD b dT).keys):=p;replace q:w.ownsRow base 9 1 (us b 1) (aa ae (ts.getD b dT).vals).length (aa ae (ts.getD b dT).vals):=q;replace r:w.ownsRow base 2 1 (us b 2) (aa ac (ts.getD b dT).over).length (aa ac (ts.getD b dT).over):=r;replace s:w.ownsRow base 2 1 (us b 3) (aa ac (ts.getD b dT).kids).length (aa ac (ts.getD b dT).kids):=s;rw[cH jb] at p q;rw[cH lh] at r s;have t:∀ {B:Type} (v:B) (k:List B) (e:Nat),e<k.length->k.getD e v ∈ k:=fun v k e f=>(by rw[show k.getD e v=k[e] by simp[List.getD,f]];exact Ey _);obtain⟨F,G,H,I⟩:=aR.of_owns (fit:=dm) (d:=ByteArray.empty) jb p rfl (fun e f=>o.2.1 _ (t _ _ e f));obtain⟨J,K,L,M⟩:=aR.of_owns (fit:=dm) (d:=ByteArray.empty) jb q rfl (fun e f=>o.2.2.1 _ (t _ _ e f));obtain⟨N,O,P,Q⟩:=aR.of_owns (fit:=ga) (d:=0) lh r rfl (fun e f=>o.2.2.2.1 _ (t _ _ e f));obtain⟨R,S,T,U⟩:=aR.of_owns (fit:=ga) (d:=0) lh s rfl (fun e f=>o.2.2.2.2 _ (t _ _ e f));refine⟨F,_,G,J,_,K,N,_,O,R,_,S,?_,?_,?_,?_,?_,?_,o.1,I,M,Q,U⟩;·rw[Ed];exact g 0 (by omega)
  ·rw[Ed];exact g 1 (by omega)
  ·rw[Ed,<-H];exact g 2 (by omega)
  ·rw[Ed,<-L];exact g 3 (by omega)
  ·rw[Ed,<-P];exact g 4 (by omega)
  ·rw[Ed,<-T];exact g 5 (by omega)
theorem qe (zs:List (ByteArray × ByteArray × Int)):cQ ⟨#[]⟩ ⟨#[]⟩ zs=zs:=by
 unfold cQ;rw[List.filter_eq_self];intro a _;unfold oC;have b:(⟨#[]⟩:ByteArray).toList=[]:=by rw[ByteArray.toList_eq]
 rw[b];cases a.1.toList with
 | nil=>rfl
 | cons c d=>rfl
theorem xx {zs:List (ByteArray × ByteArray)} (h:C5 zs t) (i:t.nodes<=1000):aZ (t.flat 0)∧gY (t.flat 0)=some t∧∀ a,vV (t.flat 0) ⟨#[]⟩ ⟨#[]⟩ a->a=ms zs:=by
 obtain⟨b,e⟩:=oQ h.good h.neat h.ht i h.keys (iY _ h.sort) h.nums;have f:=(fg _).1 b;obtain⟨⟨o,p⟩,q,c,j,r,k,l,s,u,m⟩:=id b;rw[e] at c;simp only[Prod.mk.injEq,and_true] at c;subst c;obtain⟨v,g,_⟩:=zS (t.flat 0) _ 0 (fun _=>false) t (t.flat 0).length e ⟨by omega,by rw[l];simp⟩ j k ⟨m,fun _ _=>rfl⟩;refine⟨b,iZ f g,fun a n=>?_⟩;obtain⟨w,x,d,rfl⟩:=n.2 f;rw[g] at d;simp only[Option.some.injEq,Prod.mk.injEq] at d;rw[<-d.1,qe,h.slots]
theorem kQ {base n c:Nat} {a:Option Addr} {zs:List (ByteArray × ByteArray)} (h:w.ownsRow base 36 2 (.slice a n c) n (aa aG (ms zs))) (e:zs.length=n):tv w w.heap.size a n c zs:=by
 rcases h.2 with ⟨b,k⟩ | ⟨f,l,m,b,o,p,q,i,_⟩;·simp only[Value.slice.injEq] at b;obtain⟨rfl,rfl,rfl⟩:=b;exact⟨e,DU _,by unfold maxLen;omega,fun g=>absurd g (ES _)⟩
 ·simp only[Value.slice.injEq] at b;obtain⟨rfl,_,rfl⟩:=b;refine⟨e,by omega,i,fun g=>⟨f,0,rfl,(h.lt f rfl).2,fun d r=>?_⟩⟩;have j:=vX zs d (by omega);rw[Ed,h.cellAt (d*2) (by omega),h.cellAt (d*2+1) (by omega)];exact j
theorem ud (a:Option Addr) (n c:Nat) (j:Option Addr) (k:Nat) (zs:List (ByteArray × ByteArray)) (w:World) (B l:Nat) (t:B<=w.heap.size) (u:l<=w.heap.size) (h:tv w B a n c zs) (m:tv w l j n k zs) :
  Calls prog 13 #[.slice a n c,.slice j n k] w fun v x=>v=.returned (.bool true)∧Below w.heap.size w x:=by
 have C:=h.2.1;have y:=h.2.2.1;unfold maxLen at y;have z:=hidI h;have A:=hidI m;clear h m;have D:((n:Int) != (n:Int))=false:=by simp
 go_enter func13,ntmps13;go_wp2_with fail
 go_loopw [5] (fun f wr=>∃ b:Nat,b<=n∧f=.int .i64 b∧Below w.heap.size w wr) (fun f _=>n - (intOf f).toNat)
 case atStart=>exact⟨0,D0 _,rfl,D2 _ _⟩
 case round =>
  obtain⟨b,E,rfl,d⟩:=hrel;by_cases e:b<n
  ·obtain⟨F,G,rfl,_,g⟩:=(z.out.below (d.mono t)).2.2.2 (by omega);obtain⟨H,I,rfl,_,i⟩:=(A.out.below (d.mono u)).2.2.2 (by omega);have o:=(g b e).1;have p:=(g b e).2;have q:=(i b e).1;have r:=(i b e).2;generalize (zs.getD b (ByteArray.empty,ByteArray.empty)).1=J at o q;generalize (zs.getD b (ByteArray.empty,ByteArray.empty)).2=K at p r;clear g i;go_wp2_with fail
   go_quiet (fail)
   have s:Below w.heap.size w (wr.drewN nq):=d.trans ⟨rfl,rfl,rfl,DU _,fun _ _=>rfl⟩;generalize wr.drewN nq=L at s ⊢;clear o p q r d;go_wp2_with fail
   go_roundw
   case rel=>exact⟨b+1,by omega,by go_num,s⟩
   case measure=>simp[intOf];omega
  ·go_wp2_with fail
   go_ret;exact⟨rfl,d⟩
theorem qU (b:Bool) (a:Option Addr) (n c:Nat) (w:World):(Instr.field 30 (.agg #[.bool b,.slice a n c]) 1).run prog w=.ok (.agg #[.slice a n c]) w:=by
 simp[Instr.field,asAgg,go_sem]
end Go.Proofs.YtgcedpmagmmikaaGreat
