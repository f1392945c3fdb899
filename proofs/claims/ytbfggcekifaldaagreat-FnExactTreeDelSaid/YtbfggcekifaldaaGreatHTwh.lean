import Derived.Test.YtbfggcekifaldaaGreatTks
import Derived.Test.YtbfggcekifaldaaGreatHTma
import Derived.Test.YtbfggcekifaldaaGreatHTme
import Derived.Test.YtbfggcekifaldaaGreatTlr
import Derived.Test.YtbfggcekifaldaaGreatTq
import Derived.Test.YtbfggcekifaldaaGreatHTve
import Derived.Test.YtbfggcekifaldaaGreatTwd
import Derived.Test.YtbfggcekifaldaaGreatHTuo
import Derived.Test.YtbfggcekifaldaaGreatHTwe
namespace Go.Proofs.YtbfggcekifaldaaGreat
set_option maxHeartbeats 8000000
open Go.RowKit
set_option linter.unusedVariables false
set_option linter.unusedSimpArgs false
set_option maxRecDepth 100000
def cE (j:Nat):TypeId:=if j<2 then 9 else 2
def cS (j:Nat):Nat:=1
structure JC (SZ:Nat) (Wd:World) (M:Nat) (da:Nat->Nat->Nat) (con:Nat->Nat->List Value) (len:Nat->Nat->Nat) (keep:List (Nat × Value)) (p:Nat->Nat) (a:Act) (w:World):Prop where
 sz:a.tmps.size=SZ
 df:a.defers=[]
 kp:∀ x ∈ keep,a.eval (.tmp x.1)=x.2
 cur:∀ j,j<4->0<p j->w.ownsRow M (cE j) (cS j) (a.eval (.tmp (da j (p j)))) (len j (p j)) (con j (p j))
 apart:∀ i j,i<4->j<4->i≠j->0<p i->0<p j->∀ g,(a.eval (.tmp (da i (p i)))).ownBlock=some g->(a.eval (.tmp (da j (p j)))).ownBlock≠some g
 fr:Fr (fun g=>M<=g) Wd w
theorem JC.move {SZ M:Nat} {Wd:World} {da:Nat->Nat->Nat} {con:Nat->Nat->List Value} {len:Nat->Nat->Nat} {keep:List (Nat × Value)} {p:Nat->Nat} {a:Act} {w w':World} (h:JC SZ Wd M da con len keep p a w) {j q mx:Nat} (hj:j<4) (hq:0<q) (hqm:q<=mx) (hpm:∀ i,i<4->p i<=mx) (hinj:∀ i r k s,i<4->k<4->0<r->r<=mx->0<s->s<=mx->i≠k->da i r≠da k s) (hks:∀ x ∈ keep,x.1≠da j q) (hds:da j q<SZ) (hM:M<=w.heap.size)
  {v:Value} (hrow:w'.ownsRow M (cE j) (cS j) v (len j q) (con j q)) (hf:Fr (fun g=>0<p j∧(a.eval (.tmp (da j (p j)))).ownBlock=some g) w w') (hat:∀ g,v.ownBlock=some g->(0<p j∧(a.eval (.tmp (da j (p j)))).ownBlock=some g)∨w.heap.size<=g) :
  JC SZ Wd M da con len keep (upP p j q) (a.put (some (da j q)) v) w':=by
 have hd:da j q<a.tmps.size:=by rw[h.sz];exact hds
 have hE:∀ i,i<4->i≠j->0<p i->(a.put (some (da j q)) v).eval (.tmp (da i (p i)))=a.eval (.tmp (da i (p i))):=fun i hi hne h0=>eval_ne a _ _ v (hinj i (p i) j q hi hj h0 (hpm i hi) hq hqm hne)
 have hnew:∀ i,i<4->i≠j->0<p i->∀ g,(a.eval (.tmp (da i (p i)))).ownBlock=some g->v.ownBlock≠some g:=fun i hi hne h0 g hg e=>by
  rcases hat g e with ⟨h1,h2⟩ | h2
  ·exact h.apart i j hi hj hne h0 h1 g hg h2
  ·have:=((h.cur i hi h0).lt g hg).2;omega
 refine⟨by simp[Act.put,h.sz],by simp[Act.put,h.df],fun x hx=>by rw[eval_ne a _ _ v (hks x hx)];exact h.kp x hx,fun i hi h0=>?_,fun i k hi hk hne h0 h1 g hg=>?_,?_⟩
 ·by_cases hij:i=j
  ·subst hij
   simp only[upP,if_true] at h0 ⊢
   rw[eval_eq a _ v hd]
   exact hrow
  ·simp only[upP,if_neg hij] at h0 ⊢
   rw[hE i hi hij h0]
   exact owns_fr (h.cur i hi h0) hf (fun g hg e=>h.apart i j hi hj hij h0 e.1 g hg e.2)
 ·by_cases hij:i=j
  ·subst hij
   have hki:k≠i:=fun e=>hne e.symm
   simp only[upP,if_true,if_neg hki] at h0 h1 hg ⊢
   rw[eval_eq a _ v hd] at hg
   rw[hE k hk hki h1]
   exact fun e=>hnew k hk hki h1 g e hg
  ·by_cases hkj:k=j
   ·subst hkj
    simp only[upP,if_true,if_neg hij] at h0 h1 hg ⊢
    rw[eval_eq a _ v hd]
    rw[hE i hi hij h0] at hg
    exact hnew i hi hij h0 g hg
   ·simp only[upP,if_neg hij,if_neg hkj] at h0 h1 hg ⊢
    rw[hE i hi hij h0] at hg
    rw[hE k hk hkj h1]
    exact h.apart i k hi hk hne h0 h1 g hg
 ·refine h.fr.trans (hf.weak (fun g e=>((h.cur j hj e.1).lt g e.2).1))
theorem JC.re {SZ M:Nat} {Wd:World} {da:Nat->Nat->Nat} {con:Nat->Nat->List Value} {len:Nat->Nat->Nat} {keep:List (Nat × Value)} {p p':Nat->Nat} {a:Act} {w:World} (h:JC SZ Wd M da con len keep p a w) (e:∀ j,j<4->p' j=p j):JC SZ Wd M da con len keep p' a w :=
 ⟨h.sz,h.df,h.kp,fun j hj h0=>by rw[e j hj] at h0 ⊢;exact h.cur j hj h0,fun i j hi hj hne h0 h1=>by rw[e i hi] at h0 ⊢;rw[e j hj] at h1 ⊢;exact h.apart i j hi hj hne h0 h1,h.fr⟩
theorem JC.load {SZ M:Nat} {Wd:World} {da:Nat->Nat->Nat} {con:Nat->Nat->List Value} {len:Nat->Nat->Nat} {keep:List (Nat × Value)} {p:Nat->Nat} {a:Act} {w:World} (h:JC SZ Wd M da con len keep p a w) {d mx:Nat} {v:Value} (hd:d<SZ) (hk:∀ x ∈ keep,x.1≠d) (hpm:∀ i,i<4->p i<=mx) (hda:∀ j q,j<4->0<q->q<=mx->da j q≠d):JC SZ Wd M da con len ((d,v)::keep) p (a.put (some d) v) w:=by
 have hE:∀ i,i<4->0<p i->(a.put (some d) v).eval (.tmp (da i (p i)))=a.eval (.tmp (da i (p i))):=fun i hi h0=>eval_ne a _ _ v (hda i (p i) hi h0 (hpm i hi))
 refine⟨by simp[Act.put,h.sz],by simp[Act.put,h.df],fun x hx=>?_,fun i hi h0=>by rw[hE i hi h0];exact h.cur i hi h0,fun i k hi hk hne h0 h1=>by rw[hE i hi h0,hE k hk h1];exact h.apart i k hi hk hne h0 h1,h.fr⟩
 rcases List.mem_cons.1 hx with rfl | hx
 ·exact eval_eq a _ v (by rw[h.sz];exact hd)
 ·rw[eval_ne a _ _ v (hk x hx)];exact h.kp x hx
theorem step_load {P:Program} {ops:Array Oper} {o:Oper} {a:Act} {w:World} {K:Act->World->Prop} {Q:Exit->Act->World->Prop} {E:Prop} (hgd:o.guard=none) (t:TypeId) (x:Operand) (ho:o.op=.load t x) {u v:Value} (hx:a.eval x=u) (hr:(Instr.loadAt t u).run P w=.ok v w) (h:K (a.put o.dst v) w):if Region.wanted o (yielded ops a.tmps)=true then Oper.wp P o a w K Q else E:=by
 rw[if_pos (by simp[Region.wanted,hgd])]
 unfold Oper.wp execOp
 simp only[ho,Sem.run_bind,Sem.run_pure,Result.andThen_ok,hx,hr]
 exact h
def copyOps:Array Oper:=#[
 ⟨some 19,Op.fieldAddr 28 (.tmp 3) 0,0,"l3_tree.go:244",#[],none⟩,
 ⟨some 20,Op.load 26 (.tmp 19),26,"l3_tree.go:244",#[⟨0,.data⟩],none⟩,
 ⟨some 21,Op.fieldAddr 70 (.tmp 5) 0,0,"l3_tree.go:244",#[],none⟩,
 ⟨some 22,Op.load 4 (.tmp 21),4,"l3_tree.go:244",#[⟨2,.data⟩],none⟩,
 ⟨some 23,Op.fieldAddr 70 (.tmp 5) 1,0,"l3_tree.go:244",#[],none⟩,
 ⟨some 24,Op.load 2 (.tmp 23),2,"l3_tree.go:244",#[⟨4,.data⟩],none⟩,
 ⟨some 25,Op.buildSlice 43 0 #[],43,"l3_tree.go:244",#[],none⟩,
 ⟨some 26,Op.fieldAddr 70 (.tmp 5) 2,0,"l3_tree.go:244",#[],none⟩,
 ⟨some 27,Op.load 43 (.tmp 26),43,"l3_tree.go:244",#[⟨7,.data⟩],none⟩,
 ⟨some 28,Op.call { callee:=Callee.builtin Builtin.append,args:=#[Operand.tmp 25,Operand.tmp 27],argTypes:=#[43,43] },43,"l3_tree.go:244",#[⟨6,.data⟩,⟨8,.data⟩],none⟩,
 ⟨some 29,Op.buildSlice 43 0 #[],43,"l3_tree.go:244",#[],none⟩,
 ⟨some 30,Op.fieldAddr 70 (.tmp 5) 3,0,"l3_tree.go:244",#[],none⟩,
 ⟨some 31,Op.load 43 (.tmp 30),43,"l3_tree.go:244",#[⟨11,.data⟩],none⟩,
 ⟨some 32,Op.call { callee:=Callee.builtin Builtin.append,args:=#[Operand.tmp 29,Operand.tmp 31],argTypes:=#[43,43] },43,"l3_tree.go:244",#[⟨10,.data⟩,⟨12,.data⟩,⟨9,.chain⟩],none⟩,
 ⟨some 33,Op.buildSlice 44 0 #[],44,"l3_tree.go:244",#[],none⟩,
 ⟨some 34,Op.fieldAddr 70 (.tmp 5) 4,0,"l3_tree.go:244",#[],none⟩,
 ⟨some 35,Op.load 44 (.tmp 34),44,"l3_tree.go:244",#[⟨15,.data⟩],none⟩,
 ⟨some 36,Op.call { callee:=Callee.builtin Builtin.append,args:=#[Operand.tmp 33,Operand.tmp 35],argTypes:=#[44,44] },44,"l3_tree.go:244",#[⟨14,.data⟩,⟨16,.data⟩,⟨13,.chain⟩],none⟩,
 ⟨some 37,Op.buildSlice 44 0 #[],44,"l3_tree.go:244",#[],none⟩,
 ⟨some 38,Op.fieldAddr 70 (.tmp 5) 5,0,"l3_tree.go:244",#[],none⟩,
 ⟨some 39,Op.load 44 (.tmp 38),44,"l3_tree.go:244",#[⟨19,.data⟩],none⟩,
 ⟨some 40,Op.call { callee:=Callee.builtin Builtin.append,args:=#[Operand.tmp 37,Operand.tmp 39],argTypes:=#[44,44] },44,"l3_tree.go:244",#[⟨18,.data⟩,⟨20,.data⟩,⟨17,.chain⟩],none⟩,
 ⟨some 41,Op.build 70 #[(0,Operand.tmp 22),(1,Operand.tmp 24),(2,Operand.tmp 28),(3,Operand.tmp 32),(4,Operand.tmp 36),(5,Operand.tmp 40)],70,"l3_tree.go:244",#[⟨3,.data⟩,⟨5,.data⟩,⟨9,.data⟩,⟨13,.data⟩,⟨17,.data⟩,⟨21,.data⟩],none⟩,
 ⟨some 42,Op.buildSlice 26 1 #[(0,Operand.tmp 41)],26,"l3_tree.go:244",#[⟨22,.data⟩],none⟩,
 ⟨some 43,Op.call { callee:=Callee.builtin Builtin.append,args:=#[Operand.tmp 20,Operand.tmp 42],argTypes:=#[26,26] },26,"l3_tree.go:244",#[⟨1,.data⟩,⟨23,.data⟩,⟨21,.chain⟩],none⟩,
 ⟨some 44,Op.fieldAddr 28 (.tmp 3) 0,0,"l3_tree.go:244",#[⟨0,.phase⟩,⟨1,.phase⟩,⟨2,.phase⟩,⟨3,.phase⟩,⟨4,.phase⟩,⟨5,.phase⟩,⟨6,.phase⟩,⟨7,.phase⟩,⟨8,.phase⟩,⟨9,.phase⟩,⟨10,.phase⟩,⟨11,.phase⟩,⟨12,.phase⟩,⟨13,.phase⟩,⟨14,.phase⟩,⟨15,.phase⟩,⟨16,.phase⟩,⟨17,.phase⟩,⟨18,.phase⟩,⟨19,.phase⟩,⟨20,.phase⟩,⟨21,.phase⟩,⟨22,.phase⟩,⟨23,.phase⟩,⟨24,.phase⟩],none⟩,
 ⟨none,Op.store 26 (.tmp 44) (.tmp 43),0,"l3_tree.go:244",#[⟨25,.data⟩,⟨24,.data⟩,⟨24,.chain⟩,⟨0,.phase⟩,⟨1,.phase⟩,⟨2,.phase⟩,⟨3,.phase⟩,⟨4,.phase⟩,⟨5,.phase⟩,⟨6,.phase⟩,⟨7,.phase⟩,⟨8,.phase⟩,⟨9,.phase⟩,⟨10,.phase⟩,⟨11,.phase⟩,⟨12,.phase⟩,⟨13,.phase⟩,⟨14,.phase⟩,⟨15,.phase⟩,⟨16,.phase⟩,⟨17,.phase⟩,⟨18,.phase⟩,⟨19,.phase⟩,⟨20,.phase⟩,⟨21,.phase⟩,⟨22,.phase⟩,⟨23,.phase⟩,⟨24,.phase⟩],none⟩]
def copyL (p0 p1 p2 p3 q:Nat):Array Bool:=#[true,decide (1<=q),true,true,true,true,decide (1<=p0),true,true,decide (2<=p0),decide (1<=p1),true,true,decide (2<=p1),decide (1<=p2),true,true,decide (2<=p2),decide (1<=p3),true,true,decide (2<=p3),false,false,false,false,false]
def copyC (p0 p1 p2 p3:Nat):Bool:=(decide (p1<=1) || decide (p0=2)) && (decide (p2<=1) || decide (p1=2)) && (decide (p3<=1) || decide (p2=2))
def copyK (p0 p1 p2 p3 q i:Nat):Bool:=(i == 1 && q == 0) || (i == 6 && p0 == 0) || (i == 10 && p1 == 0) || (i == 14 && p2 == 0) || (i == 18 && p3 == 0) || (i == 9 && p0 == 1) || (i == 13 && p1 == 1 && p0 == 2) || (i == 17 && p2 == 1 && p1 == 2) || (i == 21 && p3 == 1 && p2 == 2)
def copyAll:Bool:=(List.range 3).all fun p0=>(List.range 3).all fun p1=>(List.range 3).all fun p2=>(List.range 3).all fun p3=>(List.range 2).all fun q=>!(copyC p0 p1 p2 p3) || (p0 == 2 && p1 == 2 && p2 == 2 && p3 == 2) || (!((Region.ready .any copyOps (copyL p0 p1 p2 p3 q)).isEmpty) && (Region.ready .any copyOps (copyL p0 p1 p2 p3 q)).all (fun i=>copyK p0 p1 p2 p3 q i))
theorem copyAll_true:copyAll=true:=by kernel_rfl
theorem copy_ready (p0:Nat) (h0:p0<3) (p1:Nat) (h1:p1<3) (p2:Nat) (h2:p2<3) (p3:Nat) (h3:p3<3) (q:Nat) (hq:q<2) (hC:copyC p0 p1 p2 p3=true) (hn:¬ (p0=2∧p1=2∧p2=2∧p3=2)):Region.ready .any copyOps (copyL p0 p1 p2 p3 q)≠[]∧(Region.ready .any copyOps (copyL p0 p1 p2 p3 q)).all (fun i=>copyK p0 p1 p2 p3 q i)=true:=by
 have h:=copyAll_true
 unfold copyAll at h
 have h:=List.all_eq_true.1 h p0 (List.mem_range.2 h0)
 have h:=List.all_eq_true.1 h p1 (List.mem_range.2 h1)
 have h:=List.all_eq_true.1 h p2 (List.mem_range.2 h2)
 have h:=List.all_eq_true.1 h p3 (List.mem_range.2 h3)
 have h:=List.all_eq_true.1 h q (List.mem_range.2 hq)
 rw[hC] at h
 simp only[Bool.not_true,Bool.false_or,Bool.or_eq_true,Bool.and_eq_true,beq_iff_eq] at h
 rcases h with h | h
 ·exact absurd ⟨h.1.1.1,h.1.1.2,h.1.2,h.2⟩ hn
 ·exact⟨fun e=>by rw[e] at h;simp at h,h.2⟩
def cda (j q:Nat):Nat:=22+3*q+4*j
theorem cda_inj (i r k s:Nat) (hi:i<4) (hk:k<4) (h1:0<r) (h2:r<=2) (h3:0<s) (h4:s<=2) (h5:i≠k):cda i r≠cda k s:=by unfold cda;omega
def ccon (xA:Nat->List Value) (j q:Nat):List Value:=if q=1 then [] else xA j
def clen (nA:Nat->Nat) (j q:Nat):Nat:=if q=1 then 0 else nA j
def ckeep (keep:List (Nat × Value)) (v:Value) (q:Nat):List (Nat × Value):=if q=0 then keep else (20,v)::keep
theorem ckeep_mem {keep:List (Nat × Value)} {v:Value} {q:Nat} {x:Nat × Value} (h:x ∈ keep):x ∈ ckeep keep v q:=by
 unfold ckeep
 split
 ·exact h
 ·exact List.mem_cons_of_mem _ h
theorem copy_walk {Q:Exit->Act->World->Prop} {S:World->Prop} {SZ M R:Nat} {Wd:World} (hM:M<=Wd.heap.size) (hS:∀ w,Fr (fun g=>M<=g) Wd w->S w) (hSZ:45<=SZ) (sA:Nat->Value) (xA:Nat->List Value) (nA:Nat->Nat) (keep:List (Nat × Value)) (hkeep:∀ x ∈ keep,x.1≠20∧∀ j,j<4->∀ q,0<q->q<=2->x.1≠cda j q) (hkA:∀ j,j<4->(27+4*j,sA j) ∈ keep)
  (hsA:∀ j,j<4->SrcAt Wd M (cS j) (nA j) (sA j) (xA j)) (ov:Value) (hk19:(19,.pointer (some ⟨R,0,none⟩)) ∈ keep) (hov:∀ w,Fr (fun g=>M<=g) Wd w->(Instr.loadAt 26 (.pointer (some ⟨R,0,none⟩))).run Tryz.prog w=.ok ov w)
  (hend:∀ q a w,q<2->JC SZ Wd M cda (ccon xA) (clen nA) (ckeep keep ov q) (fun _=>2) a w->wpAnyH Tryz.prog .any copyOps Q S (1 - q+5) (copyL 2 2 2 2 q) a w) :
  ∀ m p0 p1 p2 p3 q a w,p0<3->p1<3->p2<3->p3<3->q<2->copyC p0 p1 p2 p3=true->p0+p1+p2+p3+q+m=9->JC SZ Wd M cda (ccon xA) (clen nA) (ckeep keep ov q) (p4 p0 p1 p2 p3) a w->wpAnyH Tryz.prog .any copyOps Q S (m+5) (copyL p0 p1 p2 p3 q) a w:=by
 intro m
 induction m with
 | zero =>
  intro p0 p1 p2 p3 q a w h0 h1 h2 h3 hq hC hs hJ
  obtain rfl:p0=2:=by omega
  obtain rfl:p1=2:=by omega
  obtain rfl:p2=2:=by omega
  obtain rfl:p3=2:=by omega
  obtain rfl:q=1:=by omega
  exact hend 1 a w (by omega) (hJ.re (fun j hj=>by unfold p4;split;rfl;split;rfl;split;rfl;rfl))
 | succ m ih =>
  intro p0 p1 p2 p3 q a w h0 h1 h2 h3 hq hC hs hJ
  by_cases hn:p0=2∧p1=2∧p2=2∧p3=2
  ·obtain⟨rfl,rfl,rfl,rfl⟩:=hn
   obtain rfl:q=0:=by omega
   obtain rfl:m=0:=by omega
   exact hend 0 a w (by omega) (hJ.re (fun j hj=>by unfold p4;split;rfl;split;rfl;split;rfl;rfl))
  obtain⟨hne,hall⟩:=copy_ready p0 h0 p1 h1 p2 h2 p3 h3 q hq hC hn
  have hMw:M<=w.heap.size:=Nat.le_trans hM hJ.fr.size
  have hbel:Below M Wd w:=⟨hJ.fr.os,hJ.fr.tape,hJ.fr.output,hJ.fr.size,fun k hk=>hJ.fr.block k (by omega) (by omega)⟩
  have hpm:∀ i,i<4->p4 p0 p1 p2 p3 i<=2:=fun i hi=>by unfold p4;split;omega;split;omega;split;omega;omega
  have hkq:∀ x ∈ ckeep keep ov q,∀ j,j<4->∀ r,0<r->r<=2->x.1≠cda j r:=fun x hx j hj r h1 h2=>by
   unfold ckeep at hx
   split at hx
   ·exact (hkeep x hx).2 j hj r h1 h2
   ·rcases List.mem_cons.1 hx with rfl | hx
    ·show 20≠cda j r;unfold cda;omega
    ·exact (hkeep x hx).2 j hj r h1 h2
  have hmake:∀ j,j<4->p4 p0 p1 p2 p3 j=0->JC SZ Wd M cda (ccon xA) (clen nA) (ckeep keep ov q) (upP (p4 p0 p1 p2 p3) j 1) (a.put (some (cda j 1)) (.slice (some ⟨w.heap.size,0,none⟩) 0 0)) (w.alloc (.cells #[] (cE j))):=fun j hj hp =>
   hJ.move (mx:=2) hj (by omega) (by omega) hpm cda_inj (fun x hx=>hkq x hx j hj 1 (by omega) (by omega)) (by unfold cda;omega) hMw (emptyE w (cE j) (cS j) M hMw) ⟨rfl,rfl,rfl,by simp,fun k hk _=>((Below.refl w.heap.size w).alloc (Nat.le_refl _) _).block k hk⟩ (fun g hg=>.inr (by have:=own_some hg;omega))
  have happ:∀ j,j<4->p4 p0 p1 p2 p3 j=1->∀ v' w',w'.ownsRow M (cE j) (cS j) v' (clen nA j 2) (ccon xA j 2)->w.grownBy w' (a.eval (.tmp (cda j 1))).ownBlock->(v'.ownBlock=(a.eval (.tmp (cda j 1))).ownBlock∨∀ g,v'.ownBlock=some g->w.heap.size<=g)->JC SZ Wd M cda (ccon xA) (clen nA) (ckeep keep ov q) (upP (p4 p0 p1 p2 p3) j 2) (a.put (some (cda j 2)) v') w':=fun j hj hp v' w' g1 g2 g3 =>
   hJ.move (mx:=2) hj (by omega) (by omega) hpm cda_inj (fun x hx=>hkq x hx j hj 2 (by omega) (by omega)) (by unfold cda;omega) hMw g1 (Fr.of_grown g2 (fun g hg=>by rw[hp];exact⟨by omega,hg⟩)) (fun g hg=>by
    rcases g3 with e | e
    ·rw[e] at hg;exact .inl (by rw[hp];exact⟨by omega,hg⟩)
    ·exact .inr (e g hg))
  have hrow:∀ j,j<4->p4 p0 p1 p2 p3 j=1->w.ownsRow M (cE j) (cS j) (a.eval (.tmp (cda j 1))) (clen nA j 1) (ccon xA j 1):=fun j hj hp=>by have:=hJ.cur j hj (by omega);rw[hp] at this;exact this
  refine wpAnyH_all rfl hne (fun i hi=>?_)
  have hk:=List.all_eq_true.1 hall i hi
  clear hall hne hi
  simp only[copyK,Bool.or_eq_true,Bool.and_eq_true,beq_iff_eq] at hk
  rcases hk with ((((((((hk | hk) | hk) | hk) | hk) | hk) | hk) | hk) | hk)
  ·obtain rfl:i=1:=hk.1
   obtain rfl:q=0:=hk.2
   refine wpOp_step (ops:=copyOps) (o:=⟨some 20,Op.load 26 (.tmp 19),26,"l3_tree.go:244",#[⟨0,.data⟩],none⟩) rfl (fun K hK=>?_)
   refine step_load rfl _ _ rfl (hJ.kp _ hk19) (hov w hJ.fr) ?_
   have hJ2:=hJ.load (d:=20) (mx:=2) (v:=ov) (by omega) (fun x hx=>(hkeep x hx).1) hpm (fun j r hj h1 h2=>by unfold cda;omega)
   exact hK _ _ ⟨hS _ hJ2.fr,ih p0 p1 p2 p3 1 _ _ (by omega) (by omega) (by omega) (by omega) (by omega) hC (by omega) hJ2⟩
  ·obtain rfl:i=6:=hk.1
   obtain rfl:p0=0:=hk.2
   refine wpOp_step (ops:=copyOps) (o:=⟨some 25,Op.buildSlice 43 0 #[],43,"l3_tree.go:244",#[],none⟩) rfl (fun K hK=>?_)
   refine step_empty rfl 43 9 rfl (run_empty0 w) ?_
   have hJ2:=(hmake 0 (by omega) rfl).re (up4_0 0 p1 p2 p3 1)
   exact hK _ _ ⟨hS _ hJ2.fr,ih 1 p1 p2 p3 q _ _ (by omega) (by omega) (by omega) (by omega) (by omega) (by revert hC;unfold copyC;simp<;>omega) (by omega) hJ2⟩
  ·obtain rfl:i=10:=hk.1
   obtain rfl:p1=0:=hk.2
   refine wpOp_step (ops:=copyOps) (o:=⟨some 29,Op.buildSlice 43 0 #[],43,"l3_tree.go:244",#[],none⟩) rfl (fun K hK=>?_)
   refine step_empty rfl 43 9 rfl (run_empty0 w) ?_
   have hJ2:=(hmake 1 (by omega) rfl).re (up4_1 p0 0 p2 p3 1)
   exact hK _ _ ⟨hS _ hJ2.fr,ih p0 1 p2 p3 q _ _ (by omega) (by omega) (by omega) (by omega) (by omega) (by revert hC;unfold copyC;simp<;>omega) (by omega) hJ2⟩
  ·obtain rfl:i=14:=hk.1
   obtain rfl:p2=0:=hk.2
   refine wpOp_step (ops:=copyOps) (o:=⟨some 33,Op.buildSlice 44 0 #[],44,"l3_tree.go:244",#[],none⟩) rfl (fun K hK=>?_)
   refine step_empty rfl 44 2 rfl (run_empty2 w) ?_
   have hJ2:=(hmake 2 (by omega) rfl).re (up4_2 p0 p1 0 p3 1)
   exact hK _ _ ⟨hS _ hJ2.fr,ih p0 p1 1 p3 q _ _ (by omega) (by omega) (by omega) (by omega) (by omega) (by revert hC;unfold copyC;simp<;>omega) (by omega) hJ2⟩
  ·obtain rfl:i=18:=hk.1
   obtain rfl:p3=0:=hk.2
   refine wpOp_step (ops:=copyOps) (o:=⟨some 37,Op.buildSlice 44 0 #[],44,"l3_tree.go:244",#[],none⟩) rfl (fun K hK=>?_)
   refine step_empty rfl 44 2 rfl (run_empty2 w) ?_
   have hJ2:=(hmake 3 (by omega) rfl).re (up4_3 p0 p1 p2 0 1)
   exact hK _ _ ⟨hS _ hJ2.fr,ih p0 p1 p2 1 q _ _ (by omega) (by omega) (by omega) (by omega) (by omega) (by revert hC;unfold copyC;simp<;>omega) (by omega) hJ2⟩
  ·obtain rfl:i=9:=hk.1
   obtain rfl:p0=1:=hk.2
   refine wpOp_step (ops:=copyOps) (o:=⟨some 28,Op.call { callee:=Callee.builtin Builtin.append,args:=#[Operand.tmp 25,Operand.tmp 27],argTypes:=#[43,43] },43,"l3_tree.go:244",#[⟨6,.data⟩,⟨8,.data⟩],none⟩) rfl (fun K hK=>?_)
   obtain⟨i0,hi0,hz0,hz1,hz2⟩:=info_parts info_strC
   refine step_append_S rfl _ _ 43 rfl M 9 i0 _ 1 16 Tryz.underlying43 hi0 hz0 hz1 hz2 rfl (by decide) (by decide) _ _ _ rfl (hrow 0 (by omega) rfl) (by simp[clen]) _ M (nA 0) (xA 0) (hJ.kp _ (ckeep_mem (hkA 0 (by omega)))) ((hsA 0 (by omega)).below hbel) hMw ?_
   intro v' w' g1 g2 g3
   have hJ2:=(happ 0 (by omega) rfl v' w' (by have:=g1;simpa[clen,ccon,cE,cS] using this) g2 g3).re (up4_0 1 p1 p2 p3 2)
   exact hK _ _ ⟨hS _ hJ2.fr,ih 2 p1 p2 p3 q _ _ (by omega) (by omega) (by omega) (by omega) (by omega) (by revert hC;unfold copyC;simp<;>omega) (by omega) hJ2⟩
  ·obtain rfl:i=13:=hk.1.1
   obtain rfl:p1=1:=hk.1.2
   obtain rfl:p0=2:=hk.2
   refine wpOp_step (ops:=copyOps) (o:=⟨some 32,Op.call { callee:=Callee.builtin Builtin.append,args:=#[Operand.tmp 29,Operand.tmp 31],argTypes:=#[43,43] },43,"l3_tree.go:244",#[⟨10,.data⟩,⟨12,.data⟩,⟨9,.chain⟩],none⟩) rfl (fun K hK=>?_)
   obtain⟨i0,hi0,hz0,hz1,hz2⟩:=info_parts info_strC
   refine step_append_S rfl _ _ 43 rfl M 9 i0 _ 1 16 Tryz.underlying43 hi0 hz0 hz1 hz2 rfl (by decide) (by decide) _ _ _ rfl (hrow 1 (by omega) rfl) (by simp[clen]) _ M (nA 1) (xA 1) (hJ.kp _ (ckeep_mem (hkA 1 (by omega)))) ((hsA 1 (by omega)).below hbel) hMw ?_
   intro v' w' g1 g2 g3
   have hJ2:=(happ 1 (by omega) rfl v' w' (by have:=g1;simpa[clen,ccon,cE,cS] using this) g2 g3).re (up4_1 2 1 p2 p3 2)
   exact hK _ _ ⟨hS _ hJ2.fr,ih 2 2 p2 p3 q _ _ (by omega) (by omega) (by omega) (by omega) (by omega) (by revert hC;unfold copyC;simp<;>omega) (by omega) hJ2⟩
  ·obtain rfl:i=17:=hk.1.1
   obtain rfl:p2=1:=hk.1.2
   obtain rfl:p1=2:=hk.2
   refine wpOp_step (ops:=copyOps) (o:=⟨some 36,Op.call { callee:=Callee.builtin Builtin.append,args:=#[Operand.tmp 33,Operand.tmp 35],argTypes:=#[44,44] },44,"l3_tree.go:244",#[⟨14,.data⟩,⟨16,.data⟩,⟨13,.chain⟩],none⟩) rfl (fun K hK=>?_)
   obtain⟨i0,hi0,hz0,hz1,hz2⟩:=info_parts info_i64C
   refine step_append_S rfl _ _ 44 rfl M 2 i0 _ 1 8 Tryz.underlying44 hi0 hz0 hz1 hz2 rfl (by decide) (by decide) _ _ _ rfl (hrow 2 (by omega) rfl) (by simp[clen]) _ M (nA 2) (xA 2) (hJ.kp _ (ckeep_mem (hkA 2 (by omega)))) ((hsA 2 (by omega)).below hbel) hMw ?_
   intro v' w' g1 g2 g3
   have hJ2:=(happ 2 (by omega) rfl v' w' (by have:=g1;simpa[clen,ccon,cE,cS] using this) g2 g3).re (up4_2 p0 2 1 p3 2)
   exact hK _ _ ⟨hS _ hJ2.fr,ih p0 2 2 p3 q _ _ (by omega) (by omega) (by omega) (by omega) (by omega) (by revert hC;unfold copyC;simp<;>omega) (by omega) hJ2⟩
  ·obtain rfl:i=21:=hk.1.1
   obtain rfl:p3=1:=hk.1.2
   obtain rfl:p2=2:=hk.2
   refine wpOp_step (ops:=copyOps) (o:=⟨some 40,Op.call { callee:=Callee.builtin Builtin.append,args:=#[Operand.tmp 37,Operand.tmp 39],argTypes:=#[44,44] },44,"l3_tree.go:244",#[⟨18,.data⟩,⟨20,.data⟩,⟨17,.chain⟩],none⟩) rfl (fun K hK=>?_)
   obtain⟨i0,hi0,hz0,hz1,hz2⟩:=info_parts info_i64C
   refine step_append_S rfl _ _ 44 rfl M 2 i0 _ 1 8 Tryz.underlying44 hi0 hz0 hz1 hz2 rfl (by decide) (by decide) _ _ _ rfl (hrow 3 (by omega) rfl) (by simp[clen]) _ M (nA 3) (xA 3) (hJ.kp _ (ckeep_mem (hkA 3 (by omega)))) ((hsA 3 (by omega)).below hbel) hMw ?_
   intro v' w' g1 g2 g3
   have hJ2:=(happ 3 (by omega) rfl v' w' (by have:=g1;simpa[clen,ccon,cE,cS] using this) g2 g3).re (up4_3 p0 p1 2 1 2)
   exact hK _ _ ⟨hS _ hJ2.fr,ih p0 p1 2 2 q _ _ (by omega) (by omega) (by omega) (by omega) (by omega) (by revert hC;unfold copyC;simp<;>omega) (by omega) hJ2⟩
theorem qa_mono2 {α:Type} {w:World} {B m:Nat} {cs:α->List Value} {fit:α->Prop} {d:α} {a:Option Addr} {n c:Nat} {xs:List α} {Q Q':Nat->Prop} (hr:RowsAt w 0 B m cs fit d a n c xs) (hq:QA Q a n) (hQ:∀ b,Q b->b<B->Q' b):QA Q' a n:=fun h0=>by
 obtain⟨b,off,e,hb,_⟩:=hr.2.2.2.2 h0
 obtain⟨b2,off2,e2,h2⟩:=hq h0
 rw[e] at e2
 cases e2
 exact⟨b,off,e,hQ b h2 hb.2⟩
def TNQ (w:World) (B:Nat) (Q:Nat->Prop) (t:TN) (cs:List Value):Prop:=∃ (ka:Option Addr) (kn kc:Nat) (va:Option Addr) (vn vc:Nat) (oa:Option Addr) (on oc:Nat) (ya:Option Addr) (yn yc:Nat),cs=[.bool t.leaf,.int .i64 t.page,.slice ka kn kc,.slice va vn vc,.slice oa on oc,.slice ya yn yc]∧I64 t.page∧(StrsAt w 0 B ka kn kc t.keys∧QA Q ka kn)∧(StrsAt w 0 B va vn vc t.vals∧QA Q va vn)∧(IntsAt w 0 B oa on oc t.over∧QA Q oa on)∧IntsAt w 0 B ya yn yc t.kids∧QA Q ya yn
theorem TNQ.keep {w w':World} {B B':Nat} {Q Q':Nat->Prop} {t:TN} {cs:List Value} (h:TNQ w B Q t cs) (hk:∀ b,Q b->b<B->w'.heap[b]?=w.heap[b]?) (hQ:∀ b,Q b->b<B->Q' b) (hB:B<=B'):TNQ w' B' Q' t cs:=by
 obtain⟨ka,kn,kc,va,vn,vc,oa,on,oc,ya,yn,yc,e,h0,⟨h1,q1⟩,⟨h2,q2⟩,⟨h3,q3⟩,h4,q4⟩:=h
 exact⟨ka,kn,kc,va,vn,vc,oa,on,oc,ya,yn,yc,e,h0,⟨rows_keepQ h1 q1 hk hB,qa_mono2 h1 q1 hQ⟩,⟨rows_keepQ h2 q2 hk hB,qa_mono2 h2 q2 hQ⟩,⟨rows_keepQ h3 q3 hk hB,qa_mono2 h3 q3 hQ⟩,rows_keepQ h4 q4 hk hB,qa_mono2 h4 q4 hQ⟩
theorem TNQ.len {w:World} {B:Nat} {Q:Nat->Prop} {t:TN} {cs:List Value} (h:TNQ w B Q t cs):cs.length=6:=by
 obtain⟨ka,kn,kc,va,vn,vc,oa,on,oc,ya,yn,yc,rfl,_⟩:=h
 rfl
theorem rows_from {α:Type} {w:World} {A B m:Nat} {cs:α->List Value} {fit:α->Prop} {d:α} {a:Option Addr} {n c:Nat} {xs:List α} {Q:Nat->Prop} (hr:RowsAt w 0 B m cs fit d a n c xs) (hq:QA Q a n) (hQ:∀ b,Q b->A<=b):RowsAt w A B m cs fit d a n c xs:=by
 obtain⟨h1,h2,h3,h4,h5⟩:=hr
 refine⟨h1,h2,h3,h4,fun hn=>?_⟩
 obtain⟨b,off,e,hb,hc⟩:=h5 hn
 obtain⟨b2,off2,e2,hb2⟩:=hq hn
 rw[e] at e2
 cases e2
 exact⟨b,off,e,⟨hQ b hb2,hb.2⟩,hc⟩
structure CI (w wr:World) (N:Nat) (a:Option Addr) (n c:Nat) (ts:List TN) (j:Nat) (oa:Option Addr) (oc:Nat) (css:Nat->List Value):Prop where
 bel:Below N w wr
 sz:N+3<=wr.heap.size
 k0:wr.heap[N]?=some (.cells #[.slice a n c] 28)
 k1:wr.heap[N+1]?=some (.cells #[.slice none 0 0] 28)
 k2:wr.heap[N+2]?=some (.cells #[.slice oa j oc] 28)
 row:wr.ownsRow (N+3) 70 6 (.slice oa j oc) j (rowsC css j)
 nd:∀ i,i<j->TNQ wr wr.heap.size (fun b=>N+3<=b∧(Value.slice oa j oc).ownBlock≠some b) (ts.getD i dT) (css i)
theorem ci_step {w wr w1 w5:World} {N n c j:Nat} {a oa:Option Addr} {oc:Nat} {ts:List TN} {css:Nat->List Value} (h:CI w wr N a n c ts j oa oc css) {xc:Obj} (hf:Fr (fun g=>wr.heap.size+1<=g) (wr.alloc xc).drew w1) {cs:List Value} (hn:TNQ w1 w1.heap.size (fun b=>wr.heap.size+1<=b) (ts.getD j dT) cs) {nc:Obj} {x5:Option Addr} {y5:Nat} (g1:w5.ownsRow (N+3) 70 6 (.slice x5 (j+1) y5) (j+1) (rowsC css j++cs)) (g2:(w1.alloc nc).grownBy w5 (Value.slice oa j oc).ownBlock) (g3:(Value.slice x5 (j+1) y5).ownBlock=(Value.slice oa j oc).ownBlock∨∀ g,(Value.slice x5 (j+1) y5).ownBlock=some g->(w1.alloc nc).heap.size<=g):CI w (w5.setCell ⟨N+2,0,none⟩ (.slice x5 (j+1) y5)) N a n c ts (j+1) x5 y5 (fun i=>if i<j then css i else cs):=by
 have hsx:(wr.alloc xc).drew.heap.size=wr.heap.size+1:=by show (wr.alloc xc).heap.size=_;simp
 have s1:=hf.size
 have sA:(w1.alloc nc).heap.size=w1.heap.size+1:=by simp
 have s5:=g2.size
 have hst:=fr_setT w5 (N+2) 0 (.slice x5 (j+1) y5)
 have s6:=hst.size
 have hsz:=h.sz
 have ha:=(Below.refl wr.heap.size wr).alloc (Nat.le_refl _) xc
 have hb1:=(Below.refl w1.heap.size w1).alloc (Nat.le_refl _) nc
 have o0:∀ g,(Value.slice oa j oc).ownBlock=some g->N+3<=g∧g<wr.heap.size:=fun g hg=>h.row.lt g hg
 have e1:∀ g,g<wr.heap.size->w1.heap[g]?=wr.heap[g]?:=fun g hg=>(hf.block g (by omega) (by omega)).trans (ha.block g hg)
 have e5:∀ g,g<w1.heap.size->(Value.slice oa j oc).ownBlock≠some g->g≠N+2->(w5.setCell ⟨N+2,0,none⟩ (.slice x5 (j+1) y5)).heap[g]?=w1.heap[g]?:=fun g h1 h2 h3=>(hst.block g (by omega) h3).trans ((g2.block g (by omega) (fun e=>h2 e.symm)).trans (hb1.block g h1))
 have e6:∀ g,g<N+2->(w5.setCell ⟨N+2,0,none⟩ (.slice x5 (j+1) y5)).heap[g]?=wr.heap[g]?:=fun g hg=>(e5 g (by omega) (fun e=>by have:=o0 g e;omega) (by omega)).trans (e1 g (by omega))
 have k25:w5.heap[N+2]?=some (.cells #[.slice oa j oc] 28):=(g2.block (N+2) (by omega) (fun e=>by have:=o0 _ e.symm;omega)).trans ((hb1.block (N+2) (by omega)).trans ((e1 (N+2) (by omega)).trans h.k2))
 have h6:∀ i,i<j->(css i).length=6:=fun i hi=>(h.nd i hi).len
 have nq:∀ b,b<w1.heap.size->(Value.slice oa j oc).ownBlock≠some b->(Value.slice x5 (j+1) y5).ownBlock≠some b:=fun b hb hne e=>by
  rcases g3 with h9 | h9
  ·rw[h9] at e;exact hne e
  ·have:=h9 b e;omega
 refine⟨?_,by omega,(e6 N (by omega)).trans h.k0,(e6 (N+1) (by omega)).trans h.k1,by simpa using heap_setT k25 0 (.slice x5 (j+1) y5),?_,fun i hi=>?_⟩
 ·exact h.bel.trans ⟨hst.os.trans (g2.os.trans (hb1.os.trans (hf.os.trans ha.os))),hst.tape.trans (g2.tape.trans (hb1.tape.trans (hf.tape.trans ha.tape))),hst.output.trans (g2.output.trans (hb1.output.trans (hf.output.trans ha.output))),by omega,fun g hg=>e6 g (by omega)⟩
 ·rw[rowsC_succ,rowsC_congr (cs2:=fun i=>if i<j then css i else cs) (css:=css) (fun i hi=>by simp[hi])]
  simp only[Nat.lt_irrefl,if_false]
  exact owns_fr g1 hst (fun g hg e=>by have:=(g1.lt g hg).1;omega)
 ·by_cases hij:i<j
  ·simp only[if_pos hij]
   exact (h.nd i hij).keep (fun b hb hlt=>(e5 b (by omega) hb.2 (by omega)).trans (e1 b hlt)) (fun b hb hlt=>⟨hb.1,nq b (by omega) hb.2⟩) (by omega)
  ·obtain rfl:i=j:=by omega
   simp only[Nat.lt_irrefl,if_false]
   exact hn.keep (fun b hb hlt=>e5 b hlt (fun e=>by have:=o0 b e;omega) (by omega)) (fun b hb hlt=>⟨by omega,nq b hlt (fun e=>by have:=o0 b e;omega)⟩) (by omega)
theorem ci_nodes {w wr X:World} {N n c:Nat} {a oa:Option Addr} {oc:Nat} {ts:List TN} {css:Nat->List Value} (h:CI w wr N a n c ts n oa oc css) (hl:ts.length=n) (hf:Fr (fun g=>g=N+1) wr X) {A:Nat} (hA:A<=N+3):NodesAt X A X.heap.size oa n oc ts:=by
 have hR:=owns_fr h.row hf (fun g hg e=>by have:=(h.row.lt g hg).1;omega)
 have hN:∀ i,i<n->TNQ X X.heap.size (fun b=>N+3<=b) (ts.getD i dT) (css i):=fun i hi=>(h.nd i hi).keep (fun b hb hlt=>hf.block b hlt (by omega)) (fun b hb _=>hb.1) hf.size
 have h6:∀ i,i<n->(css i).length=6:=fun i hi=>(hN i hi).len
 have hrc:=rowsC_get (css:=css) (m:=n) h6
 have hnc:n<=oc∧oc<=maxLen:=by
  rcases hR.2 with ⟨e1,e2⟩ | ⟨g,cap,cur,e1,hg1,hg2,h1,h2,_⟩
  ·simp only[Value.slice.injEq] at e1
   obtain⟨_,rfl,rfl⟩:=e1
   exact⟨Nat.le_refl _,by unfold maxLen;omega⟩
  ·simp only[Value.slice.injEq] at e1
   obtain⟨_,_,rfl⟩:=e1
   exact⟨h1,h2⟩
 refine⟨hl,hnc.1,hnc.2,fun h0=>?_⟩
 obtain⟨g,c',e⟩:=some_of_pos hR h0
 simp only[Value.slice.injEq] at e
 obtain⟨rfl,_,rfl⟩:=e
 have hlt:=hR.lt g rfl
 refine⟨g,0,rfl,⟨by omega,hlt.2⟩,fun i hi=>?_⟩
 have hc:∀ r,r<6->X.cell? ⟨g,0+i*6+r,none⟩=(css i)[r]?:=fun r hr=>by
  rw[Nat.zero_add,hR.cellAt (i*6+r) (by omega)]
  exact hrc.2 i r hi hr
 obtain⟨ka,kn,kc,va,vn,vc,oa',on,oc',ya,yn,yc,e,q0,⟨h1,q1⟩,⟨h2,q2⟩,⟨h3,q3⟩,h4,q4⟩:=hN i hi
 rw[e] at hc
 have hQ:∀ b,N+3<=b->A<=b:=fun b hb=>by omega
 exact⟨ka,kn,kc,va,vn,vc,oa',on,oc',ya,yn,yc,by simpa using hc 0 (by omega),by simpa using hc 1 (by omega),by simpa using hc 2 (by omega),by simpa using hc 3 (by omega),by simpa using hc 4 (by omega),by simpa using hc 5 (by omega),q0,rows_from h1 q1 hQ,rows_from h2 q2 hQ,rows_from h3 q3 hQ,rows_from h4 q4 hQ⟩
theorem arr46 (A:Array Value) (h:A.size=46):∃ t0 t1 t2 t3 t4 t5 t6 t7 t8 t9 t10 t11 t12 t13 t14 t15 t16 t17 t18 t19 t20 t21 t22 t23 t24 t25 t26 t27 t28 t29 t30 t31 t32 t33 t34 t35 t36 t37 t38 t39 t40 t41 t42 t43 t44 t45:Value,A=#[t0,t1,t2,t3,t4,t5,t6,t7,t8,t9,t10,t11,t12,t13,t14,t15,t16,t17,t18,t19,t20,t21,t22,t23,t24,t25,t26,t27,t28,t29,t30,t31,t32,t33,t34,t35,t36,t37,t38,t39,t40,t41,t42,t43,t44,t45]:=by
 obtain⟨l⟩:=A
 match l,h with
 | t0::t1::t2::t3::t4::t5::t6::t7::t8::t9::t10::t11::t12::t13::t14::t15::t16::t17::t18::t19::t20::t21::t22::t23::t24::t25::t26::t27::t28::t29::t30::t31::t32::t33::t34::t35::t36::t37::t38::t39::t40::t41::t42::t43::t44::t45::[],_=>exact⟨t0,t1,t2,t3,t4,t5,t6,t7,t8,t9,t10,t11,t12,t13,t14,t15,t16,t17,t18,t19,t20,t21,t22,t23,t24,t25,t26,t27,t28,t29,t30,t31,t32,t33,t34,t35,t36,t37,t38,t39,t40,t41,t42,t43,t44,t45,rfl⟩
theorem src_one6 {w:World} {g ty:Nat} {c0 c1 c2 c3 c4 c5:Value} (hk:w.heap[g]?=some (.cells #[c0,c1,c2,c3,c4,c5] ty)) (h1:∀ u ∈ [c0,c1,c2,c3,c4,c5],u.oneCell'=true):SrcAt w w.heap.size 6 1 (.slice (some ⟨g,0,none⟩) 1 1) [c0,c1,c2,c3,c4,c5]:=by
 have hlt:=(Array.getElem?_eq_some_iff.1 hk).1
 refine⟨rfl,by omega,h1,some ⟨g,0,none⟩,1,rfl,(fun e=>by cases e),fun _=>⟨g,0,rfl⟩,fun x hx j u hj=>?_⟩
 cases hx
 have hj6:=(List.getElem?_eq_some_iff.1 hj).1
 have hj6':j=0∨j=1∨j=2∨j=3∨j=4∨j=5:=by simp at hj6;omega
 rcases hj6' with rfl | rfl | rfl | rfl | rfl | rfl<;>(simp at hj;subst hj;exact⟨hlt,by simp[Addr.add,World.cell?,hk]⟩)
theorem owns_nilX (w:World) (base e size:Nat):w.ownsRow base e size (.slice none 0 0) 0 (rowsC (fun _=>[]) 0):=⟨by simp[rowsC],Or.inl ⟨rfl,rfl⟩⟩
theorem srcAt_up {w:World} {B B' size m:Nat} {v:Value} {xs:List Value} (h:SrcAt w B size m v xs) (hB:B<=B'):SrcAt w B' size m v xs:=by
 obtain⟨h1,h2,h3,ad,c,e,h4,h6,h5⟩:=h
 exact⟨h1,h2,h3,ad,c,e,h4,h6,fun x hx j u hj=>⟨Nat.lt_of_lt_of_le (h5 x hx j u hj).1 hB,(h5 x hx j u hj).2⟩⟩
theorem l3Copy_any (ts:List TN) (a:Option Addr) (n c A B:Nat) (w:World) (hB:B<=w.heap.size) (hT:NodesAt w A B a n c ts) (hn:n<=1048576) (hb:∀ x ∈ ts,NodeLen x) :
  Calls Tryz.prog 15 #[.agg #[.slice a n c]] w fun e w'=>∃ a' c',e=.returned (.agg #[.slice a' n c'])∧NodesAt w' w.heap.size w'.heap.size a' n c' ts∧Below w.heap.size w w':=by
 obtain⟨N,hN⟩:∃ N,w.heap.size=N:=⟨_,rfl⟩
 have HT:Hid (NodesAt w A B a n c ts∧∀ x ∈ ts,NodeLen x):=⟨hT,hb⟩
 obtain⟨W,hW⟩:∃ W,W=((w.alloc (.cells #[.slice a n c] 28)).alloc (.cells #[.slice none 0 0] 28)).alloc (.cells #[.slice none 0 0] 28):=⟨_,rfl⟩
 have a3:=alloc3 w (.cells #[.slice a n c] 28) (.cells #[.slice none 0 0] 28) (.cells #[.slice none 0 0] 28)
 rw[<-hW,hN] at a3
 obtain⟨k0,k1,k2⟩:=a3
 have bW:Below N w W:=by rw[hW,<-hN];exact (((Below.refl _ _).alloc (Nat.le_refl _) _).alloc (by simp) _).alloc (by simp;omega) _
 have sW:W.heap.size=N+3:=by rw[hW];simp[hN]
 have HC0:Hid (CI w W N a n c ts 0 none 0 (fun _=>[])):=⟨bW,by omega,k0,k1,k2,owns_nilX W _ _ _,fun i hi=>by omega⟩
 have hnc:=hT.2.1
 have hcm:=hT.2.2.1
 unfold maxLen at hcm
 obtain⟨iT,hiT,ht0,ht1,ht2⟩:=info_parts info_TNodeT
 clear hT hb
 go_enter Tryz.func15,Tryz.ntmps15
 go_upto_region 2 with fail
 rw[<-hW]
 clear hW k0 k1 k2 bW sW
 go_wp2_with fail
 go_loopw [4] (fun i wr=>∃ (j:Nat) (oa:Option Addr) (oc:Nat) (css:Nat->List Value),j<=n∧i=.int .i64 j∧CI w wr N a n c ts j oa oc css) (fun i _=>n - (intOf i).toNat)
 case atStart=>exact⟨0,none,0,_,Nat.zero_le _,rfl,HC0.out⟩
 case round =>
  obtain⟨j,oa',oc',css,hj,rfl,hI⟩:=hrel
  have HI:Hid _:=hI
  have sr:=hI.sz
  have kr0:=hI.k0
  have kr2:=hI.k2
  have kr1:=hI.k1
  have x0:=cell_one_at kr0
  have x2:=cell_one_at kr2
  have x1:=cell_one_at kr1
  by_cases hlt:j<n
  ·obtain⟨ba,off,ra,hbl,ka,kn,kc,va,vn,vc,oa,on,oc,ya,yn,yc,hnd⟩:=(HT.out.1.below (hI.bel.mono (hN ▸ hB))).at hlt
   subst ra
   have hlen:NodeLen (ts.getD j dT):=by
    rw[List.getD_eq_getElem?_getD,List.getElem?_eq_getElem (by have:=HT.out.1.1;omega)]
    exact HT.out.2 _ (List.getElem_mem _)
   have HND:Hid (TNodeIs wr A B ba (off+j*6) (ts.getD j dT) ka kn kc va vn vc oa on oc ya yn yc∧NodeLen (ts.getD j dT)):=⟨hnd,hlen⟩
   have c0:=hnd.c0
   have c1:=hnd.c1
   have c2:=hnd.c2
   have c3:=hnd.c3
   have c4:=hnd.c4
   have c5:=hnd.c5
   obtain⟨lf,hlf⟩:∃ lf,(ts.getD j dT).leaf=lf:=⟨_,rfl⟩
   obtain⟨pg,hpg⟩:∃ pg,(ts.getD j dT).page=pg:=⟨_,rfl⟩
   have HLP:Hid ((ts.getD j dT).leaf=lf∧(ts.getD j dT).page=pg):=⟨hlf,hpg⟩
   rw[hlf] at c0
   rw[hpg] at c1
   clear hnd hlen hlf hpg hI
   go_upto_region 6 with fail
   have kx:=heap_alloc_new wr (.cells #[.bool lf,.int .i64 pg,.slice ka kn kc,.slice va vn vc,.slice oa on oc,.slice ya yn yc] 70)
   have hbx:=(Below.refl wr.heap.size wr).alloc (Nat.le_refl _) (.cells #[.bool lf,.int .i64 pg,.slice ka kn kc,.slice va vn vc,.slice oa on oc,.slice ya yn yc] 70)
   have sx:(wr.alloc (.cells #[.bool lf,.int .i64 pg,.slice ka kn kc,.slice va vn vc,.slice oa on oc,.slice ya yn yc] 70)).heap.size=wr.heap.size+1:=by simp
   have HF:Hid (∀ w1:World,Fr (fun g=>wr.heap.size+1<=g) (wr.alloc (.cells #[.bool lf,.int .i64 pg,.slice ka kn kc,.slice va vn vc,.slice oa on oc,.slice ya yn yc] 70)).drew w1->w1.heap[wr.heap.size]?=some (.cells #[.bool lf,.int .i64 pg,.slice ka kn kc,.slice va vn vc,.slice oa on oc,.slice ya yn yc] 70)∧∀ g,g<wr.heap.size->w1.heap[g]?=wr.heap[g]?):=fun w1 hf=>⟨(hf.block _ (by show _<(wr.alloc (.cells #[.bool lf,.int .i64 pg,.slice ka kn kc,.slice va vn vc,.slice oa on oc,.slice ya yn yc] 70)).heap.size;omega) (by omega)).trans kx,fun g hg=>(hf.block g (by show _<(wr.alloc (.cells #[.bool lf,.int .i64 pg,.slice ka kn kc,.slice va vn vc,.slice oa on oc,.slice ya yn yc] 70)).heap.size;omega) (by omega)).trans (hbx.block g hg)⟩
   have HSA:Hid (∀ j',j'<4->SrcAt (wr.alloc (.cells #[.bool lf,.int .i64 pg,.slice ka kn kc,.slice va vn vc,.slice oa on oc,.slice ya yn yc] 70)).drew (wr.heap.size+1) (cS j') ((fun j=>if j=0 then kn else if j=1 then vn else if j=2 then on else yn) j') ((fun j=>if j=0 then .slice ka kn kc else if j=1 then .slice va vn vc else if j=2 then .slice oa on oc else .slice ya yn yc) j') ((fun j'=>if j'=0 then rowsOf strCells (ts.getD j dT).keys else if j'=1 then rowsOf strCells (ts.getD j dT).vals else if j'=2 then rowsOf intCells (ts.getD j dT).over else rowsOf intCells (ts.getD j dT).kids) j')):=fun j' hj'=>by
    have hd:=HND.out.1
    have hl:=HND.out.2
    have hsB:B<=wr.heap.size:=by have:=HI.out.bel.size;omega
    have hbb:Below B wr (wr.alloc (.cells #[.bool lf,.int .i64 pg,.slice ka kn kc,.slice va vn vc,.slice oa on oc,.slice ya yn yc] 70)).drew:=(hbx.mono hsB).trans ((Below.refl _ _).drew)
    have up:∀ {sz m:Nat} {v:Value} {xs:List Value},SrcAt wr B sz m v xs->SrcAt (wr.alloc (.cells #[.bool lf,.int .i64 pg,.slice ka kn kc,.slice va vn vc,.slice oa on oc,.slice ya yn yc] 70)).drew (wr.heap.size+1) sz m v xs:=fun h=>srcAt_up (h.below hbb) (by omega)
    have hj4:j'=0∨j'=1∨j'=2∨j'=3:=by omega
    rcases hj4 with rfl | rfl | rfl | rfl
    ·show SrcAt _ _ 1 kn (.slice ka kn kc) (rowsOf strCells (ts.getD j dT).keys)
     exact up (srcRows sc1 (strs_one _) hd.keys (by have:=hd.keys.1;have:=hl.1;omega))
    ·show SrcAt _ _ 1 vn (.slice va vn vc) (rowsOf strCells (ts.getD j dT).vals)
     exact up (srcRows sc1 (strs_one _) hd.vals (by have:=hd.vals.1;have:=hl.2.1;omega))
    ·show SrcAt _ _ 1 on (.slice oa on oc) (rowsOf intCells (ts.getD j dT).over)
     exact up (srcRows ic1 (ints_one _) hd.over (by have:=hd.over.1;have:=hl.2.2.1;omega))
    ·show SrcAt _ _ 1 yn (.slice ya yn yc) (rowsOf intCells (ts.getD j dT).kids)
     exact up (srcRows ic1 (ints_one _) hd.kids (by have:=hd.kids.1;have:=hl.2.2.2;omega))
   have HNEW:Hid (∀ w1 U0 U1 U2 U3,Fr (fun g=>wr.heap.size+1<=g) (wr.alloc (.cells #[.bool lf,.int .i64 pg,.slice ka kn kc,.slice va vn vc,.slice oa on oc,.slice ya yn yc] 70)).drew w1->w1.ownsRow (wr.heap.size+1) 9 1 U0 kn (rowsOf strCells (ts.getD j dT).keys)->w1.ownsRow (wr.heap.size+1) 9 1 U1 vn (rowsOf strCells (ts.getD j dT).vals)->w1.ownsRow (wr.heap.size+1) 2 1 U2 on (rowsOf intCells (ts.getD j dT).over)->w1.ownsRow (wr.heap.size+1) 2 1 U3 yn (rowsOf intCells (ts.getD j dT).kids)->∃ u0 v0 u1 v1 u2 v2 u3 v3,U0=.slice u0 kn v0∧U1=.slice u1 vn v1∧U2=.slice u2 on v2∧U3=.slice u3 yn v3∧TNQ w1 w1.heap.size (fun b=>wr.heap.size+1<=b) (ts.getD j dT) [.bool lf,.int .i64 pg,.slice u0 kn v0,.slice u1 vn v1,.slice u2 on v2,.slice u3 yn v3]):=by
    intro w1 U0 U1 U2 U3 hf r0 r1 r2 r3
    have hd:=HND.out.1
    obtain⟨u0,v0,rfl,s0⟩:=rowsAt_own (fit:=strFit) (d:=ByteArray.empty) sc1 r0 (fun x hx=>rowsAt_fits hd.keys x hx)
    obtain⟨u1,v1,rfl,s1⟩:=rowsAt_own (fit:=strFit) (d:=ByteArray.empty) sc1 r1 (fun x hx=>rowsAt_fits hd.vals x hx)
    obtain⟨u2,v2,rfl,s2⟩:=rowsAt_own (fit:=I64) (d:=0) ic1 r2 (fun x hx=>rowsAt_fits hd.over x hx)
    obtain⟨u3,v3,rfl,s3⟩:=rowsAt_own (fit:=I64) (d:=0) ic1 r3 (fun x hx=>rowsAt_fits hd.kids x hx)
    exact⟨u0,v0,u1,v1,u2,v2,u3,v3,rfl,rfl,rfl,rfl,u0,kn,v0,u1,vn,v1,u2,on,v2,u3,yn,v3,by rw[HLP.out.1,HLP.out.2],hd.page,⟨s0,own_qa r0⟩,⟨s1,own_qa r1⟩,⟨s2,own_qa r2⟩,s3,own_qa r3⟩
   clear c0 c1 c2 c3 c4 c5 x0 x1 x2 hbx kx
   refine wp_region_noPanic ?_
   refine wp_region_held_drew (S:=(fun w':World=>w'.heap[wr.heap.size]?=some (.cells #[.bool lf,.int .i64 pg,.slice ka kn kc,.slice va vn vc,.slice oa on oc,.slice ya yn yc] 70))) (by kernel_rfl) ((HF.out (wr.alloc (.cells #[.bool lf,.int .i64 pg,.slice ka kn kc,.slice va vn vc,.slice oa on oc,.slice ya yn yc] 70)).drew (Fr.refl _ _)).1) (fun hHeld=>?_)
   refine wpAnyH_take (i:=0) (oi:=⟨some 19,Op.fieldAddr 28 (.tmp 3) 0,0,"l3_tree.go:244",#[],none⟩) (v:=.pointer (some ⟨N+2,0,none⟩)) rfl (by kernel_rfl) (by kernel_rfl) (by kernel_rfl) (fun _ _ _ h=>h) (Or.inl ⟨by rfl,?_⟩) (by assumption) ?_
   ·intro wq hSw;go_simp
   try simp only[Act.put,q1,q2,q3]
   refine wpAnyH_take (i:=2) (oi:=⟨some 21,Op.fieldAddr 70 (.tmp 5) 0,0,"l3_tree.go:244",#[],none⟩) (v:=.pointer (some ⟨wr.heap.size,0,none⟩)) rfl (by kernel_rfl) (by kernel_rfl) (by kernel_rfl) (fun _ _ _ h=>h) (Or.inl ⟨by rfl,?_⟩) (by assumption) ?_
   ·intro wq hSw;go_simp
   try simp only[Act.put,q1,q2,q3]
   refine wpAnyH_take (i:=3) (oi:=⟨some 22,Op.load 4 (.tmp 21),4,"l3_tree.go:244",#[⟨2,.data⟩],none⟩) (v:=.bool lf) rfl (by kernel_rfl) (by kernel_rfl) (by kernel_rfl) (fun _ _ _ h=>h) (Or.inl ⟨by rfl,?_⟩) (by assumption) ?_
   ·intro wq hSw;(try dsimp only at hSw);obtain⟨y0,y1,y2,y3,y4,y5⟩:=box6g hSw;go_simp
   try simp only[Act.put,q1,q2,q3]
   refine wpAnyH_take (i:=4) (oi:=⟨some 23,Op.fieldAddr 70 (.tmp 5) 1,0,"l3_tree.go:244",#[],none⟩) (v:=.pointer (some ⟨wr.heap.size,1,none⟩)) rfl (by kernel_rfl) (by kernel_rfl) (by kernel_rfl) (fun _ _ _ h=>h) (Or.inl ⟨by rfl,?_⟩) (by assumption) ?_
   ·intro wq hSw;go_simp
   try simp only[Act.put,q1,q2,q3]
   refine wpAnyH_take (i:=5) (oi:=⟨some 24,Op.load 2 (.tmp 23),2,"l3_tree.go:244",#[⟨4,.data⟩],none⟩) (v:=.int .i64 pg) rfl (by kernel_rfl) (by kernel_rfl) (by kernel_rfl) (fun _ _ _ h=>h) (Or.inl ⟨by rfl,?_⟩) (by assumption) ?_
   ·intro wq hSw;(try dsimp only at hSw);obtain⟨y0,y1,y2,y3,y4,y5⟩:=box6g hSw;go_simp
   try simp only[Act.put,q1,q2,q3]
   refine wpAnyH_take (i:=7) (oi:=⟨some 26,Op.fieldAddr 70 (.tmp 5) 2,0,"l3_tree.go:244",#[],none⟩) (v:=.pointer (some ⟨wr.heap.size,2,none⟩)) rfl (by kernel_rfl) (by kernel_rfl) (by kernel_rfl) (fun _ _ _ h=>h) (Or.inl ⟨by rfl,?_⟩) (by assumption) ?_
   ·intro wq hSw;go_simp
   try simp only[Act.put,q1,q2,q3]
   refine wpAnyH_take (i:=8) (oi:=⟨some 27,Op.load 43 (.tmp 26),43,"l3_tree.go:244",#[⟨7,.data⟩],none⟩) (v:=.slice ka kn kc) rfl (by kernel_rfl) (by kernel_rfl) (by kernel_rfl) (fun _ _ _ h=>h) (Or.inl ⟨by rfl,?_⟩) (by assumption) ?_
   ·intro wq hSw;(try dsimp only at hSw);obtain⟨y0,y1,y2,y3,y4,y5⟩:=box6g hSw;go_simp
   try simp only[Act.put,q1,q2,q3]
   refine wpAnyH_take (i:=11) (oi:=⟨some 30,Op.fieldAddr 70 (.tmp 5) 3,0,"l3_tree.go:244",#[],none⟩) (v:=.pointer (some ⟨wr.heap.size,3,none⟩)) rfl (by kernel_rfl) (by kernel_rfl) (by kernel_rfl) (fun _ _ _ h=>h) (Or.inl ⟨by rfl,?_⟩) (by assumption) ?_
   ·intro wq hSw;go_simp
   try simp only[Act.put,q1,q2,q3]
   refine wpAnyH_take (i:=12) (oi:=⟨some 31,Op.load 43 (.tmp 30),43,"l3_tree.go:244",#[⟨11,.data⟩],none⟩) (v:=.slice va vn vc) rfl (by kernel_rfl) (by kernel_rfl) (by kernel_rfl) (fun _ _ _ h=>h) (Or.inl ⟨by rfl,?_⟩) (by assumption) ?_
   ·intro wq hSw;(try dsimp only at hSw);obtain⟨y0,y1,y2,y3,y4,y5⟩:=box6g hSw;go_simp
   try simp only[Act.put,q1,q2,q3]
   refine wpAnyH_take (i:=15) (oi:=⟨some 34,Op.fieldAddr 70 (.tmp 5) 4,0,"l3_tree.go:244",#[],none⟩) (v:=.pointer (some ⟨wr.heap.size,4,none⟩)) rfl (by kernel_rfl) (by kernel_rfl) (by kernel_rfl) (fun _ _ _ h=>h) (Or.inl ⟨by rfl,?_⟩) (by assumption) ?_
   ·intro wq hSw;go_simp
   try simp only[Act.put,q1,q2,q3]
   refine wpAnyH_take (i:=16) (oi:=⟨some 35,Op.load 44 (.tmp 34),44,"l3_tree.go:244",#[⟨15,.data⟩],none⟩) (v:=.slice oa on oc) rfl (by kernel_rfl) (by kernel_rfl) (by kernel_rfl) (fun _ _ _ h=>h) (Or.inl ⟨by rfl,?_⟩) (by assumption) ?_
   ·intro wq hSw;(try dsimp only at hSw);obtain⟨y0,y1,y2,y3,y4,y5⟩:=box6g hSw;go_simp
   try simp only[Act.put,q1,q2,q3]
   refine wpAnyH_take (i:=19) (oi:=⟨some 38,Op.fieldAddr 70 (.tmp 5) 5,0,"l3_tree.go:244",#[],none⟩) (v:=.pointer (some ⟨wr.heap.size,5,none⟩)) rfl (by kernel_rfl) (by kernel_rfl) (by kernel_rfl) (fun _ _ _ h=>h) (Or.inl ⟨by rfl,?_⟩) (by assumption) ?_
   ·intro wq hSw;go_simp
   try simp only[Act.put,q1,q2,q3]
   refine wpAnyH_take (i:=20) (oi:=⟨some 39,Op.load 44 (.tmp 38),44,"l3_tree.go:244",#[⟨19,.data⟩],none⟩) (v:=.slice ya yn yc) rfl (by kernel_rfl) (by kernel_rfl) (by kernel_rfl) (fun _ _ _ h=>h) (Or.inl ⟨by rfl,?_⟩) (by assumption) ?_
   ·intro wq hSw;(try dsimp only at hSw);obtain⟨y0,y1,y2,y3,y4,y5⟩:=box6g hSw;go_simp
   try simp only[Act.put,q1,q2,q3]
   refine wpAnyH_cast (ops':=copyOps) (l':=copyL 0 0 0 0 0) (fuel':=9+5) (by kernel_rfl) (by kernel_rfl) rfl ?_
   refine copy_walk (SZ:=46) (M:=wr.heap.size+1) (R:=N+2) (Wd:=(wr.alloc (.cells #[.bool lf,.int .i64 pg,.slice ka kn kc,.slice va vn vc,.slice oa on oc,.slice ya yn yc] 70)).drew) (by show _<=(wr.alloc (.cells #[.bool lf,.int .i64 pg,.slice ka kn kc,.slice va vn vc,.slice oa on oc,.slice ya yn yc] 70)).heap.size;omega) (fun w' hf=>(HF.out w' hf).1) (by omega) (fun j=>if j=0 then .slice ka kn kc else if j=1 then .slice va vn vc else if j=2 then .slice oa on oc else .slice ya yn yc) (fun j'=>if j'=0 then rowsOf strCells (ts.getD j dT).keys else if j'=1 then rowsOf strCells (ts.getD j dT).vals else if j'=2 then rowsOf intCells (ts.getD j dT).over else rowsOf intCells (ts.getD j dT).kids) (fun j=>if j=0 then kn else if j=1 then vn else if j=2 then on else yn) [(0,.agg #[.slice (some ⟨ba,off,none⟩) n c]),(1,.pointer (some ⟨N,0,none⟩)),(2,.pointer (some ⟨N+1,0,none⟩)),(3,.pointer (some ⟨N+2,0,none⟩)),(4,.int .i64 j),(19,.pointer (some ⟨N+2,0,none⟩)),(22,.bool lf),(24,.int .i64 pg),(27,.slice ka kn kc),(31,.slice va vn vc),(35,.slice oa on oc),(39,.slice ya yn yc),(6,.agg #[.slice none 0 0]),(45,undef)] ?_ ?_ HSA.out (.slice oa' j oc') (by simp) ?_ ?_ 9 0 0 0 0 0 _ _ (by omega) (by omega) (by omega) (by omega) (by omega) rfl rfl ?_
   ·intro x hx
    simp only[List.mem_cons,List.not_mem_nil,or_false] at hx
    rcases hx with rfl | rfl | rfl | rfl | rfl | rfl | rfl | rfl | rfl | rfl | rfl | rfl | rfl | rfl<;>(dsimp only;refine⟨by omega,fun j hj q h1 h2=>?_⟩;unfold cda;omega)
   ·intro j' hj'
    have hj4:j'=0∨j'=1∨j'=2∨j'=3:=by omega
    rcases hj4 with rfl | rfl | rfl | rfl<;>simp
   ·intro w' hf
    have y2:=cell_one_at (((HF.out w' hf).2 (N+2) (by omega)).trans kr2)
    go_simp
   ·intro q a1 w1 hq hJ
    have r0:w1.ownsRow (wr.heap.size+1) 9 1 (a1.eval (.tmp 28)) kn (rowsOf strCells (ts.getD j dT).keys):=hJ.cur 0 (by omega) (by omega)
    have r1:w1.ownsRow (wr.heap.size+1) 9 1 (a1.eval (.tmp 32)) vn (rowsOf strCells (ts.getD j dT).vals):=hJ.cur 1 (by omega) (by omega)
    have r2:w1.ownsRow (wr.heap.size+1) 2 1 (a1.eval (.tmp 36)) on (rowsOf intCells (ts.getD j dT).over):=hJ.cur 2 (by omega) (by omega)
    have r3:w1.ownsRow (wr.heap.size+1) 2 1 (a1.eval (.tmp 40)) yn (rowsOf intCells (ts.getD j dT).kids):=hJ.cur 3 (by omega) (by omega)
    obtain⟨u0,v0,u1,v1,u2,v2,u3,v3,e28,e32,e36,e40,hTN⟩:=HNEW.out w1 _ _ _ _ hJ.fr r0 r1 r2 r3
    have HTN:Hid _:=hTN
    have HFR:Hid _:=hJ.fr
    have e0:a1.eval (.tmp 0)=.agg #[.slice (some ⟨ba,off,none⟩) n c]:=hJ.kp (0,.agg #[.slice (some ⟨ba,off,none⟩) n c]) (ckeep_mem (by simp))
    have e1:a1.eval (.tmp 1)=.pointer (some ⟨N,0,none⟩):=hJ.kp (1,.pointer (some ⟨N,0,none⟩)) (ckeep_mem (by simp))
    have e2:a1.eval (.tmp 2)=.pointer (some ⟨N+1,0,none⟩):=hJ.kp (2,.pointer (some ⟨N+1,0,none⟩)) (ckeep_mem (by simp))
    have e3:a1.eval (.tmp 3)=.pointer (some ⟨N+2,0,none⟩):=hJ.kp (3,.pointer (some ⟨N+2,0,none⟩)) (ckeep_mem (by simp))
    have e4:a1.eval (.tmp 4)=.int .i64 j:=hJ.kp (4,.int .i64 j) (ckeep_mem (by simp))
    have e22:a1.eval (.tmp 22)=.bool lf:=hJ.kp (22,.bool lf) (ckeep_mem (by simp))
    have e24:a1.eval (.tmp 24)=.int .i64 pg:=hJ.kp (24,.int .i64 pg) (ckeep_mem (by simp))
    have e19:a1.eval (.tmp 19)=.pointer (some ⟨N+2,0,none⟩):=hJ.kp (19,.pointer (some ⟨N+2,0,none⟩)) (ckeep_mem (by simp))
    have e6:a1.eval (.tmp 6)=.agg #[.slice none 0 0]:=hJ.kp (6,.agg #[.slice none 0 0]) (ckeep_mem (by simp))
    have e45:a1.eval (.tmp 45)=undef:=hJ.kp (45,undef) (ckeep_mem (by simp))
    have e20:q=1->a1.eval (.tmp 20)=.slice oa' j oc':=fun h=>hJ.kp (20,.slice oa' j oc') (by subst h;simp[ckeep])
    have hsz:=hJ.sz
    have hdf:=hJ.df
    have hSw1:=(HF.out w1 hJ.fr).1
    have hE:=(HF.out w1 hJ.fr).2
    have hs1:wr.heap.size+1<=w1.heap.size:=by have h9:=hJ.fr.size;have h8:(wr.alloc (.cells #[.bool lf,.int .i64 pg,.slice ka kn kc,.slice va vn vc,.slice oa on oc,.slice ya yn yc] 70)).drew.heap.size=(wr.alloc (.cells #[.bool lf,.int .i64 pg,.slice ka kn kc,.slice va vn vc,.slice oa on oc,.slice ya yn yc] 70)).heap.size:=rfl;omega
    clear hJ r0 r1 r2 r3 HNEW HSA hTN
    obtain⟨t0,t1,t2,t3,t4,t5,t6,t7,t8,t9,t10,t11,t12,t13,t14,t15,t16,t17,t18,t19,t20,t21,t22,t23,t24,t25,t26,t27,t28,t29,t30,t31,t32,t33,t34,t35,t36,t37,t38,t39,t40,t41,t42,t43,t44,t45,hA⟩:=arr46 a1.tmps hsz
    obtain⟨tm,df⟩:=a1
    dsimp only at hA hdf hsz
    subst hA hdf
    have g0:t0=_:=e0
    have g1:t1=_:=e1
    have g2:t2=_:=e2
    have g3:t3=_:=e3
    have g4:t4=_:=e4
    have g6:t6=_:=e6
    have g45:t45=_:=e45
    have g19:t19=_:=e19
    have g22:t22=_:=e22
    have g24:t24=_:=e24
    have g28:t28=_:=e28
    have g32:t32=_:=e32
    have g36:t36=_:=e36
    have g40:t40=_:=e40
    have g20:q=1->t20=_:=e20
    clear e0 e1 e2 e3 e4 e6 e45 e19 e22 e24 e28 e32 e36 e40 e20 hsz
    subst g0 g1 g2 g3 g4 g6 g45 g19 g22 g24 g28 g32 g36 g40
    have kN:=heap_alloc_new w1 (.cells #[.bool lf,.int .i64 pg,.slice u0 kn v0,.slice u1 vn v1,.slice u2 on v2,.slice u3 yn v3] 70)
    have hbN:=(Below.refl w1.heap.size w1).alloc (Nat.le_refl _) (.cells #[.bool lf,.int .i64 pg,.slice u0 kn v0,.slice u1 vn v1,.slice u2 on v2,.slice u3 yn v3] 70)
    have sN:(w1.alloc (.cells #[.bool lf,.int .i64 pg,.slice u0 kn v0,.slice u1 vn v1,.slice u2 on v2,.slice u3 yn v3] 70)).heap.size=w1.heap.size+1:=by simp
    have hSU:(w1.alloc (.cells #[.bool lf,.int .i64 pg,.slice u0 kn v0,.slice u1 vn v1,.slice u2 on v2,.slice u3 yn v3] 70)).heap[wr.heap.size]?=some (.cells #[.bool lf,.int .i64 pg,.slice ka kn kc,.slice va vn vc,.slice oa on oc,.slice ya yn yc] 70):=(hbN.block _ (by omega)).trans hSw1
    have rowU:(w1.alloc (.cells #[.bool lf,.int .i64 pg,.slice u0 kn v0,.slice u1 vn v1,.slice u2 on v2,.slice u3 yn v3] 70)).ownsRow (N+3) 70 6 (.slice oa' j oc') j (rowsC css j):=owns_keepG HI.out.row (fun g hg=>(hbN.block g (by have:=(HI.out.row.lt g hg).2;omega)).trans (hE g (HI.out.row.lt g hg).2))
    have srcU:=src_one6 kN (by simp[Value.oneCell'])
    have HSTEP:Hid (∀ (w5:World) (x5:Option Addr) (y5:Nat),w5.ownsRow (N+3) 70 6 (.slice x5 (j+1) y5) (j+1) (rowsC css j++[.bool lf,.int .i64 pg,.slice u0 kn v0,.slice u1 vn v1,.slice u2 on v2,.slice u3 yn v3])->(w1.alloc (.cells #[.bool lf,.int .i64 pg,.slice u0 kn v0,.slice u1 vn v1,.slice u2 on v2,.slice u3 yn v3] 70)).grownBy w5 (Value.slice oa' j oc').ownBlock->((Value.slice x5 (j+1) y5).ownBlock=(Value.slice oa' j oc').ownBlock∨∀ g,(Value.slice x5 (j+1) y5).ownBlock=some g->(w1.alloc (.cells #[.bool lf,.int .i64 pg,.slice u0 kn v0,.slice u1 vn v1,.slice u2 on v2,.slice u3 yn v3] 70)).heap.size<=g)->CI w (w5.setCell ⟨N+2,0,none⟩ (.slice x5 (j+1) y5)) N _ n c ts (j+1) x5 y5 (fun i=>if i<j then css i else [.bool lf,.int .i64 pg,.slice u0 kn v0,.slice u1 vn v1,.slice u2 on v2,.slice u3 yn v3])):=fun w5 x5 y5 g1 g2 g3=>ci_step HI.out HFR.out HTN.out g1 g2 g3
    have o0:∀ g,(Value.slice oa' j oc').ownBlock=some g->N+3<=g∧g<wr.heap.size:=fun g hg=>HI.out.row.lt g hg
    have kU2:(w1.alloc (.cells #[.bool lf,.int .i64 pg,.slice u0 kn v0,.slice u1 vn v1,.slice u2 on v2,.slice u3 yn v3] 70)).heap[N+2]?=some (.cells #[.slice oa' j oc'] 28):=(hbN.block _ (by omega)).trans ((hE _ (by omega)).trans kr2)
    have k12:w1.heap[N+2]?=some (.cells #[.slice oa' j oc'] 28):=(hE _ (by omega)).trans kr2
    have hq2:q=0∨q=1:=by omega
    rcases hq2 with rfl | rfl
    ·clear g20
     refine wpAnyH_take (i:=22) (oi:=⟨some 41,Op.build 70 #[(0,Operand.tmp 22),(1,Operand.tmp 24),(2,Operand.tmp 28),(3,Operand.tmp 32),(4,Operand.tmp 36),(5,Operand.tmp 40)],70,"l3_tree.go:244",#[⟨3,.data⟩,⟨5,.data⟩,⟨9,.data⟩,⟨13,.data⟩,⟨17,.data⟩,⟨21,.data⟩],none⟩) (v:=.agg #[.bool lf,.int .i64 pg,.slice u0 kn v0,.slice u1 vn v1,.slice u2 on v2,.slice u3 yn v3]) rfl (by kernel_rfl) (by kernel_rfl) (by kernel_rfl) (fun _ _ _ h=>h) (Or.inl ⟨by rfl,?_⟩) hSw1 ?_
     ·intro wq hSw;go_simp
     try simp only[Act.put,q1,q2,q3]
     have hL1:=cell_one_at k12
     have hLU:=cell_one_at kU2
     refine wpAnyH_ready (rs:=[1,23]) (by kernel_rfl) (by simp) ?_
     refine AllReadyH.cons (o:=⟨some 20,Op.load 26 (.tmp 19),26,"l3_tree.go:244",#[⟨0,.data⟩],none⟩) rfl (fun K hK=>?_) ?_
     rotate_left 1
     refine AllReadyH.cons (o:=⟨some 42,Op.buildSlice 26 1 #[(0,Operand.tmp 41)],26,"l3_tree.go:244",#[⟨22,.data⟩],none⟩) rfl (fun K hK=>?_) ?_
     rotate_left 1
     exact AllReadyH.nil
     ·go_simp
      refine hK.out _ _ (hSw1) (fun hHeld=>?_)
      clear hK K
      try simp only[Act.put,q1,q2,q3]
      refine wpAnyH_ready (rs:=[23]) (by kernel_rfl) (by simp) ?_
      refine AllReadyH.cons (o:=⟨some 42,Op.buildSlice 26 1 #[(0,Operand.tmp 41)],26,"l3_tree.go:244",#[⟨22,.data⟩],none⟩) rfl (fun K hK=>?_) AllReadyH.nil
      go_simp
      refine hK.out _ _ (hSU) (fun hHeld=>?_)
      clear hK K
      try simp only[Act.put,q1,q2,q3]
      refine wpAnyH_ready (rs:=[24]) (by kernel_rfl) (by simp) ?_
      refine AllReadyH.cons (o:=⟨some 43,Op.call { callee:=Callee.builtin Builtin.append,args:=#[Operand.tmp 20,Operand.tmp 42],argTypes:=#[26,26] },26,"l3_tree.go:244",#[⟨1,.data⟩,⟨23,.data⟩,⟨21,.chain⟩],none⟩) rfl (fun K hK=>?_) AllReadyH.nil
      refine step_append_S rfl _ _ 26 rfl (N+3) 70 iT _ 6 112 Tryz.underlying26 hiT ht0 ht1 ht2 rfl (by decide) (by decide) _ j (rowsC css j) rfl rowU (by omega) _ (w1.alloc (.cells #[.bool lf,.int .i64 pg,.slice u0 kn v0,.slice u1 vn v1,.slice u2 on v2,.slice u3 yn v3] 70)).heap.size 1 _ rfl srcU (by omega) ?_
      intro v' w5 g1 g2 g3
      obtain⟨x5,y5,rfl⟩:=own_shape g1
      have hC5:Hid _:=HSTEP.out w5 x5 y5 g1 g2 g3
      have s5:=g2.size
      have hX5:w5.heap[wr.heap.size]?=_:=(g2.block _ (by omega) (fun e=>by have:=o0 _ e.symm;omega)).trans hSU
      have kU5:w5.heap[N+2]?=_:=(g2.block _ (by omega) (fun e=>by have:=o0 _ e.symm;omega)).trans kU2
      clear g1 g2 g3
      refine hK.out _ _ (hX5) (fun hHeld=>?_)
      clear hK K
      try simp only[Act.put,q1,q2,q3]
      refine wpAnyH_take (i:=25) (oi:=⟨some 44,Op.fieldAddr 28 (.tmp 3) 0,0,"l3_tree.go:244",#[⟨0,.phase⟩,⟨1,.phase⟩,⟨2,.phase⟩,⟨3,.phase⟩,⟨4,.phase⟩,⟨5,.phase⟩,⟨6,.phase⟩,⟨7,.phase⟩,⟨8,.phase⟩,⟨9,.phase⟩,⟨10,.phase⟩,⟨11,.phase⟩,⟨12,.phase⟩,⟨13,.phase⟩,⟨14,.phase⟩,⟨15,.phase⟩,⟨16,.phase⟩,⟨17,.phase⟩,⟨18,.phase⟩,⟨19,.phase⟩,⟨20,.phase⟩,⟨21,.phase⟩,⟨22,.phase⟩,⟨23,.phase⟩,⟨24,.phase⟩],none⟩) (v:=.pointer (some ⟨N+2,0,none⟩)) rfl (by kernel_rfl) (by kernel_rfl) (by kernel_rfl) (fun _ _ _ h=>h) (Or.inl ⟨by rfl,?_⟩) hX5 ?_
      ·intro wq hSw;go_simp
      try simp only[Act.put,q1,q2,q3]
      have z5:=cell_one_at kU5
      have f5:=thawT kU5
      have l5:=(Array.getElem?_eq_some_iff.1 kU5).1
      have hst:=fr_setT w5 (N+2) 0 (.slice x5 (j+1) y5)
      have hXf:(w5.setCell ⟨N+2,0,none⟩ (.slice x5 (j+1) y5)).heap[wr.heap.size]?=_:=(hst.block _ (by omega) (by omega)).trans hX5
      refine wpAnyH_ready (rs:=[26]) (by kernel_rfl) (by simp) ?_
      refine AllReadyH.cons (o:=⟨none,Op.store 26 (.tmp 44) (.tmp 43),0,"l3_tree.go:244",#[⟨25,.data⟩,⟨24,.data⟩,⟨24,.chain⟩,⟨0,.phase⟩,⟨1,.phase⟩,⟨2,.phase⟩,⟨3,.phase⟩,⟨4,.phase⟩,⟨5,.phase⟩,⟨6,.phase⟩,⟨7,.phase⟩,⟨8,.phase⟩,⟨9,.phase⟩,⟨10,.phase⟩,⟨11,.phase⟩,⟨12,.phase⟩,⟨13,.phase⟩,⟨14,.phase⟩,⟨15,.phase⟩,⟨16,.phase⟩,⟨17,.phase⟩,⟨18,.phase⟩,⟨19,.phase⟩,⟨20,.phase⟩,⟨21,.phase⟩,⟨22,.phase⟩,⟨23,.phase⟩,⟨24,.phase⟩],none⟩) rfl (fun K hK=>?_) AllReadyH.nil
      go_simp
      clear z5 f5 l5
      refine hK.out _ _ (hXf) (fun hHeld=>?_)
      clear hK K
      try simp only[Act.put,q1,q2,q3]
      refine wpAnyH_done (by kernel_rfl) ?_ _
      refine NoPanic.normal ?_
      clear hHeld
      go_wp2_with fail
      go_roundw
      case rel=>exact⟨_,_,_,_,_,_,_,_,_,_,_,_,_,_,_,_,_,_,_,_,_,_,_,_,_,_,_,_,_,_,_,_,_,_,_,_,_,_,_,_,⟨j+1,x5,y5,_,by omega,by go_num,hC5.out⟩,rfl⟩
      case measure=>simp[intOf];omega
     ·go_simp
      refine hK.out _ _ (hSU) (fun hHeld=>?_)
      clear hK K
      try simp only[Act.put,q1,q2,q3]
      refine wpAnyH_ready (rs:=[1]) (by kernel_rfl) (by simp) ?_
      refine AllReadyH.cons (o:=⟨some 20,Op.load 26 (.tmp 19),26,"l3_tree.go:244",#[⟨0,.data⟩],none⟩) rfl (fun K hK=>?_) AllReadyH.nil
      go_simp
      refine hK.out _ _ (hSU) (fun hHeld=>?_)
      clear hK K
      try simp only[Act.put,q1,q2,q3]
      refine wpAnyH_ready (rs:=[24]) (by kernel_rfl) (by simp) ?_
      refine AllReadyH.cons (o:=⟨some 43,Op.call { callee:=Callee.builtin Builtin.append,args:=#[Operand.tmp 20,Operand.tmp 42],argTypes:=#[26,26] },26,"l3_tree.go:244",#[⟨1,.data⟩,⟨23,.data⟩,⟨21,.chain⟩],none⟩) rfl (fun K hK=>?_) AllReadyH.nil
      refine step_append_S rfl _ _ 26 rfl (N+3) 70 iT _ 6 112 Tryz.underlying26 hiT ht0 ht1 ht2 rfl (by decide) (by decide) _ j (rowsC css j) rfl rowU (by omega) _ (w1.alloc (.cells #[.bool lf,.int .i64 pg,.slice u0 kn v0,.slice u1 vn v1,.slice u2 on v2,.slice u3 yn v3] 70)).heap.size 1 _ rfl srcU (by omega) ?_
      intro v' w5 g1 g2 g3
      obtain⟨x5,y5,rfl⟩:=own_shape g1
      have hC5:Hid _:=HSTEP.out w5 x5 y5 g1 g2 g3
      have s5:=g2.size
      have hX5:w5.heap[wr.heap.size]?=_:=(g2.block _ (by omega) (fun e=>by have:=o0 _ e.symm;omega)).trans hSU
      have kU5:w5.heap[N+2]?=_:=(g2.block _ (by omega) (fun e=>by have:=o0 _ e.symm;omega)).trans kU2
      clear g1 g2 g3
      refine hK.out _ _ (hX5) (fun hHeld=>?_)
      clear hK K
      try simp only[Act.put,q1,q2,q3]
      refine wpAnyH_take (i:=25) (oi:=⟨some 44,Op.fieldAddr 28 (.tmp 3) 0,0,"l3_tree.go:244",#[⟨0,.phase⟩,⟨1,.phase⟩,⟨2,.phase⟩,⟨3,.phase⟩,⟨4,.phase⟩,⟨5,.phase⟩,⟨6,.phase⟩,⟨7,.phase⟩,⟨8,.phase⟩,⟨9,.phase⟩,⟨10,.phase⟩,⟨11,.phase⟩,⟨12,.phase⟩,⟨13,.phase⟩,⟨14,.phase⟩,⟨15,.phase⟩,⟨16,.phase⟩,⟨17,.phase⟩,⟨18,.phase⟩,⟨19,.phase⟩,⟨20,.phase⟩,⟨21,.phase⟩,⟨22,.phase⟩,⟨23,.phase⟩,⟨24,.phase⟩],none⟩) (v:=.pointer (some ⟨N+2,0,none⟩)) rfl (by kernel_rfl) (by kernel_rfl) (by kernel_rfl) (fun _ _ _ h=>h) (Or.inl ⟨by rfl,?_⟩) hX5 ?_
      ·intro wq hSw;go_simp
      try simp only[Act.put,q1,q2,q3]
      have z5:=cell_one_at kU5
      have f5:=thawT kU5
      have l5:=(Array.getElem?_eq_some_iff.1 kU5).1
      have hst:=fr_setT w5 (N+2) 0 (.slice x5 (j+1) y5)
      have hXf:(w5.setCell ⟨N+2,0,none⟩ (.slice x5 (j+1) y5)).heap[wr.heap.size]?=_:=(hst.block _ (by omega) (by omega)).trans hX5
      refine wpAnyH_ready (rs:=[26]) (by kernel_rfl) (by simp) ?_
      refine AllReadyH.cons (o:=⟨none,Op.store 26 (.tmp 44) (.tmp 43),0,"l3_tree.go:244",#[⟨25,.data⟩,⟨24,.data⟩,⟨24,.chain⟩,⟨0,.phase⟩,⟨1,.phase⟩,⟨2,.phase⟩,⟨3,.phase⟩,⟨4,.phase⟩,⟨5,.phase⟩,⟨6,.phase⟩,⟨7,.phase⟩,⟨8,.phase⟩,⟨9,.phase⟩,⟨10,.phase⟩,⟨11,.phase⟩,⟨12,.phase⟩,⟨13,.phase⟩,⟨14,.phase⟩,⟨15,.phase⟩,⟨16,.phase⟩,⟨17,.phase⟩,⟨18,.phase⟩,⟨19,.phase⟩,⟨20,.phase⟩,⟨21,.phase⟩,⟨22,.phase⟩,⟨23,.phase⟩,⟨24,.phase⟩],none⟩) rfl (fun K hK=>?_) AllReadyH.nil
      go_simp
      clear z5 f5 l5
      refine hK.out _ _ (hXf) (fun hHeld=>?_)
      clear hK K
      try simp only[Act.put,q1,q2,q3]
      refine wpAnyH_done (by kernel_rfl) ?_ _
      refine NoPanic.normal ?_
      clear hHeld
      go_wp2_with fail
      go_roundw
      case rel=>exact⟨_,_,_,_,_,_,_,_,_,_,_,_,_,_,_,_,_,_,_,_,_,_,_,_,_,_,_,_,_,_,_,_,_,_,_,_,_,_,_,_,⟨j+1,x5,y5,_,by omega,by go_num,hC5.out⟩,rfl⟩
      case measure=>simp[intOf];omega
    ·have g20':=g20 rfl
     clear g20
     subst g20'
     refine wpAnyH_take (i:=22) (oi:=⟨some 41,Op.build 70 #[(0,Operand.tmp 22),(1,Operand.tmp 24),(2,Operand.tmp 28),(3,Operand.tmp 32),(4,Operand.tmp 36),(5,Operand.tmp 40)],70,"l3_tree.go:244",#[⟨3,.data⟩,⟨5,.data⟩,⟨9,.data⟩,⟨13,.data⟩,⟨17,.data⟩,⟨21,.data⟩],none⟩) (v:=.agg #[.bool lf,.int .i64 pg,.slice u0 kn v0,.slice u1 vn v1,.slice u2 on v2,.slice u3 yn v3]) rfl (by kernel_rfl) (by kernel_rfl) (by kernel_rfl) (fun _ _ _ h=>h) (Or.inl ⟨by rfl,?_⟩) hSw1 ?_
     ·intro wq hSw;go_simp
     try simp only[Act.put,q1,q2,q3]
     refine wpAnyH_ready (rs:=[23]) (by kernel_rfl) (by simp) ?_
     refine AllReadyH.cons (o:=⟨some 42,Op.buildSlice 26 1 #[(0,Operand.tmp 41)],26,"l3_tree.go:244",#[⟨22,.data⟩],none⟩) rfl (fun K hK=>?_) AllReadyH.nil
     go_simp
     refine hK.out _ _ (hSU) (fun hHeld=>?_)
     clear hK K
     try simp only[Act.put,q1,q2,q3]
     refine wpAnyH_ready (rs:=[24]) (by kernel_rfl) (by simp) ?_
     refine AllReadyH.cons (o:=⟨some 43,Op.call { callee:=Callee.builtin Builtin.append,args:=#[Operand.tmp 20,Operand.tmp 42],argTypes:=#[26,26] },26,"l3_tree.go:244",#[⟨1,.data⟩,⟨23,.data⟩,⟨21,.chain⟩],none⟩) rfl (fun K hK=>?_) AllReadyH.nil
     refine step_append_S rfl _ _ 26 rfl (N+3) 70 iT _ 6 112 Tryz.underlying26 hiT ht0 ht1 ht2 rfl (by decide) (by decide) _ j (rowsC css j) rfl rowU (by omega) _ (w1.alloc (.cells #[.bool lf,.int .i64 pg,.slice u0 kn v0,.slice u1 vn v1,.slice u2 on v2,.slice u3 yn v3] 70)).heap.size 1 _ rfl srcU (by omega) ?_
     intro v' w5 g1 g2 g3
     obtain⟨x5,y5,rfl⟩:=own_shape g1
     have hC5:Hid _:=HSTEP.out w5 x5 y5 g1 g2 g3
     have s5:=g2.size
     have hX5:w5.heap[wr.heap.size]?=_:=(g2.block _ (by omega) (fun e=>by have:=o0 _ e.symm;omega)).trans hSU
     have kU5:w5.heap[N+2]?=_:=(g2.block _ (by omega) (fun e=>by have:=o0 _ e.symm;omega)).trans kU2
     clear g1 g2 g3
     refine hK.out _ _ (hX5) (fun hHeld=>?_)
     clear hK K
     try simp only[Act.put,q1,q2,q3]
     refine wpAnyH_take (i:=25) (oi:=⟨some 44,Op.fieldAddr 28 (.tmp 3) 0,0,"l3_tree.go:244",#[⟨0,.phase⟩,⟨1,.phase⟩,⟨2,.phase⟩,⟨3,.phase⟩,⟨4,.phase⟩,⟨5,.phase⟩,⟨6,.phase⟩,⟨7,.phase⟩,⟨8,.phase⟩,⟨9,.phase⟩,⟨10,.phase⟩,⟨11,.phase⟩,⟨12,.phase⟩,⟨13,.phase⟩,⟨14,.phase⟩,⟨15,.phase⟩,⟨16,.phase⟩,⟨17,.phase⟩,⟨18,.phase⟩,⟨19,.phase⟩,⟨20,.phase⟩,⟨21,.phase⟩,⟨22,.phase⟩,⟨23,.phase⟩,⟨24,.phase⟩],none⟩) (v:=.pointer (some ⟨N+2,0,none⟩)) rfl (by kernel_rfl) (by kernel_rfl) (by kernel_rfl) (fun _ _ _ h=>h) (Or.inl ⟨by rfl,?_⟩) hX5 ?_
     ·intro wq hSw;go_simp
     try simp only[Act.put,q1,q2,q3]
     have z5:=cell_one_at kU5
     have f5:=thawT kU5
     have l5:=(Array.getElem?_eq_some_iff.1 kU5).1
     have hst:=fr_setT w5 (N+2) 0 (.slice x5 (j+1) y5)
     have hXf:(w5.setCell ⟨N+2,0,none⟩ (.slice x5 (j+1) y5)).heap[wr.heap.size]?=_:=(hst.block _ (by omega) (by omega)).trans hX5
     refine wpAnyH_ready (rs:=[26]) (by kernel_rfl) (by simp) ?_
     refine AllReadyH.cons (o:=⟨none,Op.store 26 (.tmp 44) (.tmp 43),0,"l3_tree.go:244",#[⟨25,.data⟩,⟨24,.data⟩,⟨24,.chain⟩,⟨0,.phase⟩,⟨1,.phase⟩,⟨2,.phase⟩,⟨3,.phase⟩,⟨4,.phase⟩,⟨5,.phase⟩,⟨6,.phase⟩,⟨7,.phase⟩,⟨8,.phase⟩,⟨9,.phase⟩,⟨10,.phase⟩,⟨11,.phase⟩,⟨12,.phase⟩,⟨13,.phase⟩,⟨14,.phase⟩,⟨15,.phase⟩,⟨16,.phase⟩,⟨17,.phase⟩,⟨18,.phase⟩,⟨19,.phase⟩,⟨20,.phase⟩,⟨21,.phase⟩,⟨22,.phase⟩,⟨23,.phase⟩,⟨24,.phase⟩],none⟩) rfl (fun K hK=>?_) AllReadyH.nil
     go_simp
     clear z5 f5 l5
     refine hK.out _ _ (hXf) (fun hHeld=>?_)
     clear hK K
     try simp only[Act.put,q1,q2,q3]
     refine wpAnyH_done (by kernel_rfl) ?_ _
     refine NoPanic.normal ?_
     clear hHeld
     go_wp2_with fail
     go_roundw
     case rel=>exact⟨_,_,_,_,_,_,_,_,_,_,_,_,_,_,_,_,_,_,_,_,_,_,_,_,_,_,_,_,_,_,_,_,_,_,_,_,_,_,_,_,⟨j+1,x5,y5,_,by omega,by go_num,hC5.out⟩,rfl⟩
     case measure=>simp[intOf];omega
   ·refine⟨rfl,rfl,fun x hx=>?_,fun j hj h0=>?_,fun i j hi hj hne h0=>?_,Fr.refl _ _⟩
    ·simp only[ckeep,if_true,List.mem_cons,List.not_mem_nil,or_false] at hx
     rcases hx with rfl | rfl | rfl | rfl | rfl | rfl | rfl | rfl | rfl | rfl | rfl | rfl | rfl | rfl<;>rfl
    ·have hj4:j=0∨j=1∨j=2∨j=3:=by omega
     rcases hj4 with rfl | rfl | rfl | rfl<;>exact absurd h0 (by decide)
    ·have hj4:i=0∨i=1∨i=2∨i=3:=by omega
     rcases hj4 with rfl | rfl | rfl | rfl<;>exact absurd h0 (by decide)
  ·obtain rfl:j=n:=by omega
   have f1:=thawT kr1
   have hst:=fr_setT wr (N+1) 0 (.slice oa' j oc')
   have kf:(wr.setCell ⟨N+1,0,none⟩ (.slice oa' j oc')).heap[N+1]?=some (.cells #[.slice oa' j oc'] 28):=by simpa using heap_setT kr1 0 (.slice oa' j oc')
   have HNO:Hid (NodesAt (wr.setCell ⟨N+1,0,none⟩ (.slice oa' j oc')) w.heap.size (wr.setCell ⟨N+1,0,none⟩ (.slice oa' j oc')).heap.size oa' j oc' ts):=ci_nodes HI.out HT.out.1.1 hst (by omega)
   have HBO:Hid (Below w.heap.size w (wr.setCell ⟨N+1,0,none⟩ (.slice oa' j oc'))):=by
    show Below _ _ _
    rw[hN]
    exact HI.out.bel.trans (hst.below (by have:=HI.out.bel.size;omega) (fun g e=>by omega))
   have l1:N+1<wr.heap.size:=by omega
   have l2:N+2<wr.heap.size:=by omega
   have zf:=cell_one_at kf
   clear hI hst kf
   go_wp2_with fail
   refine bodyPost_ret (v:=.agg #[.slice oa' j oc']) (by simp[results,Tryz.results15,go_sem,zf]) rfl ?_
   exact⟨oa',oc',rfl,HNO.out,HBO.out⟩
theorem topT_rd {ts:List TN} (h:SpecOk ts):topT ts=some (rd ts (ts.length+1) 0).1:=by
 have hi:=(valid_iff ts).1 h
 obtain⟨h1,t,met,e,h3,h4⟩:=hi
 obtain⟨a1,_⟩:=gr_some ts _ 0 _ _ _ _ (Nat.zero_le _) e
 rw[topT_yes ⟨h1,t,met,e,h3,h4⟩ e,a1]
def SpecTree (w:World) (r:Bool × List TN) (e:Ending) (w':World):Prop:=∃ oa oc,e=.returned (.agg #[.bool r.1,.slice oa r.2.length oc])∧NodesAt w' w.heap.size w'.heap.size oa r.2.length oc r.2∧Below w.heap.size w w'
theorem specAns_lay {w V:World} {R b B m c:Nat} {oa:Option Addr} {ts:List TN} {v0 v1:Value} (hR:w.heap.size<=R) (hbx:V.heap[R]?=some (.cells #[v0,v1] 30)) (hO:NodesAt V b B oa m c ts) (hb:R<b) (hBV:B<=V.heap.size) (hbel:Below w.heap.size w V) (ok:Bool) :
  NodesAt ((V.setCell ⟨R,0,none⟩ (.bool ok)).setCell ⟨R,1,none⟩ (.slice oa m c)) w.heap.size ((V.setCell ⟨R,0,none⟩ (.bool ok)).setCell ⟨R,1,none⟩ (.slice oa m c)).heap.size oa m c ts∧Below w.heap.size w ((V.setCell ⟨R,0,none⟩ (.bool ok)).setCell ⟨R,1,none⟩ (.slice oa m c))∧((V.setCell ⟨R,0,none⟩ (.bool ok)).setCell ⟨R,1,none⟩ (.slice oa m c)).heap[R]?=some (.cells #[.bool ok,.slice oa m c] 30):=by
 have f1:=fr_setT V R 0 (.bool ok)
 have f2:=fr_setT (V.setCell ⟨R,0,none⟩ (.bool ok)) R 1 (.slice oa m c)
 have hlR:=(Array.getElem?_eq_some_iff.1 hbx).1
 have f3:Fr (fun k=>k=R) V ((V.setCell ⟨R,0,none⟩ (.bool ok)).setCell ⟨R,1,none⟩ (.slice oa m c)):=f1.trans f2
 refine⟨(hO.keep (fun k h1 h2=>f3.block k (by omega) (by omega))).up (by omega) (by have:=f3.size;omega),hbel.trans (f3.below hbel.size (fun g e=>by omega)),?_⟩
 have h1:=heap_setT hbx 0 (.bool ok)
 have h2:=heap_setT h1 1 (.slice oa m c)
 simpa using h2
theorem eqTreeRes_same (b:Bool) (a:Option Addr) (n c:Nat) (a2:Option Addr) (c2:Nat) (ts:List TN) (w:World) (A B A2 B2:Nat) (hB:B<=w.heap.size) (hB2:B2<=w.heap.size) (h:NodesAt w A B a n c ts) (k:NodesAt w A2 B2 a2 n c2 ts) :
  Calls Tryz.prog 8 #[.agg #[.bool b,.slice a n c],.agg #[.bool b,.slice a2 n c2]] w fun e w'=>e=.returned (.bool true)∧Below w.heap.size w w':=by
 obtain⟨W,hW⟩:∃ W,W=(w.alloc (.cells #[.bool b,.slice a n c] 30)).alloc (.cells #[.bool b,.slice a2 n c2] 30):=⟨_,rfl⟩
 have al:=alloc2N w (.cells #[.bool b,.slice a n c] 30) (.cells #[.bool b,.slice a2 n c2] 30)
 rw[<-hW] at al
 obtain⟨k0,k1,sW,bW⟩:=al
 obtain⟨N,hN⟩:∃ N,w.heap.size=N:=⟨_,rfl⟩
 have hbb:(b != b)=false:=by cases b<;>rfl
 have hc:=eqTree_same a n c a2 c2 ts W A B A2 B2 (by omega) (by omega) (h.below (bW.mono hB)) (k.below (bW.mono hB2))
 rw[hN] at k0 k1 sW bW ⊢
 obtain⟨p0,p1⟩:=box_twoR k0
 obtain⟨p2,p3⟩:=box_twoR k1
 have l0:N<W.heap.size:=by omega
 have l1:N+1<W.heap.size:=by omega
 clear h k
 go_enter Tryz.func8,Tryz.ntmps8
 go_upto_region 1 with fail
 rw[<-hW]
 clear hW
 go_wp2_with fail
 refine hc.mono ?_
 rintro e w1 ⟨rfl,hb1⟩
 have HB:Hid (Below N w w1):=bW.trans (hb1.mono (by omega))
 clear hc hb1 k0 k1 p0 p1 p2 p3
 go_wp2_with fail
 go_ret
 exact⟨rfl,HB.out⟩
theorem markTreeRes_own (b:Bool) (a:Option Addr) (n c k base:Nat) (ns:List ND) (us:Nat->Nat->Value) (w:World) (h:OwnT w base (.slice a n c) ns us) (hn:n=ns.length) (hk:kT k ns<=1000000000) :
  Calls Tryz.prog 11 #[.agg #[.bool b,.slice a n c],.int .i64 k] w fun e w'=>e=.returned (.int .i64 ((kT k ns:Nat):Int))∧OwnT w' base (.slice a n c) (mkNs k ns) us∧Fr (BlkT (.slice a n c) ns.length us) w w':=by
 have hb1:Below w.heap.size w (w.alloc (.cells #[.bool b,.slice a n c] 30)):=(Below.refl _ _).alloc (Nat.le_refl _) _
 have k0:=heap_alloc_new w (.cells #[.bool b,.slice a n c] 30)
 obtain⟨N,hN⟩:∃ N,w.heap.size=N:=⟨_,rfl⟩
 replace hn:Hid (n=ns.length):=hn
 have hc:=markTree_own a n c k base ns us _ (h.below hb1) hn.out hk
 go_enter Tryz.func11,Tryz.ntmps11
 go_upto_region 1 with fail
 generalize w.alloc (.cells #[.bool b,.slice a n c] 30)=W1 at hb1 k0 hc ⊢
 rw[hN] at k0
 obtain⟨p0,p1⟩:=box_twoR k0
 have l0:=(Array.getElem?_eq_some_iff.1 k0).1
 clear h
 go_wp2_with fail
 refine hc.mono ?_
 rintro e w3 ⟨rfl,hO,hF⟩
 have HR:Hid (OwnT w3 base (.slice a n c) (mkNs k ns) us∧Fr (BlkT (.slice a n c) ns.length us) w w3):=⟨hO,(Fr.of_below hb1).trans hF⟩
 clear hO hF hb1 hc p0 p1 k0
 go_wp2_with fail
 go_ret
 exact⟨rfl,HR.out.1,HR.out.2⟩
theorem heldTreeRes_own (b:Bool) (a:Option Addr) (n c k base:Nat) (ns:List ND) (us:Nat->Nat->Value) (w:World) (h:OwnT w base (.slice a n c) (mkNs k ns) us) (hn:n=ns.length) (hk:kT k ns<=1000000000) :
  Calls Tryz.prog 12 #[.agg #[.bool b,.slice a n c],.int .i64 k] w fun e w'=>e=.returned (.int .i64 ((kT k ns:Nat):Int))∧Below w.heap.size w w':=by
 have hb1:Below w.heap.size w (w.alloc (.cells #[.bool b,.slice a n c] 30)):=(Below.refl _ _).alloc (Nat.le_refl _) _
 have k0:=heap_alloc_new w (.cells #[.bool b,.slice a n c] 30)
 obtain⟨N,hN⟩:∃ N,w.heap.size=N:=⟨_,rfl⟩
 have hd:decide (((kT k ns:Nat):Int)<0)=false:=by simp
 replace hn:Hid (n=ns.length):=hn
 have hc:=heldTree_own a n c k base ns us _ (h.below hb1) hn.out hk
 go_enter Tryz.func12,Tryz.ntmps12
 go_upto_region 1 with fail
 generalize w.alloc (.cells #[.bool b,.slice a n c] 30)=W1 at hb1 k0 hc ⊢
 rw[hN] at k0
 obtain⟨p0,p1⟩:=box_twoR k0
 have l0:=(Array.getElem?_eq_some_iff.1 k0).1
 clear h
 go_wp2_with fail
 refine hc.mono ?_
 rintro e w3 ⟨rfl,hb3⟩
 have HR:Hid (Below w.heap.size w w3):=hb1.trans (hb3.mono hb1.size)
 clear hb3 hb1 hc p0 p1 k0
 go_wp2_with fail
 go_ret
 exact⟨rfl,HR.out⟩
theorem ndLen_nd (x:TN):ndLen x.nd=mLen x:=by
 show 2+(rowsOf strCells x.keys).length+(rowsOf strCells x.vals).length+(rowsOf intCells x.over).length+(rowsOf intCells x.kids).length=_
 rw[rows_len1 sc1,rows_len1 sc1,rows_len1 ic1,rows_len1 ic1]
 rfl
theorem kT_mLens:∀ (ts:List TN) (k:Nat),kT k (ts.map TN.nd)=k+mLens ts
 | [],k=>by simp[kT,mLens]
 | x::r,k=>by
  have h1:kT k ((x::r).map TN.nd)=kT (k+ndLen x.nd) (r.map TN.nd):=rfl
  have h2:mLens (x::r)=mLen x+mLens r:=by simp[mLens]
  rw[h1,kT_mLens r,ndLen_nd,h2]
  omega
theorem nodeLen_small {ts:List TN} (h:SmallT ts):∀ x ∈ ts,NodeLen x:=fun x hx=>by
 obtain⟨j,hj,rfl⟩:=List.mem_iff_getElem.1 hx
 have:=h j hj
 unfold NodeLen
 simpa[List.getD,List.getElem?_eq_getElem hj] using this
end Go.Proofs.YtbfggcekifaldaaGreat
