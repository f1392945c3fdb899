import Derived.Test.YtbfggcekifaldaaGreatTlq
import Derived.Test.YtbfggcekifaldaaGreatHTvc
namespace Go.Proofs.YtbfggcekifaldaaGreat
open Go.RowKit
set_option linter.unusedVariables false
set_option linter.unusedSimpArgs false
set_option maxRecDepth 100000
def topT (ts:List TN):Option T:=match gr ts (ts.length+1) 0 (fun _=>false) with
 | some (t,nx,_)=>if ts.length<=1000∧nx=ts.length∧t.slots.all (fun s=>kyB s.1)=true∧ascB (t.slots.map (fun s=>s.1))=true then some t else none
 | none=>none
theorem topT_no {ts:List TN} (h:¬ ImplOk ts):topT ts=none:=by
 unfold topT
 split
 ·rename_i t nx met hg
  split
  ·rename_i hc
   obtain⟨h1,rfl,h3,h4⟩:=hc
   exact absurd ⟨h1,t,met,hg,h3,h4⟩ h
  ·rfl
 ·rfl
theorem topT_yes {ts:List TN} {t:T} {met:Int->Bool} (h:ImplOk ts) (hg:gr ts (ts.length+1) 0 (fun _=>false)=some (t,ts.length,met)):topT ts=some t:=by
 obtain⟨h1,t2,m2,e,h3,h4⟩:=h
 rw[hg] at e
 simp only[Option.some.injEq,Prod.mk.injEq] at e
 obtain⟨rfl,_,rfl⟩:=e
 unfold topT
 rw[hg]
 simp only[h1,h3,h4,and_self,if_true]
theorem topT_good {ts:List TN} {t:T} (h:topT ts=some t):ImplOk ts∧(∃ met,gr ts (ts.length+1) 0 (fun _=>false)=some (t,ts.length,met))∧t.good true=true∧Shape t∧0<=t.ht∧t.nodes<=1000∧SortT t.slots∧t.slots.all (fun s=>kyB s.1)=true:=by
 by_cases hi:ImplOk ts
 ·obtain⟨h1,t2,m2,e,h3,h4⟩:=hi
  have:=topT_yes ⟨h1,t2,m2,e,h3,h4⟩ e
  rw[h] at this
  simp only[Option.some.injEq] at this
  subst this
  obtain⟨gs1,gs2,gs3,gs4,gs5,gs6,gs7,gs8⟩:=gr_some ts _ 0 _ t _ _ (Nat.zero_le _) e
  exact⟨⟨h1,t,m2,e,h3,h4⟩,⟨m2,e⟩,gs5,gs3,gs6,by have:=gs4.1;omega,sort_of_asc h4,h3⟩
 ·rw[topT_no hi] at h;cases h
def putR (ts:List TN) (key val:ByteArray):Bool × List TN:=match topT ts with
 | none=>(false,ts)
 | some t=>if kyB key=true∧val.size<=400∧(rootP key val t).nodes<=1000 then (true,(rootP key val t).flat 0) else (false,ts)
def TreeAns (w:World) (r:Bool × List TN) (e:Ending) (w':World):Prop:=∃ oa oc us,e=.returned (.agg #[.bool r.1,.slice oa r.2.length oc])∧OwnT w' w.heap.size (.slice oa r.2.length oc) (r.2.map TN.nd) us∧Below w.heap.size w w'
theorem box_twoR {w:World} {N:Nat} {v0 v1:Value} {t:TypeId} (h:w.heap[N]?=some (.cells #[v0,v1] t)):w.cell? ⟨N,0,none⟩=some v0∧w.cell? ⟨N,1,none⟩=some v1:=by
 simp[World.cell?,h]
theorem treeAns_lay {w V:World} {R b m c:Nat} {oa:Option Addr} {ns:List ND} {us:Nat->Nat->Value} {v0 v1:Value} (hR:w.heap.size<=R) (hbx:V.heap[R]?=some (.cells #[v0,v1] 30)) (hO:OwnT V b (.slice oa m c) ns us) (hb:R<b) (hbel:Below w.heap.size w V) (ok:Bool) :
  OwnT ((V.setCell ⟨R,0,none⟩ (.bool ok)).setCell ⟨R,1,none⟩ (.slice oa m c)) w.heap.size (.slice oa m c) ns us∧Below w.heap.size w ((V.setCell ⟨R,0,none⟩ (.bool ok)).setCell ⟨R,1,none⟩ (.slice oa m c))∧((V.setCell ⟨R,0,none⟩ (.bool ok)).setCell ⟨R,1,none⟩ (.slice oa m c)).heap[R]?=some (.cells #[.bool ok,.slice oa m c] 30):=by
 have f1:=fr_setT V R 0 (.bool ok)
 have f2:=fr_setT (V.setCell ⟨R,0,none⟩ (.bool ok)) R 1 (.slice oa m c)
 have hlR:=(Array.getElem?_eq_some_iff.1 hbx).1
 have f3:Fr (fun k=>k=R) V ((V.setCell ⟨R,0,none⟩ (.bool ok)).setCell ⟨R,1,none⟩ (.slice oa m c)):=f1.trans f2
 refine⟨(hO.fr f3 (fun g hg e=>by have:=(hO.blk hg).1;omega)).lower (by omega),hbel.trans (f3.below hbel.size (fun g e=>by omega)),?_⟩
 have h1:=heap_setT hbx 0 (.bool ok)
 have h2:=heap_setT h1 1 (.slice oa m c)
 simpa using h2
def gE (j:Nat):TypeId:=if j<2 then 9 else if j=2 then 2 else 47
def gS (j:Nat):Nat:=if j<3 then 1 else 6
theorem eval_ne (a:Act) (d t:Nat) (v:Value) (h:t≠d):(a.put (some d) v).eval (.tmp t)=a.eval (.tmp t):=by
 simp only[Act.put,Act.eval,Array.getD_eq_getD_getElem?]
 rw[Array.getElem?_setIfInBounds_ne (Ne.symm h)]
theorem eval_eq (a:Act) (d:Nat) (v:Value) (h:d<a.tmps.size):(a.put (some d) v).eval (.tmp d)=v:=by
 simp only[Act.put,Act.eval,Array.getD_eq_getD_getElem?]
 rw[Array.getElem?_setIfInBounds_self_of_lt h]
 rfl
structure JG (SZ:Nat) (Wd:World) (M:Nat) (da:Nat->Nat->Nat) (con:Nat->Nat->List Value) (len:Nat->Nat->Nat) (keep:List (Nat × Value)) (p:Nat->Nat) (a:Act) (w:World):Prop where
 sz:a.tmps.size=SZ
 df:a.defers=[]
 kp:∀ x ∈ keep,a.eval (.tmp x.1)=x.2
 cur:∀ j,j<4->0<p j->w.ownsRow M (gE j) (gS j) (a.eval (.tmp (da j (p j)))) (len j (p j)) (con j (p j))
 apart:∀ i j,i<4->j<4->i≠j->0<p i->0<p j->∀ g,(a.eval (.tmp (da i (p i)))).ownBlock=some g->(a.eval (.tmp (da j (p j)))).ownBlock≠some g
 fr:Fr (fun g=>M<=g) Wd w
def upP (p:Nat->Nat) (j q:Nat):Nat->Nat:=fun i=>if i=j then q else p i
theorem JG.move {SZ M:Nat} {Wd:World} {da:Nat->Nat->Nat} {con:Nat->Nat->List Value} {len:Nat->Nat->Nat} {keep:List (Nat × Value)} {p:Nat->Nat} {a:Act} {w w':World} (h:JG SZ Wd M da con len keep p a w) {j q mx:Nat} (hj:j<4) (hq:0<q) (hqm:q<=mx) (hpm:∀ i,i<4->p i<=mx) (hinj:∀ i r k s,i<4->k<4->0<r->r<=mx->0<s->s<=mx->i≠k->da i r≠da k s) (hks:∀ x ∈ keep,x.1≠da j q) (hds:da j q<SZ) (hM:M<=w.heap.size)
  {v:Value} (hrow:w'.ownsRow M (gE j) (gS j) v (len j q) (con j q)) (hf:Fr (fun g=>0<p j∧(a.eval (.tmp (da j (p j)))).ownBlock=some g) w w') (hat:∀ g,v.ownBlock=some g->(0<p j∧(a.eval (.tmp (da j (p j)))).ownBlock=some g)∨w.heap.size<=g) :
  JG SZ Wd M da con len keep (upP p j q) (a.put (some (da j q)) v) w':=by
 have hd:da j q<a.tmps.size:=by rw[h.sz];exact hds
 have hE:∀ i,i<4->i≠j->0<p i->(a.put (some (da j q)) v).eval (.tmp (da i (p i)))=a.eval (.tmp (da i (p i))):=fun i hi hne h0=>eval_ne a _ _ v (hinj i (p i) j q hi hj h0 (hpm i hi) hq hqm hne)
 have hnew:∀ i,i<4->i≠j->0<p i->∀ g,(a.eval (.tmp (da i (p i)))).ownBlock=some g->v.ownBlock≠some g:=fun i hi hne h0 g hg e=>by
  rcases hat g e with ⟨h1,h2⟩ | h2
  ·exact h.apart i j hi hj hne h0 h1 g hg h2
  ·have:=((h.cur i hi h0).lt g hg).2;omega
 refine⟨by simp[Act.put,h.sz],by simp[Act.put,h.df],fun x hx=>by rw[eval_ne a _ _ v (hks x hx)];exact h.kp x hx,fun i hi h0=>?_,fun i k hi hk hne h0 h1 g hg=>?_,?_⟩
 ·by_cases hij:i=j
  ·subst hij
   simp only[upP,if_true] at h0 ⊢
   rw[eval_eq a _ v hd]
   exact hrow
  ·simp only[upP,if_neg hij] at h0 ⊢
   rw[hE i hi hij h0]
   exact owns_fr (h.cur i hi h0) hf (fun g hg e=>h.apart i j hi hj hij h0 e.1 g hg e.2)
 ·by_cases hij:i=j
  ·subst hij
   have hki:k≠i:=fun e=>hne e.symm
   simp only[upP,if_true,if_neg hki] at h0 h1 hg ⊢
   rw[eval_eq a _ v hd] at hg
   rw[hE k hk hki h1]
   exact fun e=>hnew k hk hki h1 g e hg
  ·by_cases hkj:k=j
   ·subst hkj
    simp only[upP,if_true,if_neg hij] at h0 h1 hg ⊢
    rw[eval_eq a _ v hd]
    rw[hE i hi hij h0] at hg
    exact hnew i hi hij h0 g hg
   ·simp only[upP,if_neg hij,if_neg hkj] at h0 h1 hg ⊢
    rw[hE i hi hij h0] at hg
    rw[hE k hk hkj h1]
    exact h.apart i k hi hk hne h0 h1 g hg
 ·refine h.fr.trans (hf.weak (fun g e=>((h.cur j hj e.1).lt g e.2).1))
theorem step_empty {P:Program} {ops:Array Oper} {o:Oper} {a:Act} {w:World} {K:Act->World->Prop} {Q:Exit->Act->World->Prop} {E:Prop} (hgd:o.guard=none) (t e:TypeId) (ho:o.op=.buildSlice t 0 #[]) (hr:(Instr.buildSlice t 0 #[]).run P w=.ok (.slice (some ⟨w.heap.size,0,none⟩) 0 0) (w.alloc (.cells #[] e)))
  (h:K (a.put o.dst (.slice (some ⟨w.heap.size,0,none⟩) 0 0)) (w.alloc (.cells #[] e))):if Region.wanted o (yielded ops a.tmps)=true then Oper.wp P o a w K Q else E:=by
 rw[if_pos (by simp[Region.wanted,hgd])]
 unfold Oper.wp execOp
 simp only[ho,Sem.run_bind,Sem.run_pure,Result.andThen_ok,List.map_toArray,List.map_nil,hr]
 exact h
theorem run_empty0 (w:World):(Instr.buildSlice 43 0 #[]).run Tryz.prog w=.ok (.slice (some ⟨w.heap.size,0,none⟩) 0 0) (w.alloc (.cells #[] 9)):=by kernel_rfl
theorem run_empty2 (w:World):(Instr.buildSlice 44 0 #[]).run Tryz.prog w=.ok (.slice (some ⟨w.heap.size,0,none⟩) 0 0) (w.alloc (.cells #[] 2)):=by kernel_rfl
theorem run_empty3 (w:World):(Instr.buildSlice 45 0 #[]).run Tryz.prog w=.ok (.slice (some ⟨w.heap.size,0,none⟩) 0 0) (w.alloc (.cells #[] 47)):=by kernel_rfl
theorem emptyE (w:World) (e size M:Nat) (h:M<=w.heap.size):(w.alloc (.cells #[] e)).ownsRow M e size (.slice (some ⟨w.heap.size,0,none⟩) 0 0) 0 []:=by
 have:=World.ownsRow_made w #[] (base:=w.heap.size) (e:=e) (size:=size) 0 (by simp) (by unfold maxLen;omega) (by simp)
 have h2:(w.alloc (.cells #[] e)).ownsRow w.heap.size e size (.slice (some ⟨w.heap.size,0,none⟩) 0 0) 0 []:=by simpa using this
 exact own_lowerT h2 h
theorem run_append_noneS {P:Program} {w:World} (base:Nat) (t ty e:TypeId) (i:TypeInfo) (size c:Nat) (ht:P.underlying t=some (.slice e)) (hi:P.info? e=some i) (v:Value) (n:Nat) (xs:List Value) (hown:w.ownsRow base e size v n xs):(Builtin.append_ #[t,t] ty #[v,.slice none 0 c]).run P w=.ok v w:=by
 rcases hown.2 with ⟨rfl,rfl⟩ | ⟨g,cap,cur,rfl,_,_,hnc,_⟩
 ·simp[Builtin.append_,run_underlying ht,sizeOf,typeInfo,hi,Builtin.lenOf,Builtin.firstCells]
 ·simp[Builtin.append_,run_underlying ht,sizeOf,typeInfo,hi,Builtin.lenOf,Builtin.firstCells,hnc,storeCells]
def SrcAt (w:World) (B size m:Nat) (v:Value) (xs:List Value):Prop:=xs.length=m*size∧m<=1048576∧(∀ u ∈ xs,u.oneCell'=true)∧∃ ad c,v=.slice ad m c∧(ad=none->m=0)∧(0<xs.length->∃ b off,ad=some ⟨b,off,none⟩)∧∀ x,ad=some x->∀ j u,xs[j]?=some u->(x.add j).block<B∧w.cell? (x.add j)=some u
theorem SrcAt.below {w w':World} {B size m:Nat} {v:Value} {xs:List Value} (h:SrcAt w B size m v xs) (hb:Below B w w'):SrcAt w' B size m v xs:=by
 obtain⟨h1,h2,h3,ad,c,e,h4,h6,h5⟩:=h
 exact⟨h1,h2,h3,ad,c,e,h4,h6,fun x hx j u hj=>⟨(h5 x hx j u hj).1,(hb.cell (p:=x.add j) (h5 x hx j u hj).1).trans (h5 x hx j u hj).2⟩⟩
theorem step_append_S {P:Program} {ops:Array Oper} {o:Oper} {a:Act} {w:World} {K:Act->World->Prop} {Q:Exit->Act->World->Prop} {E:Prop}
  (hgd:o.guard=none) (s x:Operand) (t:TypeId) (ho:o.op=.call { callee:=.builtin .append,args:=#[s,x],argTypes:=#[t,t] })
  (base:Nat) (e:TypeId) (i:TypeInfo) (z:Value) (size bytes:Nat) (ht:P.underlying t=some (.slice e)) (hi:P.info? e=some i) (hz:i.zero=some z)
  (hsize:i.size=size) (hby:i.bytes=bytes) (hzs:z.cells.size=size) (hsz:0<size) (hbb:bytes<=1000)
  (v:Value) (n:Nat) (xs:List Value) (hs:a.eval s=v) (hown:w.ownsRow base e size v n xs) (hn:n<=1048576)
  (u:Value) (B m:Nat) (news:List Value) (hx:a.eval x=u) (hsrc:SrcAt w B size m u news) (hbase:base<=w.heap.size)
  (h:∀ v' w',w'.ownsRow base e size v' (n+m) (xs++news)->w.grownBy w' v.ownBlock->(v'.ownBlock=v.ownBlock∨∀ g,v'.ownBlock=some g->w.heap.size<=g)->K (a.put o.dst v') w') :
  if Region.wanted o (yielded ops a.tmps)=true then Oper.wp P o a w K Q else E:=by
 obtain⟨h1,h2,h3,ad,c,rfl,h4,h6,h5⟩:=hsrc
 have hbt:(n+m)*bytes<=140737488355328:=Nat.le_trans (Nat.mul_le_mul_left _ hbb) (by omega)
 cases ad with
 | some y=>exact step_append_G hgd s x t ho base e i z size bytes ht hi hz hsize hby hzs hsz v n xs hs hown y m c news hx h1 (fun j u hj=>(h5 y rfl j u hj).2) h3 (by unfold maxLen;omega) hbt hbase h
 | none =>
  have hm:=h4 rfl
  subst hm
  obtain rfl:news=[]:=List.length_eq_zero_iff.1 (by rw[h1];simp)
  rw[if_pos (by simp[Region.wanted,hgd])]
  have hr:=run_append_noneS (P:=P) base t o.type e i size c ht hi v n xs hown
  unfold Oper.wp execOp
  simp only[ho,resolve,invoke,builtin,Sem.run_bind,Sem.run_pure,Result.andThen_ok,List.map_toArray,List.map_cons,List.map_nil,hs,hx,hr]
  exact h v w (by simpa using hown) ⟨rfl,rfl,rfl,Nat.le_refl _,fun _ _ _=>rfl⟩ (.inl rfl)
theorem wpList_append_S {P:Program} (w:World) {ops:Array Oper} {rest:List Oper} {o:Oper} {a:Act} {Q:Exit->Act->World->Prop} (hgd:o.guard=none) (s x:Operand) (t:TypeId)
  (ho:o.op=.call { callee:=.builtin .append,args:=#[s,x],argTypes:=#[t,t] })
  (base:Nat) (e:TypeId) (i:TypeInfo) (z:Value) (size bytes:Nat) (ht:P.underlying t=some (.slice e)) (hi:P.info? e=some i) (hz:i.zero=some z)
  (hsize:i.size=size) (hby:i.bytes=bytes) (hzs:z.cells.size=size) (hsz:0<size) (hbb:bytes<=1000)
  (v:Value) (n:Nat) (xs:List Value) (hs:a.eval s=v) (hown:w.ownsRow base e size v n xs) (hn:n<=1048576)
  (u:Value) (B m:Nat) (news:List Value) (hx:a.eval x=u) (hsrc:SrcAt w B size m u news) (hbase:base<=w.heap.size)
  (h:∀ v' w',w'.ownsRow base e size v' (n+m) (xs++news)->w.grownBy w' v.ownBlock->(v'.ownBlock=v.ownBlock∨∀ g,v'.ownBlock=some g->w.heap.size<=g)->wpList P ops Q rest (a.put o.dst v') w'):wpList P ops Q (o::rest) a w:=by
 refine wpList_plain hgd fun K hK=>?_
 have hst:=step_append_S (P:=P) (ops:=ops) (o:=o) (a:=a) (w:=w) (K:=K) (Q:=Q) (E:=True) hgd s x t ho base e i z size bytes ht hi hz hsize hby hzs hsz hbb v n xs hs hown hn u B m news hx hsrc hbase (fun v' w' g1 g2 g3=>hK _ _ (h v' w' g1 g2 g3))
 rw[if_pos (by simp[Region.wanted,hgd])] at hst
 exact hst
theorem SrcAt.fore {w:World} {B s n c k:Nat} {a:Option Addr} {xs:List Value} (h:SrcAt w B s n (.slice a n c) xs) (hk:k<=n):SrcAt w B s k (.slice a k c) (xs.take (k*s)):=by
 obtain⟨h1,h2,h3,ad,c',e,h4,h6,h5⟩:=h
 simp only[Value.slice.injEq] at e
 obtain⟨rfl,_,rfl⟩:=e
 have hks:k*s<=n*s:=Nat.mul_le_mul_right s hk
 refine⟨by rw[List.length_take];omega,by omega,fun u hu=>h3 u (List.mem_of_mem_take hu),a,c,rfl,fun e=>by have:=h4 e;omega,fun h0=>h6 (by rw[List.length_take] at h0;omega),fun x hx j u hj=>h5 x hx j u ?_⟩
 rw[List.getElem?_take] at hj
 split at hj
 ·exact hj
 ·cases hj
theorem SrcAt.rest {w:World} {B s n c k:Nat} {a:Option Addr} {xs:List Value} (h:SrcAt w B s n (.slice a n c) xs) (hk:k<=n) (hc:n<=c):SrcAt w B s (n - k) (.slice (if c=k then a else a.map (fun x=>x.add (k*s))) (n - k) (c - k)) (xs.drop (k*s)):=by
 obtain⟨h1,h2,h3,ad,c',e,h4,h6,h5⟩:=h
 simp only[Value.slice.injEq] at e
 obtain⟨rfl,_,rfl⟩:=e
 have hl:(xs.drop (k*s)).length=(n - k)*s:=by rw[List.length_drop,h1,Nat.sub_mul]
 refine⟨hl,by omega,fun u hu=>h3 u (List.mem_of_mem_drop hu),_,_,rfl,fun e=>?_,fun h0=>?_,fun x hx j u hj=>?_⟩
 ·split at e
  ·omega
  ·cases a with
   | none=>have:=h4 rfl;omega
   | some y=>cases e
 ·have hx0:0<xs.length:=by rw[List.length_drop] at h0;omega
  obtain⟨b,off,rfl⟩:=h6 hx0
  split
  ·exact⟨b,off,rfl⟩
  ·exact⟨b,off+k*s,by rw[Option.map_some,addr_add]⟩
 ·have hjl:=(List.getElem?_eq_some_iff.1 hj).1
  have hx0:0<xs.length:=by rw[List.length_drop] at hjl;omega
  obtain⟨b,off,rfl⟩:=h6 hx0
  rw[List.getElem?_drop] at hj
  have h9:=h5 _ rfl (k*s+j) u hj
  split at hx
  ·have:n - k=0:=by omega
   rw[hl,this] at hjl
   simp at hjl
  ·rw[Option.map_some,addr_add] at hx
   simp only[Option.some.injEq] at hx
   subst hx
   rw[addr_add,Nat.add_assoc]
   rw[addr_add] at h9
   exact h9
def glueOps:Array Oper:=#[
 ⟨some 5,Op.fieldAddr 47 (.tmp 2) 0,0,"l3_tree.go:271",#[],none⟩,
 ⟨some 6,Op.load 4 (.tmp 5),4,"l3_tree.go:271",#[⟨0,.data⟩],none⟩,
 ⟨some 7,Op.buildSlice 43 0 #[],43,"l3_tree.go:271",#[],none⟩,
 ⟨some 8,Op.fieldAddr 47 (.tmp 2) 2,0,"l3_tree.go:271",#[],none⟩,
 ⟨some 9,Op.load 43 (.tmp 8),43,"l3_tree.go:271",#[⟨3,.data⟩],none⟩,
 ⟨some 10,Op.call { callee:=Callee.builtin Builtin.append,args:=#[Operand.tmp 7,Operand.tmp 9],argTypes:=#[43,43] },43,"l3_tree.go:271",#[⟨2,.data⟩,⟨4,.data⟩],none⟩,
 ⟨some 11,Op.fieldAddr 47 (.tmp 3) 2,0,"l3_tree.go:271",#[],none⟩,
 ⟨some 12,Op.load 43 (.tmp 11),43,"l3_tree.go:271",#[⟨6,.data⟩],none⟩,
 ⟨some 13,Op.call { callee:=Callee.builtin Builtin.append,args:=#[Operand.tmp 10,Operand.tmp 12],argTypes:=#[43,43] },43,"l3_tree.go:271",#[⟨5,.data⟩,⟨7,.data⟩,⟨5,.chain⟩],none⟩,
 ⟨some 14,Op.buildSlice 43 0 #[],43,"l3_tree.go:271",#[],none⟩,
 ⟨some 15,Op.fieldAddr 47 (.tmp 2) 3,0,"l3_tree.go:271",#[],none⟩,
 ⟨some 16,Op.load 43 (.tmp 15),43,"l3_tree.go:271",#[⟨10,.data⟩],none⟩,
 ⟨some 17,Op.call { callee:=Callee.builtin Builtin.append,args:=#[Operand.tmp 14,Operand.tmp 16],argTypes:=#[43,43] },43,"l3_tree.go:271",#[⟨9,.data⟩,⟨11,.data⟩,⟨8,.chain⟩],none⟩,
 ⟨some 18,Op.fieldAddr 47 (.tmp 3) 3,0,"l3_tree.go:271",#[],none⟩,
 ⟨some 19,Op.load 43 (.tmp 18),43,"l3_tree.go:271",#[⟨13,.data⟩],none⟩,
 ⟨some 20,Op.call { callee:=Callee.builtin Builtin.append,args:=#[Operand.tmp 17,Operand.tmp 19],argTypes:=#[43,43] },43,"l3_tree.go:271",#[⟨12,.data⟩,⟨14,.data⟩,⟨12,.chain⟩],none⟩,
 ⟨some 21,Op.buildSlice 44 0 #[],44,"l3_tree.go:271",#[],none⟩,
 ⟨some 22,Op.fieldAddr 47 (.tmp 2) 4,0,"l3_tree.go:271",#[],none⟩,
 ⟨some 23,Op.load 44 (.tmp 22),44,"l3_tree.go:271",#[⟨17,.data⟩],none⟩,
 ⟨some 24,Op.call { callee:=Callee.builtin Builtin.append,args:=#[Operand.tmp 21,Operand.tmp 23],argTypes:=#[44,44] },44,"l3_tree.go:271",#[⟨16,.data⟩,⟨18,.data⟩,⟨15,.chain⟩],none⟩,
 ⟨some 25,Op.fieldAddr 47 (.tmp 3) 4,0,"l3_tree.go:271",#[],none⟩,
 ⟨some 26,Op.load 44 (.tmp 25),44,"l3_tree.go:271",#[⟨20,.data⟩],none⟩,
 ⟨some 27,Op.call { callee:=Callee.builtin Builtin.append,args:=#[Operand.tmp 24,Operand.tmp 26],argTypes:=#[44,44] },44,"l3_tree.go:271",#[⟨19,.data⟩,⟨21,.data⟩,⟨19,.chain⟩],none⟩,
 ⟨some 28,Op.buildSlice 45 0 #[],45,"l3_tree.go:271",#[],none⟩,
 ⟨some 29,Op.fieldAddr 47 (.tmp 2) 5,0,"l3_tree.go:271",#[],none⟩,
 ⟨some 30,Op.load 45 (.tmp 29),45,"l3_tree.go:271",#[⟨24,.data⟩],none⟩,
 ⟨some 31,Op.call { callee:=Callee.builtin Builtin.append,args:=#[Operand.tmp 28,Operand.tmp 30],argTypes:=#[45,45] },45,"l3_tree.go:271",#[⟨23,.data⟩,⟨25,.data⟩,⟨22,.chain⟩],none⟩,
 ⟨some 32,Op.fieldAddr 47 (.tmp 3) 5,0,"l3_tree.go:271",#[],none⟩,
 ⟨some 33,Op.load 45 (.tmp 32),45,"l3_tree.go:271",#[⟨27,.data⟩],none⟩,
 ⟨some 34,Op.call { callee:=Callee.builtin Builtin.append,args:=#[Operand.tmp 31,Operand.tmp 33],argTypes:=#[45,45] },45,"l3_tree.go:271",#[⟨26,.data⟩,⟨28,.data⟩,⟨26,.chain⟩],none⟩,
 ⟨some 35,Op.build 47 #[(0,Operand.tmp 6),(2,Operand.tmp 13),(3,Operand.tmp 20),(4,Operand.tmp 27),(5,Operand.tmp 34)],47,"l3_tree.go:271",#[⟨1,.data⟩,⟨8,.data⟩,⟨15,.data⟩,⟨22,.data⟩,⟨29,.data⟩],none⟩,
 ⟨none,Op.store 47 (.tmp 4) (.tmp 35),0,"l3_tree.go:271",#[⟨30,.data⟩,⟨29,.chain⟩,⟨0,.phase⟩,⟨1,.phase⟩,⟨2,.phase⟩,⟨3,.phase⟩,⟨4,.phase⟩,⟨5,.phase⟩,⟨6,.phase⟩,⟨7,.phase⟩,⟨8,.phase⟩,⟨9,.phase⟩,⟨10,.phase⟩,⟨11,.phase⟩,⟨12,.phase⟩,⟨13,.phase⟩,⟨14,.phase⟩,⟨15,.phase⟩,⟨16,.phase⟩,⟨17,.phase⟩,⟨18,.phase⟩,⟨19,.phase⟩,⟨20,.phase⟩,⟨21,.phase⟩,⟨22,.phase⟩,⟨23,.phase⟩,⟨24,.phase⟩,⟨25,.phase⟩,⟨26,.phase⟩,⟨27,.phase⟩,⟨28,.phase⟩,⟨29,.phase⟩,⟨30,.phase⟩],none⟩]
def glueL (p0 p1 p2 p3:Nat):Array Bool:=#[true,true,decide (1<=p0),true,true,decide (2<=p0),true,true,decide (3<=p0),decide (1<=p1),true,true,decide (2<=p1),true,true,decide (3<=p1),decide (1<=p2),true,true,decide (2<=p2),true,true,decide (3<=p2),decide (1<=p3),true,true,decide (2<=p3),true,true,decide (3<=p3),false,false]
def glueC (p0 p1 p2 p3:Nat):Bool:=(decide (p1<=1) || decide (p0=3)) && (decide (p2<=1) || decide (p1=3)) && (decide (p3<=1) || decide (p2=3))
def glueK (p0 p1 p2 p3 i:Nat):Bool:=(i == 2 && p0 == 0) || (i == 9 && p1 == 0) || (i == 16 && p2 == 0) || (i == 23 && p3 == 0) || (i == 5 && p0 == 1) || (i == 8 && p0 == 2) || (i == 12 && p1 == 1 && p0 == 3) || (i == 15 && p1 == 2) || (i == 19 && p2 == 1 && p1 == 3) || (i == 22 && p2 == 2) || (i == 26 && p3 == 1 && p2 == 3) || (i == 29 && p3 == 2)
def glueAll:Bool:=(List.range 4).all fun p0=>(List.range 4).all fun p1=>(List.range 4).all fun p2=>(List.range 4).all fun p3=>!(glueC p0 p1 p2 p3) || (p0 == 3 && p1 == 3 && p2 == 3 && p3 == 3) || (!((Region.ready .any glueOps (glueL p0 p1 p2 p3)).isEmpty) && (Region.ready .any glueOps (glueL p0 p1 p2 p3)).all (fun i=>glueK p0 p1 p2 p3 i))
theorem glueAll_true:glueAll=true:=by kernel_rfl
theorem glue_ready (p0:Nat) (h0:p0<4) (p1:Nat) (h1:p1<4) (p2:Nat) (h2:p2<4) (p3:Nat) (h3:p3<4) (hC:glueC p0 p1 p2 p3=true) (hn:¬ (p0=3∧p1=3∧p2=3∧p3=3)):Region.ready .any glueOps (glueL p0 p1 p2 p3)≠[]∧(Region.ready .any glueOps (glueL p0 p1 p2 p3)).all (fun i=>glueK p0 p1 p2 p3 i)=true:=by
 have h:=glueAll_true
 unfold glueAll at h
 have h:=List.all_eq_true.1 h p0 (List.mem_range.2 h0)
 have h:=List.all_eq_true.1 h p1 (List.mem_range.2 h1)
 have h:=List.all_eq_true.1 h p2 (List.mem_range.2 h2)
 have h:=List.all_eq_true.1 h p3 (List.mem_range.2 h3)
 rw[hC] at h
 simp only[Bool.not_true,Bool.false_or,Bool.or_eq_true,Bool.and_eq_true,beq_iff_eq] at h
 rcases h with h | h
 ·exact absurd ⟨h.1.1.1,h.1.1.2,h.1.2,h.2⟩ hn
 ·exact⟨fun e=>by rw[e] at h;simp at h,h.2⟩
def gda (j q:Nat):Nat:=4+3*q+7*j
theorem gda_inj (i r k s:Nat) (hi:i<4) (hk:k<4) (h1:0<r) (h2:r<=3) (h3:0<s) (h4:s<=3) (h5:i≠k):gda i r≠gda k s:=by unfold gda;omega
def gcon (xA xB:Nat->List Value) (j q:Nat):List Value:=if q=1 then [] else if q=2 then xA j else xA j++xB j
def glen (nA nB:Nat->Nat) (j q:Nat):Nat:=if q=1 then 0 else if q=2 then nA j else nA j+nB j
def p4 (p0 p1 p2 p3:Nat):Nat->Nat:=fun j=>if j=0 then p0 else if j=1 then p1 else if j=2 then p2 else p3
theorem up4_0 (p0 p1 p2 p3 q:Nat):∀ i,i<4->p4 q p1 p2 p3 i=upP (p4 p0 p1 p2 p3) 0 q i:=fun i hi=>by
 have h:i=0∨i=1∨i=2∨i=3:=by omega
 rcases h with rfl | rfl | rfl | rfl<;>rfl
theorem up4_1 (p0 p1 p2 p3 q:Nat):∀ i,i<4->p4 p0 q p2 p3 i=upP (p4 p0 p1 p2 p3) 1 q i:=fun i hi=>by
 have h:i=0∨i=1∨i=2∨i=3:=by omega
 rcases h with rfl | rfl | rfl | rfl<;>rfl
theorem up4_2 (p0 p1 p2 p3 q:Nat):∀ i,i<4->p4 p0 p1 q p3 i=upP (p4 p0 p1 p2 p3) 2 q i:=fun i hi=>by
 have h:i=0∨i=1∨i=2∨i=3:=by omega
 rcases h with rfl | rfl | rfl | rfl<;>rfl
theorem up4_3 (p0 p1 p2 p3 q:Nat):∀ i,i<4->p4 p0 p1 p2 q i=upP (p4 p0 p1 p2 p3) 3 q i:=fun i hi=>by
 have h:i=0∨i=1∨i=2∨i=3:=by omega
 rcases h with rfl | rfl | rfl | rfl<;>rfl
theorem glen_le {nA nB:Nat->Nat} {j q:Nat} (h:nA j<=1048576) (h0:0<q) (hq:q<3):glen nA nB j q<=1048576:=by
 unfold glen
 split
 ·omega
 ·split
  ·exact h
  ·omega
theorem JG.re {SZ M:Nat} {Wd:World} {da:Nat->Nat->Nat} {con:Nat->Nat->List Value} {len:Nat->Nat->Nat} {keep:List (Nat × Value)} {p p':Nat->Nat} {a:Act} {w:World} (h:JG SZ Wd M da con len keep p a w) (e:∀ j,j<4->p' j=p j):JG SZ Wd M da con len keep p' a w :=
 ⟨h.sz,h.df,h.kp,fun j hj h0=>by rw[e j hj] at h0 ⊢;exact h.cur j hj h0,fun i j hi hj hne h0 h1=>by rw[e i hi] at h0 ⊢;rw[e j hj] at h1 ⊢;exact h.apart i j hi hj hne h0 h1,h.fr⟩
set_option maxHeartbeats 4000000 in
theorem glue_walk {Q:Exit->Act->World->Prop} {S:World->Prop} {SZ M:Nat} {Wd:World} (hM:M<=Wd.heap.size) (hS:∀ w,Fr (fun g=>M<=g) Wd w->S w) (hSZ:35<=SZ) (sA sB:Nat->Value) (xA xB:Nat->List Value) (nA nB:Nat->Nat) (keep:List (Nat × Value)) (hkeep:∀ x ∈ keep,∀ j,j<4->∀ q,0<q->q<=3->x.1≠gda j q) (hkA:∀ j,j<4->(9+7*j,sA j) ∈ keep) (hkB:∀ j,j<4->(12+7*j,sB j) ∈ keep)
  (hsA:∀ j,j<4->SrcAt Wd M (gS j) (nA j) (sA j) (xA j)) (hsB:∀ j,j<4->SrcAt Wd M (gS j) (nB j) (sB j) (xB j))
  (hend:∀ a w,JG SZ Wd M gda (gcon xA xB) (glen nA nB) keep (fun _=>3) a w->wpAnyH Tryz.prog .any glueOps Q S 2 (glueL 3 3 3 3) a w) :
  ∀ m p0 p1 p2 p3 a w,p0<4->p1<4->p2<4->p3<4->glueC p0 p1 p2 p3=true->p0+p1+p2+p3+m=12->JG SZ Wd M gda (gcon xA xB) (glen nA nB) keep (p4 p0 p1 p2 p3) a w->wpAnyH Tryz.prog .any glueOps Q S (m+2) (glueL p0 p1 p2 p3) a w:=by
 intro m
 induction m with
 | zero =>
  intro p0 p1 p2 p3 a w h0 h1 h2 h3 hC hs hJ
  obtain rfl:p0=3:=by omega
  obtain rfl:p1=3:=by omega
  obtain rfl:p2=3:=by omega
  obtain rfl:p3=3:=by omega
  exact hend a w (hJ.re (fun j hj=>by unfold p4;split;rfl;split;rfl;split;rfl;rfl))
 | succ m ih =>
  intro p0 p1 p2 p3 a w h0 h1 h2 h3 hC hs hJ
  obtain⟨hne,hall⟩:=glue_ready p0 h0 p1 h1 p2 h2 p3 h3 hC (by omega)
  have hMw:M<=w.heap.size:=Nat.le_trans hM hJ.fr.size
  have hbel:Below M Wd w:=⟨hJ.fr.os,hJ.fr.tape,hJ.fr.output,hJ.fr.size,fun k hk=>hJ.fr.block k (by omega) (by omega)⟩
  have hpm:∀ i,i<4->p4 p0 p1 p2 p3 i<=3:=fun i hi=>by unfold p4;split;omega;split;omega;split;omega;omega
  have hmake:∀ j,j<4->p4 p0 p1 p2 p3 j=0->JG SZ Wd M gda (gcon xA xB) (glen nA nB) keep (upP (p4 p0 p1 p2 p3) j 1) (a.put (some (gda j 1)) (.slice (some ⟨w.heap.size,0,none⟩) 0 0)) (w.alloc (.cells #[] (gE j))):=fun j hj hp =>
   hJ.move (mx:=3) hj (by omega) (by omega) hpm gda_inj (fun x hx=>hkeep x hx j hj 1 (by omega) (by omega)) (by unfold gda;omega) hMw (emptyE w (gE j) (gS j) M hMw) ⟨rfl,rfl,rfl,by simp,fun k hk _=>((Below.refl w.heap.size w).alloc (Nat.le_refl _) _).block k hk⟩ (fun g hg=>.inr (by have:=own_some hg;omega))
  have happ:∀ j q,j<4->0<q->q<3->p4 p0 p1 p2 p3 j=q->∀ v' w',w'.ownsRow M (gE j) (gS j) v' (glen nA nB j (q+1)) (gcon xA xB j (q+1))->w.grownBy w' (a.eval (.tmp (gda j q))).ownBlock->(v'.ownBlock=(a.eval (.tmp (gda j q))).ownBlock∨∀ g,v'.ownBlock=some g->w.heap.size<=g)->JG SZ Wd M gda (gcon xA xB) (glen nA nB) keep (upP (p4 p0 p1 p2 p3) j (q+1)) (a.put (some (gda j (q+1))) v') w':=fun j q hj h1 h2 hp v' w' g1 g2 g3 =>
   hJ.move (mx:=3) hj (by omega) (by omega) hpm gda_inj (fun x hx=>hkeep x hx j hj (q+1) (by omega) (by omega)) (by unfold gda;omega) hMw g1 (Fr.of_grown g2 (fun g hg=>by rw[hp];exact⟨h1,hg⟩)) (fun g hg=>by
    rcases g3 with e | e
    ·rw[e] at hg;exact .inl (by rw[hp];exact⟨h1,hg⟩)
    ·exact .inr (e g hg))
  have hrow:∀ j q,j<4->0<q->p4 p0 p1 p2 p3 j=q->w.ownsRow M (gE j) (gS j) (a.eval (.tmp (gda j q))) (glen nA nB j q) (gcon xA xB j q):=fun j q hj h1 hp=>by have:=hJ.cur j hj (by omega);rw[hp] at this;exact this
  refine wpAnyH_all rfl hne (fun i hi=>?_)
  have hk:=List.all_eq_true.1 hall i hi
  clear hall hne hi
  simp only[glueK,Bool.or_eq_true,Bool.and_eq_true,beq_iff_eq] at hk
  rcases hk with (((((((((((hk | hk) | hk) | hk) | hk) | hk) | hk) | hk) | hk) | hk) | hk) | hk)
  ·obtain rfl:i=2:=hk.1
   obtain rfl:p0=0:=hk.2
   refine wpOp_step (ops:=glueOps) (o:=⟨some 7,Op.buildSlice 43 0 #[],43,"l3_tree.go:271",#[],none⟩) rfl (fun K hK=>?_)
   refine step_empty rfl 43 9 rfl (run_empty0 w) ?_
   have hJ2:=((hmake 0 (by omega) rfl).re (up4_0 0 p1 p2 p3 1))
   exact hK _ _ ⟨hS _ hJ2.fr,ih 1 p1 p2 p3 _ _ (by omega) (by omega) (by omega) (by omega) (by revert hC;unfold glueC;simp<;>omega) (by omega) hJ2⟩
  ·obtain rfl:i=9:=hk.1
   obtain rfl:p1=0:=hk.2
   refine wpOp_step (ops:=glueOps) (o:=⟨some 14,Op.buildSlice 43 0 #[],43,"l3_tree.go:271",#[],none⟩) rfl (fun K hK=>?_)
   refine step_empty rfl 43 9 rfl (run_empty0 w) ?_
   have hJ2:=((hmake 1 (by omega) rfl).re (up4_1 p0 0 p2 p3 1))
   exact hK _ _ ⟨hS _ hJ2.fr,ih p0 1 p2 p3 _ _ (by omega) (by omega) (by omega) (by omega) (by revert hC;unfold glueC;simp<;>omega) (by omega) hJ2⟩
  ·obtain rfl:i=16:=hk.1
   obtain rfl:p2=0:=hk.2
   refine wpOp_step (ops:=glueOps) (o:=⟨some 21,Op.buildSlice 44 0 #[],44,"l3_tree.go:271",#[],none⟩) rfl (fun K hK=>?_)
   refine step_empty rfl 44 2 rfl (run_empty2 w) ?_
   have hJ2:=((hmake 2 (by omega) rfl).re (up4_2 p0 p1 0 p3 1))
   exact hK _ _ ⟨hS _ hJ2.fr,ih p0 p1 1 p3 _ _ (by omega) (by omega) (by omega) (by omega) (by revert hC;unfold glueC;simp<;>omega) (by omega) hJ2⟩
  ·obtain rfl:i=23:=hk.1
   obtain rfl:p3=0:=hk.2
   refine wpOp_step (ops:=glueOps) (o:=⟨some 28,Op.buildSlice 45 0 #[],45,"l3_tree.go:271",#[],none⟩) rfl (fun K hK=>?_)
   refine step_empty rfl 45 47 rfl (run_empty3 w) ?_
   have hJ2:=((hmake 3 (by omega) rfl).re (up4_3 p0 p1 p2 0 1))
   exact hK _ _ ⟨hS _ hJ2.fr,ih p0 p1 p2 1 _ _ (by omega) (by omega) (by omega) (by omega) (by revert hC;unfold glueC;simp<;>omega) (by omega) hJ2⟩
  ·obtain rfl:i=5:=hk.1
   obtain rfl:p0=1:=hk.2
   refine wpOp_step (ops:=glueOps) (o:=⟨some 10,Op.call { callee:=Callee.builtin Builtin.append,args:=#[Operand.tmp 7,Operand.tmp 9],argTypes:=#[43,43] },43,"l3_tree.go:271",#[⟨2,.data⟩,⟨4,.data⟩],none⟩) rfl (fun K hK=>?_)
   obtain⟨i0,hi0,hz0,hz1,hz2⟩:=info_parts info_strC
   refine step_append_S rfl _ _ 43 rfl M 9 i0 _ 1 16 Tryz.underlying43 hi0 hz0 hz1 hz2 rfl (by decide) (by decide) _ _ _ rfl (hrow 0 1 (by omega) (by omega) rfl) (glen_le (hsA 0 (by omega)).2.1 (by omega) (by omega)) _ M (nA 0) (xA 0) (hJ.kp _ (hkA 0 (by omega))) ((hsA 0 (by omega)).below hbel) hMw ?_
   intro v' w' g1 g2 g3
   have hJ2:=((happ 0 1 (by omega) (by omega) (by omega) rfl v' w' (by have:=g1;simpa[glen,gcon,gE,gS] using this) g2 g3).re (up4_0 1 p1 p2 p3 2))
   exact hK _ _ ⟨hS _ hJ2.fr,ih 2 p1 p2 p3 _ _ (by omega) (by omega) (by omega) (by omega) (by revert hC;unfold glueC;simp<;>omega) (by omega) hJ2⟩
  ·obtain rfl:i=8:=hk.1
   obtain rfl:p0=2:=hk.2
   refine wpOp_step (ops:=glueOps) (o:=⟨some 13,Op.call { callee:=Callee.builtin Builtin.append,args:=#[Operand.tmp 10,Operand.tmp 12],argTypes:=#[43,43] },43,"l3_tree.go:271",#[⟨5,.data⟩,⟨7,.data⟩,⟨5,.chain⟩],none⟩) rfl (fun K hK=>?_)
   obtain⟨i0,hi0,hz0,hz1,hz2⟩:=info_parts info_strC
   refine step_append_S rfl _ _ 43 rfl M 9 i0 _ 1 16 Tryz.underlying43 hi0 hz0 hz1 hz2 rfl (by decide) (by decide) _ _ _ rfl (hrow 0 2 (by omega) (by omega) rfl) (glen_le (hsA 0 (by omega)).2.1 (by omega) (by omega)) _ M (nB 0) (xB 0) (hJ.kp _ (hkB 0 (by omega))) ((hsB 0 (by omega)).below hbel) hMw ?_
   intro v' w' g1 g2 g3
   have hJ2:=((happ 0 2 (by omega) (by omega) (by omega) rfl v' w' (by have:=g1;simpa[glen,gcon,gE,gS] using this) g2 g3).re (up4_0 2 p1 p2 p3 3))
   exact hK _ _ ⟨hS _ hJ2.fr,ih 3 p1 p2 p3 _ _ (by omega) (by omega) (by omega) (by omega) (by revert hC;unfold glueC;simp<;>omega) (by omega) hJ2⟩
  ·obtain rfl:i=12:=hk.1.1
   obtain rfl:p1=1:=hk.1.2
   obtain rfl:p0=3:=hk.2
   refine wpOp_step (ops:=glueOps) (o:=⟨some 17,Op.call { callee:=Callee.builtin Builtin.append,args:=#[Operand.tmp 14,Operand.tmp 16],argTypes:=#[43,43] },43,"l3_tree.go:271",#[⟨9,.data⟩,⟨11,.data⟩,⟨8,.chain⟩],none⟩) rfl (fun K hK=>?_)
   obtain⟨i0,hi0,hz0,hz1,hz2⟩:=info_parts info_strC
   refine step_append_S rfl _ _ 43 rfl M 9 i0 _ 1 16 Tryz.underlying43 hi0 hz0 hz1 hz2 rfl (by decide) (by decide) _ _ _ rfl (hrow 1 1 (by omega) (by omega) rfl) (glen_le (hsA 1 (by omega)).2.1 (by omega) (by omega)) _ M (nA 1) (xA 1) (hJ.kp _ (hkA 1 (by omega))) ((hsA 1 (by omega)).below hbel) hMw ?_
   intro v' w' g1 g2 g3
   have hJ2:=((happ 1 1 (by omega) (by omega) (by omega) rfl v' w' (by have:=g1;simpa[glen,gcon,gE,gS] using this) g2 g3).re (up4_1 3 1 p2 p3 2))
   exact hK _ _ ⟨hS _ hJ2.fr,ih 3 2 p2 p3 _ _ (by omega) (by omega) (by omega) (by omega) (by revert hC;unfold glueC;simp<;>omega) (by omega) hJ2⟩
  ·obtain rfl:i=15:=hk.1
   obtain rfl:p1=2:=hk.2
   refine wpOp_step (ops:=glueOps) (o:=⟨some 20,Op.call { callee:=Callee.builtin Builtin.append,args:=#[Operand.tmp 17,Operand.tmp 19],argTypes:=#[43,43] },43,"l3_tree.go:271",#[⟨12,.data⟩,⟨14,.data⟩,⟨12,.chain⟩],none⟩) rfl (fun K hK=>?_)
   obtain⟨i0,hi0,hz0,hz1,hz2⟩:=info_parts info_strC
   refine step_append_S rfl _ _ 43 rfl M 9 i0 _ 1 16 Tryz.underlying43 hi0 hz0 hz1 hz2 rfl (by decide) (by decide) _ _ _ rfl (hrow 1 2 (by omega) (by omega) rfl) (glen_le (hsA 1 (by omega)).2.1 (by omega) (by omega)) _ M (nB 1) (xB 1) (hJ.kp _ (hkB 1 (by omega))) ((hsB 1 (by omega)).below hbel) hMw ?_
   intro v' w' g1 g2 g3
   have hJ2:=((happ 1 2 (by omega) (by omega) (by omega) rfl v' w' (by have:=g1;simpa[glen,gcon,gE,gS] using this) g2 g3).re (up4_1 p0 2 p2 p3 3))
   exact hK _ _ ⟨hS _ hJ2.fr,ih p0 3 p2 p3 _ _ (by omega) (by omega) (by omega) (by omega) (by revert hC;unfold glueC;simp<;>omega) (by omega) hJ2⟩
  ·obtain rfl:i=19:=hk.1.1
   obtain rfl:p2=1:=hk.1.2
   obtain rfl:p1=3:=hk.2
   refine wpOp_step (ops:=glueOps) (o:=⟨some 24,Op.call { callee:=Callee.builtin Builtin.append,args:=#[Operand.tmp 21,Operand.tmp 23],argTypes:=#[44,44] },44,"l3_tree.go:271",#[⟨16,.data⟩,⟨18,.data⟩,⟨15,.chain⟩],none⟩) rfl (fun K hK=>?_)
   obtain⟨i0,hi0,hz0,hz1,hz2⟩:=info_parts info_i64C
   refine step_append_S rfl _ _ 44 rfl M 2 i0 _ 1 8 Tryz.underlying44 hi0 hz0 hz1 hz2 rfl (by decide) (by decide) _ _ _ rfl (hrow 2 1 (by omega) (by omega) rfl) (glen_le (hsA 2 (by omega)).2.1 (by omega) (by omega)) _ M (nA 2) (xA 2) (hJ.kp _ (hkA 2 (by omega))) ((hsA 2 (by omega)).below hbel) hMw ?_
   intro v' w' g1 g2 g3
   have hJ2:=((happ 2 1 (by omega) (by omega) (by omega) rfl v' w' (by have:=g1;simpa[glen,gcon,gE,gS] using this) g2 g3).re (up4_2 p0 3 1 p3 2))
   exact hK _ _ ⟨hS _ hJ2.fr,ih p0 3 2 p3 _ _ (by omega) (by omega) (by omega) (by omega) (by revert hC;unfold glueC;simp<;>omega) (by omega) hJ2⟩
  ·obtain rfl:i=22:=hk.1
   obtain rfl:p2=2:=hk.2
   refine wpOp_step (ops:=glueOps) (o:=⟨some 27,Op.call { callee:=Callee.builtin Builtin.append,args:=#[Operand.tmp 24,Operand.tmp 26],argTypes:=#[44,44] },44,"l3_tree.go:271",#[⟨19,.data⟩,⟨21,.data⟩,⟨19,.chain⟩],none⟩) rfl (fun K hK=>?_)
   obtain⟨i0,hi0,hz0,hz1,hz2⟩:=info_parts info_i64C
   refine step_append_S rfl _ _ 44 rfl M 2 i0 _ 1 8 Tryz.underlying44 hi0 hz0 hz1 hz2 rfl (by decide) (by decide) _ _ _ rfl (hrow 2 2 (by omega) (by omega) rfl) (glen_le (hsA 2 (by omega)).2.1 (by omega) (by omega)) _ M (nB 2) (xB 2) (hJ.kp _ (hkB 2 (by omega))) ((hsB 2 (by omega)).below hbel) hMw ?_
   intro v' w' g1 g2 g3
   have hJ2:=((happ 2 2 (by omega) (by omega) (by omega) rfl v' w' (by have:=g1;simpa[glen,gcon,gE,gS] using this) g2 g3).re (up4_2 p0 p1 2 p3 3))
   exact hK _ _ ⟨hS _ hJ2.fr,ih p0 p1 3 p3 _ _ (by omega) (by omega) (by omega) (by omega) (by revert hC;unfold glueC;simp<;>omega) (by omega) hJ2⟩
  ·obtain rfl:i=26:=hk.1.1
   obtain rfl:p3=1:=hk.1.2
   obtain rfl:p2=3:=hk.2
   refine wpOp_step (ops:=glueOps) (o:=⟨some 31,Op.call { callee:=Callee.builtin Builtin.append,args:=#[Operand.tmp 28,Operand.tmp 30],argTypes:=#[45,45] },45,"l3_tree.go:271",#[⟨23,.data⟩,⟨25,.data⟩,⟨22,.chain⟩],none⟩) rfl (fun K hK=>?_)
   obtain⟨i0,hi0,hz0,hz1,hz2⟩:=info_parts info_l3N
   refine step_append_S rfl _ _ 45 rfl M 47 i0 _ 6 112 Tryz.underlying45 hi0 hz0 hz1 hz2 rfl (by decide) (by decide) _ _ _ rfl (hrow 3 1 (by omega) (by omega) rfl) (glen_le (hsA 3 (by omega)).2.1 (by omega) (by omega)) _ M (nA 3) (xA 3) (hJ.kp _ (hkA 3 (by omega))) ((hsA 3 (by omega)).below hbel) hMw ?_
   intro v' w' g1 g2 g3
   have hJ2:=((happ 3 1 (by omega) (by omega) (by omega) rfl v' w' (by have:=g1;simpa[glen,gcon,gE,gS] using this) g2 g3).re (up4_3 p0 p1 3 1 2))
   exact hK _ _ ⟨hS _ hJ2.fr,ih p0 p1 3 2 _ _ (by omega) (by omega) (by omega) (by omega) (by revert hC;unfold glueC;simp<;>omega) (by omega) hJ2⟩
  ·obtain rfl:i=29:=hk.1
   obtain rfl:p3=2:=hk.2
   refine wpOp_step (ops:=glueOps) (o:=⟨some 34,Op.call { callee:=Callee.builtin Builtin.append,args:=#[Operand.tmp 31,Operand.tmp 33],argTypes:=#[45,45] },45,"l3_tree.go:271",#[⟨26,.data⟩,⟨28,.data⟩,⟨26,.chain⟩],none⟩) rfl (fun K hK=>?_)
   obtain⟨i0,hi0,hz0,hz1,hz2⟩:=info_parts info_l3N
   refine step_append_S rfl _ _ 45 rfl M 47 i0 _ 6 112 Tryz.underlying45 hi0 hz0 hz1 hz2 rfl (by decide) (by decide) _ _ _ rfl (hrow 3 2 (by omega) (by omega) rfl) (glen_le (hsA 3 (by omega)).2.1 (by omega) (by omega)) _ M (nB 3) (xB 3) (hJ.kp _ (hkB 3 (by omega))) ((hsB 3 (by omega)).below hbel) hMw ?_
   intro v' w' g1 g2 g3
   have hJ2:=((happ 3 2 (by omega) (by omega) (by omega) rfl v' w' (by have:=g1;simpa[glen,gcon,gE,gS] using this) g2 g3).re (up4_3 p0 p1 p2 2 3))
   exact hK _ _ ⟨hS _ hJ2.fr,ih p0 p1 p2 3 _ _ (by omega) (by omega) (by omega) (by omega) (by revert hC;unfold glueC;simp<;>omega) (by omega) hJ2⟩
end Go.Proofs.YtbfggcekifaldaaGreat
