import Derived.Test.YtggmghkcdfjdoaaGreatHTks
import Derived.Test.YtggmghkcdfjdoaaGreatHTpw
import Derived.Deep.DeepCutAuto
import Derived.Deep.RegionHeld3
namespace Go.Proofs.YtggmghkcdfjdoaaGreat
open Go.RowKit Tryz
set_option linter.unusedVariables false
set_option linter.unusedSimpArgs false
set_option maxRecDepth 100000
variable {P:Nat->Prop} {R:List TN} {base g k m oc on:Nat} {h:TN} {ns:List ND} {q t:T} {us:Nat->Nat->Value} {w w' wr:World}
def T.whole:T->Bool
 | ⟨l,_,k,v,o,y⟩=>(!l || (decide (v.length=k.length) && decide (o.length=k.length) && decide (k.length<=1000) && y.isEmpty)) && (l || (!y.isEmpty && y.all (fun t=>decide (0<t.size)))) && (y.map T.whole).all id
theorem T.whole_eq (t:T):t.whole=((!t.leaf || (decide (t.vals.length=t.keys.length) && decide (t.over.length=t.keys.length) && decide (t.keys.length<=1000) && t.kids.isEmpty)) && (t.leaf || (!t.kids.isEmpty && t.kids.all (fun t=>decide (0<t.size)))) && (t.kids.map T.whole).all id):=by cases t;rw[T.whole]
theorem T.whole_leaf (h:t.whole=true) (a:t.leaf=true):t.vals.length=t.keys.length∧t.over.length=t.keys.length∧t.keys.length<=1000∧t.kids=[]:=by
 rw[T.whole_eq,a] at h;simp only[Em,Es,Fg,E8,Bool.true_or] at h;exact⟨h.1.1.1.1.1,h.1.1.1.1.2,h.1.1.1.2,by simpa using h.1.1.2⟩
theorem T.whole_inner (h:t.whole=true) (b:t.leaf=false):t.kids≠[]∧∀ k ∈ t.kids,0<k.size∧k.whole=true:=by
 rw[T.whole_eq,b] at h;simp only[Em,Bool.not_false,Bool.true_or,E8,Ez,Es] at h;refine⟨fun c=>by rw[c] at h;simp at h,fun k a=>⟨h.1.2.2 k a,?_⟩⟩;exact h.2 k.whole (EY.2 ⟨k,a,rfl⟩)
theorem gf.least:∀ (t:T) (e:TypeId) (f:Value),t.whole=true->0<t.size->gf w P t (.iface e f)->xF w e f "loop.example/s02098/impl.least" (.string t.low):=by
 intro t
 induction t using T.ind with
 |h t p=>
  intro e f q r h;cases a:t.leaf;·obtain⟨g,s,i,u,us,j,b⟩:=h.inner a;cases j;obtain⟨v,n⟩:=T.whole_inner q a;obtain⟨k,A,c⟩:=EX v;have d:k ∈ t.kids:=(by rw[c];exact Et ..);have l:0<i:=(by rw[b.len.1,c];simp);have m:=b.kid 0 k d (by rw[c];rfl);obtain⟨x,y,o⟩:=m.shape;rw[o] at m;have z:=p k d x y (n k d).2 (n k d).1 m;refine⟨fun w=>by kernel_rfl,91,.pointer (some ⟨g,0,none⟩),fun w=>by kernel_rfl,fun w=>by kernel_rfl,?_⟩;rw[T.low_inner a c];exact mu b l o z
  ·obtain⟨g,s,i,u,j,b⟩:=h.leaf a;cases j;have l:0<i:=(by rw[b.len];simpa[T.size,a] using r);refine⟨fun w=>by kernel_rfl,112,.pointer (some ⟨g,0,none⟩),fun w=>by kernel_rfl,fun w=>by kernel_rfl,?_⟩;rw[T.low_leaf a];exact oe b l
def tr (base:Nat) (t:T) (w':World) (on:Nat) (ns:List ND) (e:Ending) (w2:World):Prop:=∃ oa' oc' us',e=.returned (.slice oa' (on+t.nodes) oc')∧cj w2 base (.slice oa' (on+t.nodes) oc') (ns++(t.flat on).map TN.nd) us'∧Fr (fun k=>base<=k) w' w2
def tt (base:Nat) (w:World) (t:T) (ty:TypeId) (v:Value):Prop :=
 (∀ w,(nilAhead 290 ty v "loop.example/s02098/impl.tell").run prog w=.ok (some false) w)∧∃ f r,(∀ w,(method 290 ty v "loop.example/s02098/impl.tell").run prog w=.ok (f,r) w)∧(∀ x w,(callFunc f #[r,x]).run prog w=.ok (.enter f #[r,x]) w) ∧
  ∀ (w':World),Below base w w'->∀ (oa:Option Addr) (on oc:Nat) (ns:List ND) (us:Nat->Nat->Value),cj w' base (.slice oa on oc) ns us->on=ns.length->on+t.nodes<=10000000->base<=w'.heap.size->Calls prog f #[r,.slice oa on oc] w' fun e w2=>tr base t w' on ns e w2
theorem j7:∀ (b:List T) (a:Nat),(∀ k ∈ b,∀ a,(k.flat a).length=k.nodes)->(bJ a (b.map T.flat)).length=(b.map T.nodes).sum
 | [],a,h=>rfl
 | k::r,a,h=>by
  simp only[Ex,bJ,El,Ff]
  rw[j7 r _ (fun q c=>h q (EH _ c)),h k (Et ..)]
theorem T.flat_len (t:T) (a:t.whole=true):∀ b,(t.flat b).length=t.nodes:=by
 induction t using T.ind with
 |h t e=>
  intro b;rw[T.flat_eq,T.nodes_eq];cases c:t.leaf;·simp only[EC,EO,EU];rw[j7 t.kids _ (fun k d=>e k d ((T.whole_inner a c).2 k d).2)];omega
  ·simp only[if_true];rw[(T.whole_leaf a c).2.2.2];rfl
theorem mK:∀ (d:List Nat) (b c:Nat),aX b (d++[c])=aX b d++[((b+d.sum:Nat):Int)]
 | [],b,c=>by simp[aX]
 | a::r,b,c=>by
  simp only[Fj,aX,Ff]
  rw[mK r (b+a) c,Fx]
theorem py:∀ (c:List T) (b:Nat) (k:T),(∀ q ∈ c,∀ b,(q.flat b).length=q.nodes)->bJ b ((c++[k]).map T.flat)=bJ b (c.map T.flat)++k.flat (b+(c.map T.nodes).sum)
 | [],b,k,h=>by simp[bJ]
 | a::r,b,k,h=>by
  simp only[Fj,Ex,bJ,Ff,EA]
  rw[py r _ k (fun q d=>h q (EH _ d)),h a (Et ..),Fx]
def jN (t:T) (on k:Nat):TN:=⟨false,t.page,(t.kids.take k).tail.map T.low,[],[],aX (on+1) ((t.kids.take k).map T.nodes)⟩
def Ci (t:T) (on k:Nat):List TN:=jN t on k::bJ (on+1) ((t.kids.take k).map T.flat)
def mI (t:T) (k:Nat):Nat:=((t.kids.take k).map T.nodes).sum
theorem Bj (on:Nat) (a:t.leaf=false):Ci t on t.kids.length=t.flat on:=by
 rw[T.flat_eq,a,Ci,jN,List.take_length];rfl
theorem pz (a:t.kids[k]?=some q):t.kids.take (k+1)=t.kids.take k++[q]:=by
 obtain⟨b,c⟩:=EQ.1 a;rw[ER b,c]
theorem Bk (a:t.kids[k]?=some q):mI t (k+1)=mI t k+q.nodes:=by
 unfold mI;rw[pz a];simp
theorem BQ (t:T) (k:Nat):1+mI t k<=t.nodes:=by
 rw[T.nodes_eq];unfold mI;have:∀ (a:List Nat) (k:Nat),(a.take k).sum<=a.sum:=by
  intro a
  induction a with
  | nil=>intro k;simp
  | cons c d b=>intro k;cases k with
   | zero=>simp
   | succ k=>have:=b k;simp;omega
 have:=this (t.kids.map T.nodes) k;rw[<-List.map_take] at this;omega
theorem Ad (on:Nat) (a:t.kids[k]?=some q):jN t on (k+1)=⟨false,t.page,(jN t on k).keys++(if 0<k then [q.low] else []),[],[],(jN t on k).kids++[((on+1+mI t k:Nat):Int)]⟩:=by
 unfold jN mI;rw[pz a,E5,show [q].map T.nodes=[q.nodes] from rfl,mK]
 congr 1
 have d:=Zc a;by_cases b:0<k
 ·rw[if_pos b];cases h:t.kids.take k with
  |nil=>have c:(t.kids.take k).length=0:=(by rw[h];rfl);rw[Eu] at c;omega
  | cons e f=>simp
 ·rw[if_neg b];have:k=0:=(by omega);subst this;simp
theorem Ae (on:Nat) (a:t.kids[k]?=some q) (h:∀ q ∈ t.kids,∀ s,(q.flat s).length=q.nodes):Ci t on (k+1)=(jN t on (k+1)::bJ (on+1) ((t.kids.take k).map T.flat))++q.flat (on+1+mI t k):=by
 unfold Ci mI;rw[pz a,py _ _ _ (fun q b=>h q (EI b))];rfl
theorem qM {P:Program} {ops:Array Oper} {o:Oper} {a:Act} {K:Act->World->Prop} {Q:Exit->Act->World->Prop} {E:Prop}
  (p:o.guard=none) (s x:Operand) (t:TypeId) (q:o.op=.call { callee:=.builtin .append,args:=#[s,x],argTypes:=#[t,t] })
  (base:Nat) (e:TypeId) (i:TypeInfo) (z:Value) (size f:Nat) (ht:P.underlying t=some (.slice e)) (r:P.info? e=some i) (y:i.zero=some z)
  (A:i.size=size) (B:i.bytes=f) (C:z.cells.size=size) (D:0<size)
  (v:Value) (n:Nat) (k:List Value) (F:a.eval s=v) (G:w.ownsRow base e size v n k)
  (l:Addr) (m c:Nat) (d:List Value) (H:a.eval x=.slice (some l) m c) (I:d.length=m*size) (J:∀ j u,d[j]?=some u->w.cell? (l.add j)=some u) (L:∀ u ∈ d,u.oneCell'=true)
  (M:n+m<=maxLen) (N:(n+m)*f<=140737488355328) (O:base<=w.heap.size)
  (h:∀ b w',w'.ownsRow base e size b (n+m) (k++d)->w.grownBy w' v.ownBlock->(b.ownBlock=v.ownBlock∨∀ g,b.ownBlock=some g->w.heap.size<=g)->K (a.put o.dst b) w') :
  if Region.wanted o (yielded ops a.tmps)=true then Oper.wp P o a w K Q else E:=by
 rw[if_pos (by simp[Region.wanted,p])];obtain⟨b,w',R,S,T,U⟩:=dU (P:=P) w base t o.type e i z size f ht r y A B C D v n k G l m c d I J L M N O;unfold Oper.wp execOp;simp only[q,resolve,invoke,builtin,Sem.run_bind,Sem.run_pure,Result.andThen_ok,List.map_toArray,Ex,E6,F,H,R];exact h b w' S T U
theorem nD (ns:List ND) (x:ND) (r:List ND):(ns++x::r).getD ns.length dN=x:=by simp[List.getD]
theorem Af (ns:List ND) (x y:ND) (r:List ND):(ns++x::r).set ns.length y=ns++y::r:=by simp
theorem Bl (l:Bool) (p:Int) (K a:List ByteArray) (b c:List Int) (s:ByteArray):(⟨(TN.nd ⟨l,p,K,a,b,c⟩).leaf,(TN.nd ⟨l,p,K,a,b,c⟩).page,fun d=>if d=0 then aa ae K++[.string s] else (TN.nd ⟨l,p,K,a,b,c⟩).l d⟩:ND)=TN.nd ⟨l,p,K++[s],a,b,c⟩:=by
 unfold TN.nd
 congr 1
 funext d;by_cases e:d=0;·subst e;simp[aa,ae]
 ·simp[e]
theorem Bm (l:Bool) (p:Int) (K b:List ByteArray) (c a:List Int) (s:Int):(⟨(TN.nd ⟨l,p,K,b,c,a⟩).leaf,(TN.nd ⟨l,p,K,b,c,a⟩).page,fun d=>if d=3 then aa ac a++[.int .i64 s] else (TN.nd ⟨l,p,K,b,c,a⟩).l d⟩:ND)=TN.nd ⟨l,p,K,b,c,a++[s]⟩:=by
 unfold TN.nd
 congr 1
 funext d;by_cases e:d=3;·subst e;simp[aa,ac]
 ·simp[e]
def jO (base:Nat) (w' wr:World) (on g m oc:Nat) (ns:List ND) (h:TN) (R:List TN) (us:Nat->Nat->Value):Prop :=
 cj wr base (.slice (some ⟨g,0,none⟩) m oc) (ns++TN.nd h::R.map TN.nd) us∧on=ns.length∧m=on+1+R.length∧Fr (fun k=>base<=k) w' wr∧base<=wr.heap.size
theorem jO.list (e:jO base w' wr on g m oc ns h R us) (q:Nat) (f:q<4):wr.ownsRow base (oP q) 1 (us on q) ((TN.nd h).l q).length ((TN.nd h).l q)∧wr.cell? ⟨g,on*6+(2+q),none⟩=some (us on q)∧g<wr.heap.size∧(∀ b,wr.frozen? ⟨g,b,none⟩=false):=by
 obtain⟨a,rfl,i,_,_⟩:=e;have c:ns.length<(ns++TN.nd h::R.map TN.nd).length:=by simp
 have d:=a.data ns.length c q f;rw[nD] at d;refine⟨d,?_,(a.row.lt g rfl).2,fun b=>a.thaw b⟩;rw[a.cell c (by omega),nD];have:q=0∨q=1∨q=2∨q=3:=by omega
 rcases this with rfl | rfl | rfl | rfl<;>rfl
theorem jO.below {c:World} (a:jO base w' wr on g m oc ns h R us) (b:Below wr.heap.size wr c):jO base w' c on g m oc ns h R us :=
 ⟨a.1.below b,a.2.1,a.2.2.1,a.2.2.2.1.trans (Fr.of_below b),Eo a.2.2.2.2 b.size⟩
theorem jO.app {q:Nat} {w2:World} {d:TN} (l:jO base w' wr on g m oc ns h R us) (e:q<4) {v':Value} {zs:List Value} (n:w2.ownsRow base (oP q) 1 v' zs.length zs) (o:wr.grownBy w2 (us on q).ownBlock) (p:v'.ownBlock=(us on q).ownBlock∨∀ a,v'.ownBlock=some a->wr.heap.size<=a)
  (s:(⟨(TN.nd h).leaf,(TN.nd h).page,fun r=>if r=q then zs else (TN.nd h).l r⟩:ND)=TN.nd d):∃ t,jO base w' (w2.setCell ⟨g,on*6+2+q,none⟩ v') on g m oc ns d R t:=by
 obtain⟨b,rfl,u,v,w⟩:=l;have f:ns.length<(ns++TN.nd h::R.map TN.nd).length:=by simp
 have x:=b.data ns.length f q e;obtain⟨i,y⟩:=b.app f e n o p;rw[nD,Af,s] at i;have z:=(b.row.lt g rfl).1;have j:Fr (fun k=>base<=k) wr (w2.setCell ⟨g,ns.length*6+2+q,none⟩ v'):=y.weak (fun a c=>by
  rcases c with rfl | c;·exact z
  ·exact (x.lt a c).1)
 exact⟨_,i,rfl,u,v.trans j,Eo w j.size⟩
theorem Bo (h:TN):((TN.nd h).l 0).length=h.keys.length:=by show (aa ae h.keys).length=_;rw[cH jb]
theorem Bp (h:TN):((TN.nd h).l 3).length=h.kids.length:=by show (aa ac h.kids).length=_;rw[cH lh]
theorem uV (t:T) (on:Nat):jN t on 0=⟨false,t.page,[],[],[],[]⟩:=by simp[jN,aX]
set_option maxHeartbeats 16000000 in
theorem uW {L:Nat} {a:Option Addr} {n c:Nat} {ay:Nat->Value} (h:eM w P t L a n c ay) (a4:t.leaf=false) (a5:t.whole=true) (a6:∀ f,P f->f<base) (a7:∀ d k,t.kids[d]?=some k->∃ B C,ay d=.iface B C∧tt base w k B C) (w':World) (a8:Below base w w') (a9:Option Addr) (on oc:Nat) (ns:List ND) (us:Nat->Nat->Value) (a':cj w' base (.slice a9 on oc) ns us) (ba:on=ns.length) (bB:on+t.nodes<=10000000) (bC:base<=w'.heap.size) :
  Calls prog 96 #[.pointer (some ⟨L,0,none⟩),.slice a9 on oc] w' fun b b8=>tr base t w' on ns b b8:=by
 have bD:=a6 L h.at'
 have bE:=(a8.block L bD).trans h.box
 obtain⟨bF,bG⟩:=au bE
 have b9:L<w'.heap.size:=by omega
 have aK:=hidI h.len.1
 have b':=Eo h.len.2.1 h.len.2.2
 unfold maxLen at b'
 have bb:Hid (∀ wr,Fr (fun k=>base<=k) w' wr->Below base w wr):=fun wr aA=>a8.trans (aA.below bC (fun g b=>b))
 have ca:Hid (∀ wr,Fr (fun k=>base<=k) w' wr->∀ d,d<n->∃ f,a=some ⟨f,0,none⟩∧f<wr.heap.size∧wr.cell? ⟨f,d,none⟩=some (ay d)):=fun wr aA d aL=>by
  obtain⟨f,b,cb,cc⟩:=h.row (by omega)
  have cd:=a6 f cb
  have aB:wr.cell? ⟨f,d,none⟩=some (ay d):=by
   rw[Ep (w:=w) (a:=⟨f,d,none⟩) ((bb.out wr aA).block f cd)]
   exact cc d aL
  exact⟨f,b,aO aB,aB⟩
 have ce:=hidI a7
 have cf:Hid (∀ wr,Fr (fun k=>base<=k) w' wr->∀ d k B C,t.kids[d]?=some k->ay d=.iface B C->xF wr B C "loop.example/s02098/impl.least" (.string k.low)):=fun wr aA d k B C aL aC=>by
  have bH:=Ew aL
  have bI:=gf.keep (fun f cg=>(bb.out wr aA).block f (a6 f cg)) (fun f h=>h) k _ (h.kid d k bH aL)
  rw[aC] at bI
  obtain⟨q1,q2⟩:=(T.whole_inner a5 a4).2 k bH
  exact gf.least k B C q2 q1 bI
 have bc:Hid (∀ q ∈ t.kids,∀ S,(q.flat S).length=q.nodes):=fun q J S=>T.flat_len q ((T.whole_inner a5 a4).2 q J).2 S
 have aM:Hid (Ci t on n=t.flat on∧1+mI t n=t.nodes):=by
  refine⟨by rw[h.len.1];exact Bj on a4,?_⟩
  rw[T.nodes_eq,mI,h.len.1,List.take_length]
 have bK:=hidI (BQ t)
 obtain⟨ch,ci,ck,cl,cm⟩:=info_parts gg
 obtain⟨cn,co,cp,cq,cr⟩:=info_parts du
 obtain⟨cs,ct,cu,cv,cw⟩:=info_parts gh
 have bL:=hidI ba
 have aD:=hidI a'
 have c3:on+1<=10000000:=by have:=BQ t 0;omega
 have aN:=hidI bB
 have bM:w'.ownsRow base 44 6 (.slice a9 on oc) on (az (fun d=>iI (ns.getD d dN) (us d)) ns.length):=by
  obtain⟨R,cx⟩:∃ R,R=az (fun d=>iI (ns.getD d dN) (us d)) ns.length:=⟨_,rfl⟩
  have D:=a'.row
  rw[<-cx] at D ⊢
  rwa [<-ba] at D
 clear h bE a8 a7 a5 a' ba bB
 obtain⟨U,bd⟩:∃ U,U=t.page:=⟨_,rfl⟩
 have bN:=hidI bd
 rw[<-bd] at bF
 clear bd
 have bO:=fv w' (.bool false) (.int .i64 U) (.slice none 0 0) (.slice none 0 0) (.slice none 0 0) (.slice none 0 0) 44
 have E:Below w'.heap.size w' (w'.alloc (.cells #[.bool false,.int .i64 U,.slice none 0 0,.slice none 0 0,.slice none 0 0,.slice none 0 0] 44)):=Zb _ _
 have c4:=hidI bD
 go_enter func96,ntmps96
 go_upto_region 3 with (at_builtin;refine ak _ rfl _ _ 23 rfl base 44 cs _ 6 112 underlying23 ct cu cv cw rfl (by decide) _ _ _ rfl (bM.alloc _) ⟨w'.heap.size,0,none⟩ 1 1 [.bool false,.int .i64 U,.slice none 0 0,.slice none 0 0,.slice none 0 0,.slice none 0 0] rfl rfl bO (by simp[Value.oneCell']) (by unfold maxLen;omega) (by omega) (by simp;omega) ?_;intro cy be bf ah cz;obtain⟨bg,bh,rfl⟩:=fD bf)
 have bP:Hid (∃ l,jO base w' be on bg (on+1) bh ns (jN t on 0) [] l):=by
  have cA:=cj.push (nd:=TN.nd (jN t on 0)) (u:=fun _=>.slice none 0 0) (M:=w'.heap.size) (v':=.slice (some ⟨bg,0,none⟩) (on+1) bh) aD.out (fun g bi=>(aD.out.blk bi).2) bC (Fr.of_below E) (fun F c5=>by
   rw[uV]
   have:F=0∨F=1∨F=2∨F=3:=by omega
   rcases this with rfl | rfl | rfl | rfl<;>exact World.ownsRow_nil _ _ _ _) (fun F S _ _ _ g bi=>by simp[Value.ownBlock] at bi) (by
   rw[uV,show iI (TN.nd ⟨false,t.page,[],[],[],[]⟩) (fun _=>.slice none 0 0)=[.bool false,.int .i64 U,.slice none 0 0,.slice none 0 0,.slice none 0 0,.slice none 0 0] by rw[bN.out];rfl,show ns.length+1=on+1 by have:=bL.out;omega]
   exact bf) ah
  refine⟨_,cA,bL.out,by simp,(Fr.of_below E).trans (Fr.of_grown ah (fun q b=>(aD.out.row.lt q b).1)),?_⟩
  have:=E.size;have:=ah.size;omega
 have cB:be.cell? ⟨L,1,none⟩=some (.slice a n c):=by
  have V:=E.cell (p:=⟨L,1,none⟩) b9
  rw[Ep (w:=w'.alloc (.cells #[.bool false,.int .i64 U,.slice none 0 0,.slice none 0 0,.slice none 0 0,.slice none 0 0] 44)) (a:=⟨L,1,none⟩) (ah.block L (by simp;omega) (fun b=>by have:=(aD.out.row.lt L b.symm).1;omega)),V]
  exact bG
 have cC:L<be.heap.size:=by have:=E.size;have:=ah.size;omega
 clear bf ah cz bO bM E bF bG aD bN
 go_wp2_with fail
 go_loopw [1,6,7,24] (fun bj _ _ d wr=>∃ (k g m b:Nat),k<=n∧d=.int .i64 k∧bj=.slice (some ⟨g,0,none⟩) m b∧Hid (∃ l,jO base w' wr on g m b ns (jN t on k) (bJ (on+1) ((t.kids.take k).map T.flat)) l)) (fun _ _ _ d _=>n - (intOf d).toNat)
 case atStart=>exact⟨0,bg,on+1,bh,En _,rfl,rfl,bP⟩
 case round =>
  clear bP cB cC
  obtain⟨k,g,m,b,a7,rfl,rfl,bQ⟩:=hrel
  obtain⟨aP,bk⟩:=bQ.out
  clear bQ
  have K:=hidI bk
  have bl:Hid ((bJ (on+1) ((t.kids.take k).map T.flat)).length=mI t k):=j7 _ _ (fun q J=>bc.out q (EI J))
  have bR:m=on+1+mI t k:=by rw[bk.2.2.1,bl.out]
  have W:=hidI bR
  have c6:m<=10000000:=by have:=bK.out k;have:=aN.out;omega
  have c7:on<m:=by omega
  clear bk bR
  by_cases cD:k<n
  ·obtain⟨q,J⟩:∃ q,t.kids[k]?=some q:=⟨_,Eh (by have:=aK.out;omega)⟩
   have aQ:=hidI J
   obtain⟨f,rfl,cE,aB⟩:=ca.out wr K.out.2.2.2.1 k cD
   obtain⟨B,C,aC,bm⟩:=ce.out k q J
   rw[aC] at aB
   have cF:=hidI aC
   replace bm:Hid (tt base w q B C):=bm
   clear J aC
   go_upto_region 6 with fail
   clear aB cE
   go_upto_if 30 with fail
   go_cut [1,6,7] (fun bj d cG cI=>bj=.slice (some ⟨g,0,none⟩) m b∧d=.int .i64 k∧cG=.iface B C∧∃ l,Hid (jO base w' cI on g m b ns ⟨false,t.page,(jN t on k).keys++(if 0<k then [q.low] else []),[],[],(jN t on k).kids⟩ (bJ (on+1) ((t.kids.take k).map T.flat)) l))
   case first =>
    by_cases aR:0<k
    ·have cJ:decide ((0:Int)<(k:Int))=true:=by simp;omega
     obtain⟨i,G,X,aS⟩:=K.out.list 0 (by omega)
     rw[Bo] at i
     obtain⟨aE,aF,Y⟩:=eB i
     rw[Y] at i G
     obtain⟨A,aG⟩:∃ A,A=(jN t on k).keys.length:=⟨_,rfl⟩
     rw[<-aG] at i G
     have c8:A<=100000000:=by
      rw[aG]
      have:(jN t on k).keys.length<=k:=by
       unfold jN;simp only[EZ,List.length_tail,Eu];omega
      have o:k<=mI t n:=by
       have bn:∀ (s:List T),s.length<=(s.map T.nodes).sum:=by
        intro s
        induction s with
        | nil=>simp
        | cons aT F bo=>simp only[Ex,Ff,EU];rw[T.nodes_eq];omega
       have cK:=bn (t.kids.take n)
       unfold mI
       have cL:(t.kids.take n).length=n:=by rw[Eu];have:=aK.out;omega
       omega
      have:=aM.out.2;have:=aN.out
      omega
     have cM:=hidI aG
     have ai:Hid (aP on 0=.slice aE A aF):=by rw[aG];exact Y
     replace i:wr.ownsRow base 9 1 (.slice aE A aF) A (aa ae (jN t on k).keys):=i
     clear aG Y
     obtain⟨cN,bS,F,aU,bp,aj⟩:=cf.out wr.drew (K.out.2.2.2.1.trans (Fr.of_below (Ev _ _).drew)) k q B C aQ.out cF.out
     obtain⟨low,bq⟩:∃ low,low=q.low:=⟨_,rfl⟩
     rw[<-bq] at aj
     have cO:=hidI bq
     clear bq
     go_wp2_with fail
     obtain⟨al,aV⟩:∃ al,al=wr.drew:=⟨_,rfl⟩
     have cP:=hidI aV
     have aW:Below wr.heap.size wr al:=by rw[aV];exact (Ev _ _).drew
     have bT:=K.out.below aW
     have bU:=an i aW
     have bV:=(aW.cell (p:=⟨g,on*6+2,none⟩) X).trans G
     have aY:=Er X aW.size
     have bW:Calls prog bS #[F] al fun b w'=>b=.returned (.string low)∧Below al.heap.size al w':=by
      rw[aV]
      refine aj.mono ?_
      rintro b bX ⟨rfl,rfl⟩
      exact⟨rfl,Ev _ _⟩
     clear aj G X aS i aV
     refine Zg (fun _:World=>True) (trivial) (fun N=>?_)
     rw[<-cP.out]
     refine Zx .a0 ?_
     refine Zx .a1 ?_
     refine Zx .a2 ?_
     refine Zx .a3 ?_
     try simp only[Zq]
     refine Zw (.pointer (some ⟨g,on*6,none⟩)) .a4 ?_ ?_
     ·intro cQ cR;go_simp;(try (intro cS;exfalso;omega))
     refine Zx .a5 ?_
     refine Zx .a7 ?_
     try simp only[Zq]
     refine Zr [6,8] ?_
     refine rdA .a6 (fun j e=>?_) ?_
     rotate_left 1
     refine rdA .a8 (fun j e=>?_) ?_
     rotate_left 1
     exact Ei
     focus
       go_simp
       refine e.out _ _ (trivial) (fun N=>?_)
       clear e j
       try simp only[Zq]
       refine Zr [8] ?_
       refine rdA .a8 (fun j e=>?_) Ei
       go_simp
       refine bW.mono ?_
       rintro b y ⟨rfl,O⟩
       have aZ:=bT.below O
       have a0:=an bU O
       have a1:=(O.cell (p:=⟨g,on*6+2,none⟩) aY).trans bV
       have Z:=Er aY O.size
       go_wp2_with fail
       refine e.out _ _ (trivial) (fun N=>?_)
       clear e j
       try simp only[Zq]
       refine Zr [9] ?_
       refine rdA .a9 (fun j e=>?_) Ei
       go_simp
       have v:Below y.heap.size y (y.alloc (.cells #[.string low] 9)):=Zb _ _
       have H:=aZ.below v
       have a2:=an a0 v
       have am:=(v.cell (p:=⟨g,on*6+2,none⟩) Z).trans a1
       have I:=Er Z v.size
     rotate_left
     focus
       go_simp
       refine bW.mono ?_
       rintro b y ⟨rfl,O⟩
       have aZ:=bT.below O
       have a0:=an bU O
       have a1:=(O.cell (p:=⟨g,on*6+2,none⟩) aY).trans bV
       have Z:=Er aY O.size
       go_wp2_with fail
       refine e.out _ _ (trivial) (fun N=>?_)
       clear e j
       try simp only[Zq]
       refine Zr [6,9] ?_
       refine rdA .a6 (fun j e=>?_) ?_
       rotate_left 1
       refine rdA .a9 (fun j e=>?_) ?_
       rotate_left 1
       exact Ei
     focus
       go_simp
       refine e.out _ _ (trivial) (fun N=>?_)
       clear e j
       try simp only[Zq]
       refine Zr [9] ?_
       refine rdA .a9 (fun j e=>?_) Ei
       go_simp
       have v:Below y.heap.size y (y.alloc (.cells #[.string low] 9)):=Zb _ _
       have H:=aZ.below v
       have a2:=an a0 v
       have am:=(v.cell (p:=⟨g,on*6+2,none⟩) Z).trans a1
       have I:=Er Z v.size
     rotate_left
     focus
       go_simp
       have v:Below y.heap.size y (y.alloc (.cells #[.string low] 9)):=Zb _ _
       have H:=aZ.below v
       have a2:=an a0 v
       have am:=(v.cell (p:=⟨g,on*6+2,none⟩) Z).trans a1
       have I:=Er Z v.size
       refine e.out _ _ (trivial) (fun N=>?_)
       clear e j
       try simp only[Zq]
       refine Zr [6] ?_
       refine rdA .a6 (fun j e=>?_) Ei
       go_simp
     rotate_left
     all_goals
       refine e.out _ _ (trivial) (fun N=>?_)
       clear e j
       try simp only[Zq]
       refine Zr [10] ?_
       refine rdA (.t .a0) (fun j e=>?_) Ei
       refine qM rfl _ _ 42 rfl base 9 ch _ 1 16 underlying42 ci ck cl cm rfl (by decide) (.slice aE A aF) A (aa ae (jN t on k).keys) (by simp[Act.eval]) a2 ⟨y.heap.size,0,none⟩ 1 1 [.string low] (by simp[Act.eval]) rfl (cell_one_new _ _ _) (by simp[Value.oneCell']) (by unfold maxLen;omega) (by omega) H.2.2.2.2 ?_
       intro c9 x ab ad aH
       obtain⟨ao,ap,rfl⟩:=fD ab
       have aq:∃ l,jO base w' (x.setCell ⟨g,on*6+2+0,none⟩ (.slice (some ⟨ao,0,none⟩) (A+1) ap)) on g m b ns ⟨false,t.page,(jN t on k).keys++[low],[],[],(jN t on k).kids⟩ (bJ (on+1) ((t.kids.take k).map T.flat)) l :=
        H.app (q:=0) (zs:=aa ae (jN t on k).keys++[.string low]) (by omega) (by rw[El,cH jb,<-cM.out];exact ab) (by rw[ai.out];exact ad) (by rw[ai.out];exact aH) (Bl _ _ _ _ _ _ _)
       have Q:Fr (fun f=>(Value.slice aE A aF).ownBlock=some f) (y.alloc (.cells #[.string low] 9)) x:=Fr.of_grown ad (fun f b=>b)
       have af:¬ (Value.slice aE A aF).ownBlock=some g:=fun b=>gL H.1.row (r:=0) a2 g b rfl
       have br:=(Ep (w:=y.alloc (.cells #[.string low] 9)) (a:=⟨g,on*6+2,none⟩) (Q.block g I af)).trans am
       have bs:x.frozen? ⟨g,on*6+2,none⟩=false:=by
        have D:=H.1.thaw (on*6+2)
        unfold World.frozen? at D ⊢
        rw[show x.heap[g]?=_ from Q.block g I af]
        exact D
       have bt:=Er I Q.size
       rw[cO.out] at aq
       have ar:Hid (∃ l,jO base w' (x.setCell ⟨g,on*6+2,none⟩ (.slice (some ⟨ao,0,none⟩) (A+1) ap)) on g m b ns ⟨false,t.page,(jN t on k).keys++(if 0<k then [q.low] else []),[],[],(jN t on k).kids⟩ (bJ (on+1) ((t.kids.take k).map T.flat)) l):=by rw[if_pos aR];exact aq
       clear aq
       refine e.out _ _ (trivial) (fun N=>?_)
       clear e j
       refine Zw (.pointer (some ⟨g,on*6,none⟩)) (.t .a1) ?_ ?_
       ·intro cQ cR;go_simp;(try (intro cS;exfalso;omega))
       refine Zx (.t .a2) ?_
       try simp only[Zq]
       refine Zr [13] ?_
       refine rdA (.t .a3) (fun j e=>?_) Ei
       go_simp
       refine e.out _ _ (trivial) (fun N=>?_)
       clear e j
       try simp only[Zq]
       refine Zd ?_
       obtain⟨bu,cT⟩:=ar.out
       clear ar ab ad aH Q af br bs bt N
       go_wp2_with fail
       go_meet
       exact⟨rfl,rfl,rfl,bu,cT⟩
    ·have cJ:decide ((0:Int)<(k:Int))=false:=by simp;omega
     have bv:Hid (jO base w' wr on g m b ns ⟨false,t.page,(jN t on k).keys++(if 0<k then [q.low] else []),[],[],(jN t on k).kids⟩ (bJ (on+1) ((t.kids.take k).map T.flat)) aP):=by
      rw[if_neg aR,EN];exact K.out
     go_wp2_with fail
     go_meet
     exact⟨rfl,rfl,rfl,aP,bv⟩
   case rest =>
    obtain⟨rfl,rfl,rfl,bu,aI⟩:=hcut
    clear K
    obtain⟨o,bw⟩:∃ o:TN,o=⟨false,t.page,(jN t on k).keys++(if 0<k then [q.low] else []),[],[],(jN t on k).kids⟩:=⟨_,rfl⟩
    rw[<-bw] at aI
    have bx:Hid ((⟨o.leaf,o.page,o.keys,o.vals,o.over,o.kids++[((m:Nat):Int)]⟩:TN)=jN t on (k+1)):=by
     show _=_
     rw[Ad on aQ.out,bw,W.out]
    clear bw
    obtain⟨i,G,X,aS⟩:=aI.out.list 3 (by omega)
    rw[Bp] at i
    obtain⟨av,aw,Y⟩:=eB i
    rw[Y] at i G
    obtain⟨z,aJ⟩:∃ z,z=o.kids.length:=⟨_,rfl⟩
    have bY:=hidI aJ
    rw[<-aJ] at i G
    have ai:Hid (bu on 3=.slice av z aw):=by rw[aJ];exact Y
    have c':z<=100000000:=by
     have D:=congrArg (fun aT:TN=>aT.kids.length) bx.out
     simp only[El,List.length_singleton] at D
     rw[<-aJ] at D
     have da:(jN t on (k+1)).kids.length=k+1:=by
      unfold jN
      have cU:∀ (s:List Nat) (S:Nat),(aX S s).length=s.length:=by
       intro s
       induction s with
       | nil=>intro S;rfl
       | cons aT F bo=>intro S;simp only[aX,EU,bo]
      simp only[cU,EZ,Eu]
      have:=aK.out;omega
     have db:k+1<=mI t n:=by
      have bn:∀ (s:List T),s.length<=(s.map T.nodes).sum:=by
       intro s
       induction s with
       | nil=>simp
       | cons aT F bo=>simp only[Ex,Ff,EU];rw[T.nodes_eq];omega
      have cK:=bn (t.kids.take n)
      unfold mI
      have cL:(t.kids.take n).length=n:=by rw[Eu];have:=aK.out;omega
      omega
     have:=aM.out.2;have:=aN.out
     omega
    replace i:wc.ownsRow base 2 1 (.slice av z aw) z (aa ac o.kids):=i
    replace G:wc.cell? ⟨g,on*6+5,none⟩=some (.slice av z aw):=G
    clear aJ Y
    have E:Below wc.heap.size wc (wc.alloc (.cells #[.int .i64 (m:Int)] 2)):=Zb _ _
    have H:=aI.out.below E
    have bZ:=cell_one_new wc (.int .i64 (m:Int)) 2
    have af:¬ (Value.slice av z aw).ownBlock=some g:=fun b=>gL aI.out.1.row (r:=3) i g b rfl
    have am:=(E.cell (p:=⟨g,on*6+5,none⟩) X).trans G
    have b0:=H.1.thaw (on*6+5)
    have I:=Er X E.size
    have cV:=aS (on*6+5)
    go_upto_region 9 with (at_builtin;refine ak _ rfl _ _ 29 rfl base 2 cn _ 1 8 underlying29 co cp cq cr rfl (by decide) _ _ _ rfl (i.alloc _) ⟨wc.heap.size,0,none⟩ 1 1 [.int .i64 (m:Int)] rfl rfl bZ (by simp[Value.oneCell']) (by unfold maxLen;omega) (by omega) H.2.2.2.2 ?_;intro cy x ab ad aH;obtain⟨ao,ap,rfl⟩:=fD ab;have Q:Fr (fun f=>(Value.slice av z aw).ownBlock=some f) (wc.alloc (.cells #[.int .i64 (m:Int)] 2)) x:=Fr.of_grown ad (fun f b=>b);have br:x.cell? ⟨g,on*6+5,none⟩=some (.slice av z aw):=(Ep (w:=wc.alloc (.cells #[.int .i64 (m:Int)] 2)) (a:=⟨g,on*6+5,none⟩) (Q.block g I af)).trans am;have bs:x.frozen? ⟨g,on*6+5,none⟩=false:=(by have D:=b0;unfold World.frozen? at D ⊢;rw[show x.heap[g]?=_ from Q.block g I af];exact D);have bt:g<x.heap.size:=Er I Q.size)
    have aq:∃ l,jO base w' (x.setCell ⟨g,on*6+2+3,none⟩ (.slice (some ⟨ao,0,none⟩) (z+1) ap)) on g m b ns (jN t on (k+1)) (bJ (on+1) ((t.kids.take k).map T.flat)) l:=by
     rw[<-bx.out]
     exact H.app (q:=3) (zs:=aa ac o.kids++[.int .i64 (m:Int)]) (by omega) (by rw[El,cH lh,<-bY.out];exact ab) (by rw[ai.out];exact ad) (by rw[ai.out];exact aH) (Bm _ _ _ _ _ _ _)
    have ar:Hid (∃ l,jO base w' (x.setCell ⟨g,on*6+5,none⟩ (.slice (some ⟨ao,0,none⟩) (z+1) ap)) on g m b ns (jN t on (k+1)) (bJ (on+1) ((t.kids.take k).map T.flat)) l):=aq
    clear aq ab ad aH Q br bs bt af am b0 I bZ H E G X aS cV i aI ai bY bx
    generalize x.setCell ⟨g,on*6+5,none⟩ (.slice (some ⟨ao,0,none⟩) (z+1) ap)=b1 at ar ⊢
    obtain⟨cW,ag⟩:=ar.out
    clear ar
    obtain⟨cN,bS,F,aU,bp,aj⟩:=bm.out
    have b2:=Bk aQ.out
    have cX:m+q.nodes<=10000000:=by have:=bK.out (k+1);have:=aN.out;have:=W.out;omega
    have b3:m=(ns++TN.nd (jN t on (k+1))::(bJ (on+1) ((t.kids.take k).map T.flat)).map TN.nd).length:=by
     rw[ag.2.2.1,ag.2.1];simp;omega
    have b4:=aj b1 (bb.out b1 ag.2.2.2.1) (some ⟨g,0,none⟩) m b _ cW ag.1 b3 cX ag.2.2.2.2
    have a3:=hidI ag
    have dc:=bp (.slice (some ⟨g,0,none⟩) m b)
    have cY:=hidI b2
    clear aj b3 ag bp b2
    go_wp2_with fail
    refine b4.mono ?_
    rintro dd bX ⟨cZ,b5,c0,rfl,bz,bA⟩
    have de:0<q.nodes:=by rw[T.nodes_eq];omega
    obtain⟨ax,rfl⟩:∃ ax,cZ=some ⟨ax,0,none⟩:=by
     rcases bz.row.2 with ⟨_,V⟩ | ⟨ax,df,dg,aR,_⟩
     ·simp at V
     ·injection aR with V;exact⟨ax,V⟩
    have c1:Hid (∃ l,jO base w' bX on ax (m+q.nodes) b5 ns (jN t on (k+1)) (bJ (on+1) ((t.kids.take (k+1)).map T.flat)) l):=by
     have b6:=Ae on aQ.out bc.out
     unfold Ci at b6
     have c2:bJ (on+1) ((t.kids.take (k+1)).map T.flat)=bJ (on+1) ((t.kids.take k).map T.flat)++q.flat m:=by
      rw[W.out]
      have:=(List.cons.inj b6).2
      exact this
     refine⟨c0,?_,a3.out.2.1,?_,a3.out.2.2.2.1.trans bA,Eo a3.out.2.2.2.2 bA.size⟩
     ·rw[c2,E5,<-Fj,<-EA]
      exact bz
     ·rw[j7 _ _ (fun q J=>bc.out q (EI J))]
      have V:=cY.out;have o:=W.out
      unfold mI at V o
      omega
    clear b4 bz bA a3 W bl
    go_wp2_with fail
    go_roundw
    case rel=>exact⟨k+1,ax,m+q.nodes,b5,by omega,by go_num,rfl,c1⟩
    case measure=>simp[intOf];omega
  ·obtain rfl:k=n:=by omega
   have bv:Hid (tr base t w' on ns (.returned (.slice (some ⟨g,0,none⟩) m b)) wr):=by
    have aU:m=on+t.nodes:=by have:=W.out;have:=aM.out.2;omega
    have b7:=aM.out.1
    unfold Ci at b7
    refine⟨some ⟨g,0,none⟩,b,aP,by rw[aU],?_,K.out.2.2.2.1⟩
    rw[<-b7,<-aU]
    exact K.out.1
   clear K W bl
   go_wp2_with fail
   go_ret
   exact bv.out
theorem gf.tell (s:∀ b,P b->b<base):∀ (t:T) (e:TypeId) (f:Value),t.whole=true->gf w P t (.iface e f)->tt base w t e f:=by
 intro t
 induction t using T.ind with
 |h t B=>
  intro e f g h;cases c:t.leaf;·obtain⟨i,C,D,E,us,d,a⟩:=h.inner c;cases d;refine⟨fun w=>by kernel_rfl,96,.pointer (some ⟨i,0,none⟩),fun w=>by kernel_rfl,fun F w=>by kernel_rfl,?_⟩;intro w' j l on oc ns m n o u p;refine uW a c g s (fun G k v=>?_) w' j l on oc ns m n o u p;have q:=Ew v;have r:=a.kid G k q v;obtain⟨x,y,z⟩:=r.shape;rw[z] at r;exact⟨x,y,z,B k q x y ((T.whole_inner g c).2 k q).2 r⟩
  ·obtain⟨i,C,D,E,d,a⟩:=h.leaf c;cases d;obtain⟨H,I,J,K⟩:=T.whole_leaf g c;have A:t.nodes=1:=(by rw[T.nodes_eq,K];rfl);refine⟨fun w=>by kernel_rfl,116,.pointer (some ⟨i,0,none⟩),fun w=>by kernel_rfl,fun F w=>by kernel_rfl,?_⟩;intro w' j l on oc ns m n o u p;refine (wN a (by rw[H,a.len]) (by rw[I,a.len]) (by rw[a.len];exact J) s w' j l on oc ns m n o (by omega) p).mono ?_;rintro d R ⟨L,M,N,rfl,O,Q⟩;refine⟨L,M,N,by rw[A],?_,Q⟩;rw[A,T.flat_eq,if_pos c];exact O
end Go.Proofs.YtggmghkcdfjdoaaGreat
