import Derived.Test.YtggmghkcdfjdoaaGreatHTks
import Derived.Test.YtggmghkcdfjdoaaGreatHTlh
import Derived.Test.YtggmghkcdfjdoaaGreatHTvr
import Derived.Test.YtggmghkcdfjdoaaGreatHTvc
import Derived.Test.YtggmghkcdfjdoaaGreatHTpx
import Derived.Test.YtggmghkcdfjdoaaGreatHTxl
import Derived.Test.YtggmghkcdfjdoaaGreatHTxg
namespace Go.Proofs.YtggmghkcdfjdoaaGreat
set_option maxHeartbeats 8000000
open Go.RowKit Tryz
set_option linter.unusedVariables false
set_option linter.unusedSimpArgs false
set_option maxRecDepth 100000
variable {key:ByteArray} {t:T} {ts:List TN}
theorem gz {zs:List (ByteArray × ByteArray × Int)}:(ch key zs).isSome=true ↔ jV key zs:=by
 unfold ch jV;rw[List.find?_isSome];constructor;·rintro ⟨a,b,c⟩;exact⟨a,b,by simpa using c⟩
 ·rintro ⟨a,b,c⟩;exact⟨a,b,by simpa using c⟩
theorem pX {k:T} {m:Nat} (a:t.leaf=false) (b:∃ r,t.good r=true) (c:bl t.slots) (d:ew t key m) (e:t.kids[m]?=some k):jV key t.slots ↔ jV key k.slots:=by
 rw[<-gz,<-gz,(fh a b c d e).1]
def BZ (key:ByteArray) (k:T):Prop:=∀ (w:World) (P:Nat->Prop) (ty:TypeId) (v:Value),GM w P k (.iface ty v)->(∀ b,P b->b<w.heap.size)->(∀ w,(nilAhead 290 ty v "loop.example/s02098/impl.del").run prog w=.ok (some false) w)∧∃ f r,(∀ w,(method 290 ty v "loop.example/s02098/impl.del").run prog w=.ok (f,r) w)∧(∀ x w,(callFunc f #[r,x]).run prog w=.ok (.enter f #[r,x]) w)∧Calls prog f #[r,.string key] w fun e w'=>mh w P key k (.iface ty v) e w'
theorem tL {w:World} {P:Nat->Prop} {L:Nat} {a:Option Addr} {n c:Nat} {ul:List Value} {Q:Nat->Nat->Prop} (h:gC w P t L a n c ul Q) (m:t.leaf=false) {r:Bool} (o:t.good r=true) (D:bv t) (H:0<=t.ht) (E:bl t.slots) (be:t.nodes<=100000) (ad:∀ O,P O->O<w.heap.size) (key:ByteArray) (aA:∀ b ∈ t.kids,(∃ y,ew t key y∧t.kids[y]?=some b)->BZ key b) :
  Calls prog 88 #[.pointer (some ⟨L,0,none⟩),.string key] w fun d bf=>mh w P key t (.iface 77 (.pointer (some ⟨L,0,none⟩))) d bf:=by
 obtain⟨aB,bg⟩:=Zn w.heap.size;have bI:L<aB:=by have:=ad L h.at';omega
 have F:=(aC t).1 D;have bh:=dg o m;have aD:=h.len;have bi:2<=n∧n<=4:=by omega
 have ae:=eI m (F.2.1 m).2.2.2 H;have aE:∀ b ∈ t.kids,b.nodes<=100000∧b.good false=true∧0<=b.ht:=fun b j=>⟨by have:=el j;omega,aY o j,(ae b j).2⟩;have aG:=lJ h.see (by omega) (by omega) (fun y b aH=>by have p:=Ew aH;have z:=h.kid y b p aH;obtain⟨R,S,d⟩:=z.shape;rw[d] at z;obtain⟨bj,aI,bk⟩:=aE b p;have aJ:0<b.size:=(by have:=(aF aI).1;simp at this;omega);exact⟨R,S,d,(gf.obj b R S bj ⟨false,aI⟩ bk (GM.see _ _ _ z)).least aJ⟩) key;have A:=hidI h;have aK:=hidI aA;have aL:Hid (t.leaf=false∧t.good r=true∧bv t∧0<=t.ht∧bl t.slots):=⟨m,o,D,H,E⟩;have ag:=yf h;have bJ:=ag.1;have bm:=ag.2;unfold maxLen at bm;have T:=hidI ae;clear aA m o D H E be aE ag h F bh ae;go_enter func88,ntmps88;go_wp2_with fail
 refine aG.mono ?_;rintro d q ⟨e,rfl,v,rfl⟩;obtain⟨m,o,D,H,E⟩:=aL.out;have aM:e<n:=by have:=v.1;omega
 have ah:=hidI (wH v);obtain⟨b,j⟩:∃ b,t.kids[e]?=some b:=⟨_,Eh v.1⟩;have p:=Ew j;obtain⟨O,R,S,rfl,ai,aj⟩:=gW A.out aM;have z:=A.out.kid e b p j;rw[ai] at z;obtain⟨aN,bK,bL,aP,aQ,ak⟩:=aK.out b p ⟨e,v,j⟩ q (Q e) R S z (fun i B=>ad i (A.out.sub e i B).1);have aR:=aQ (.string key);obtain⟨bM,bn⟩:=Zn t.page;have aS:=A.out.box;rw[bn] at aS;obtain⟨I,J⟩:=au aS;have bN:L<q.heap.size:=by omega
 have bO:=aO aj;have al:=hidI (pX m ⟨r,o⟩ E v j);have am:=aY o p;have F:=(aC t).1 D;have aT:Hid (jV key b.slots->BX key b (bQ key b)):=fun B=>nK key b false am (F.2.2 b p) (T.out b p).2 (fh m ⟨r,o⟩ E v j).2 B;have bo:Hid (bQ key t=⟨false,0,[],[],[],ia e t.kids (bQ key b)⟩):=by show _=_;have:=ic (key:=key) m (k:=b) (by rw[ah.out];exact j);rw[ah.out] at this;exact this
 have aU:=hidI ai;have aJ:2<=b.size:=by have:=(aF am).1;simp at this;omega
 have bp:Hid (∀ (K:Nat) g f,K≠e->(t.kids.set e f)[K]?=some g->ng g (t.ht - 1)):=fun K g f an l=>by rw[Fl (Ne.symm an)] at l;have ao:=Ew l;exact⟨aY o ao,F.2.2 g ao,(T.out g ao).1⟩
 have aV:Hid (b.ht=t.ht - 1∧0<=t.ht - 1):=by have:=T.out b p;exact⟨this.1,by omega⟩
 have bq:Hid (n=t.kids.length∧e<t.kids.length):=⟨aD,v.1⟩;clear aG v j p z aQ aK ah aL ai aD m o D H E am F T;go_wp2_with fail
 refine ak.mono ?_;rintro d s br;rcases br with ⟨rfl,G,⟨bs,ap,aW⟩,U⟩ | ⟨rfl,G,aX⟩
 ·have u:=aT.out G;obtain⟨f,aq⟩:=Zn (bQ key b);have bP:=U.size;have C:=A.out.swap ad aM U (by rw[aU.out];exact ap) aW;rw[aq] at u ap C;have bt:∀ i,fJ q s P i->i<s.heap.size:=fun i B=>B.2;have aZ:=C.box;have a0:Fr (fun g=>P g∨aB<=g) q s:=U.weak (fun a1 d=>.inl (A.out.sub e a1 d).1);have bu:=hidI C;have a2:=gu aZ;have bw:=hidI aq;have a3:=hidI u;have bx:=hidI (al.out.2 G);clear ak I J aj aN aP aR C aq u G al aT;go_wp2_with fail
  refine a2.mono ?_;rintro d V ⟨rfl,ar⟩;have a4:=bu.out.set0 bt (Ev _ s) ar;have W:=af s L 0 (.int .i64 0);rw[<-ar] at W;have bR:=W.size;have bz:=a0.trans (W.weak (fun a1 d=>by rw[d];exact .inl A.out.at'));have X:Hid (gC V (fJ q s P) { t with page:=0,kids:=t.kids.set e f } L (some ⟨O,0,none⟩) n c ul (fun y i=>if y=e then bs i else Q y i)):=a4;have a5:∀ i,fJ q s P i->i<V.heap.size:=fun i B=>(by have:=B.2;omega);have Y:(t.kids.set e f)[e]?=some f:=(by simp[bq.out.2]);obtain⟨bS,bT,bU,bA,a6,av,a7,bV,bW,a8,a9,Z⟩:=pW X.out (x:=f) Y;cases bA;rw[aU.out] at a6;cases a6;obtain⟨M,a'⟩:=Zn f.size;have aa:=hidI a';rw[a'] at Z;have bX:M<=4∧1<=M:=(by have:=a3.out.soft.size;omega);have aw:=X.out.box;obtain⟨I,J⟩:=au aw;have bY:L<V.heap.size:=(by omega);have bZ:=aO av;have ax:Hid (∀ d ab ac,jq V (fJ q s P) { t with page:=0,kids:=t.kids.set e f } L ac d ab->ac=ia e t.kids f->mh q P key t (.iface 77 (.pointer (some ⟨L,0,none⟩))) (.returned (.bool true)) ab):=by
   rintro d ab ac ⟨_,⟨bB,b0,b1,b2,b3,b4,bC,bD⟩,bE⟩ bF;refine .inl ⟨rfl,bx.out,⟨bB,?_,fun g l=>?_⟩,eV ?_⟩;·rw[bo.out,bw.out];refine gC.is (t:=⟨false,0,[],[],[],_⟩) (bC.re rfl ?_) rfl;show _=ac;rw[bF]
   ·have ba:=bD g l;refine⟨?_,ba.2⟩;rcases ba.1 with d | d;·exact d.1
    ·exact .inr (by omega)
   ·rw[bg];refine bz.trans (bE.weak (fun g l=>?_));rcases l.1 with d | d;·exact .inl d
    ·exact .inr (by omega)
  clear a2 ar W a0 a4 U aW ap aZ;go_wp2_with fail
  refine Z.mono ?_;rintro d ab ⟨rfl,rfl⟩;by_cases C:M<2
  ·have bG:(M:Int)<2:=(by omega);have bb:wj f (t.ht - 1):=(by have u:=a3.out;have bc:0<f.size:=(by rw[aa.out];omega);have b5:f.size=1:=(by rw[aa.out];omega);exact⟨⟨u.soft.page,by omega,u.soft.leaf,u.soft.kids⟩,u.neat bc,by rw[u.ht bc];exact aV.out.1⟩);have bd:=AD X.out a5 bi aV.out.2 Y bb (fun K g an l=>bp.out K g f an l);have ay:Hid (dW (t.kids.set e f) e=ia e t.kids f):=(by show _=_;unfold ia;rw[if_pos (by rw[aa.out];exact C)]);clear Z a7 a8 a9 bb Y av I J aw;go_wp2_with fail
   refine bd.mono ?_;rintro d b6 az;have bH:=az.1;subst bH;have N:=hidI (ax.out _ _ _ az ay.out);clear bd az;go_wp2_with fail
   go_ret;exact N.out
  ·have bG:¬ ((M:Int)<2):=(by omega);have ay:Hid (t.kids.set e f=ia e t.kids f):=(by show _=_;unfold ia;rw[if_neg (by rw[aa.out];exact C)]);have N:=hidI (ax.out _ _ _ ⟨rfl,⟨_,_,_,_,_,_,X.out,fun g l=>⟨.inl l,a5 g l⟩⟩,Fr.refl _ _⟩ ay.out);clear Z a7 a8 a9 Y av I J aw ax;go_wp2_with fail
   go_ret;exact N.out
 ·have N:Hid (mh q P key t (.iface 77 (.pointer (some ⟨L,0,none⟩))) (.returned (.bool false)) s):=.inr ⟨rfl,fun d=>G (al.out.1 d),aX⟩;clear ak I J aj aN aP aR G aX;go_wp2_with fail
  go_ret;exact N.out
theorem zh (key:ByteArray):∀ (t:T) (i:Bool),t.nodes<=100000->t.good i=true->0<=t.ht->bv t->bl t.slots->BZ key t:=by
 intro t
 induction t using T.ind with
 |h t r=>
  intro i s j m n d b C D E o p;have e:=(aC t).1 n;obtain⟨F,G,u⟩:=aF j;cases a:t.leaf;·obtain⟨k,v,q,w,H,I,l,f⟩:=o.inner a;cases l;have x:=eI a (e.2.1 a).2.2.2 m;refine⟨fun b=>by kernel_rfl,88,.pointer (some ⟨k,0,none⟩),fun b=>by kernel_rfl,fun y b=>by kernel_rfl,?_⟩;exact tL f a j n m d s p key (fun g c ⟨J,z,A⟩=>r g c false (by have:=el c;omega) (u g c) (x g c).2 (e.2.2 g c) (fh a ⟨i,j⟩ d z A).2)
  ·obtain⟨k,v,q,w,l,f⟩:=o.leaf a;cases l;have K:t.size=q:=(by rw[f.len];simp[T.size,a]);have B:t.slots=t.keys.zip (t.vals.zip t.over):=(by rw[T.slots_eq,if_pos a,e.1 a];simp);rw[B] at d;refine⟨fun b=>by kernel_rfl,109,.pointer (some ⟨k,0,none⟩),fun b=>by kernel_rfl,fun y b=>by kernel_rfl,?_⟩;exact vC f a (e.1 a) d (by omega) p key
def gG (ts:List TN) (key:ByteArray):Bool × List TN:=match gY ts with
 | none=>(false,ts)
 | some t=>if (ch key t.slots).isSome=true then (true,(bq key t).flat 0) else (false,ts)
theorem yh (h:gY ts=none):gG ts key=(false,ts):=by unfold gG;rw[h]
theorem i7 (h:gY ts=some t) (a:jV key t.slots):gG ts key=(true,(bq key t).flat 0):=by
 unfold gG;rw[h];simp only[];rw[if_pos (gz.2 a)]
theorem nN (h:gY ts=some t) (a:¬ jV key t.slots):gG ts key=(false,ts):=by
 unfold gG;rw[h];simp only[];rw[if_neg (fun b=>a (gz.1 b))]
theorem nO (h:gY ts=some t):bv t:=by
 obtain⟨_,⟨c,a⟩,b,_⟩:=bE h;exact xZ ts _ _ _ _ _ _ a ⟨true,b⟩
theorem yj (a:bl t.slots) (h:jV key t.slots):(fI key t.slots).length<=t.slots.length:=by
 have:=jS (dO t.slots a h).1;omega
theorem vH (ts:List TN) (a:Option Addr) (n c A B:Nat) (w:World) (bn:B<=w.heap.size) (ah:aw w A B a n c ts) (a3:n<=1048576) (s:∀ x ∈ ts,be x) (key:ByteArray) :
  Calls prog 9 #[.agg #[.slice a n c],.string key] w fun g N=>fF w (gG ts key) g N:=by
 obtain⟨b,u⟩:=Zn w.heap.size;obtain⟨j,y⟩:∃ j,j=(w.alloc (.cells #[.slice a n c] 25)).alloc (.cells #[.bool false,.slice none 0 0] 34):=⟨_,rfl⟩;have ai:Below w.heap.size w j:=by rw[y];exact (Zb _ _).alloc (by simp) _
 have bo:j.heap.size=b+2:=by rw[y];simp[u]
 have aj:j.heap[b]?=some (.cells #[.slice a n c] 25):=by rw[y,<-u];exact ((Zb (w.alloc (.cells #[.slice a n c] 25)) _).block w.heap.size (by simp)).trans (Ej w _)
 have aA:j.heap[b+1]?=some (.cells #[.bool false,.slice none 0 0] 34):=by
  rw[y];have:=Ej (w.alloc (.cells #[.slice a n c] 25)) (.cells #[.bool false,.slice none 0 0] 34)
  rwa [show (w.alloc (.cells #[.slice a n c] 25)).heap.size=b+1 by simp[u]] at this
 have aB:Hid (∀ d,Below b w d->aw d A B a n c ts):=fun d O=>ah.below (O.mono (by omega));have aC:=hidI ah.1;rw[u] at ai;have aD:=jG ts a n c A B j (by omega) (aB.out j ai);have P:j.cell? ⟨b,0,none⟩=some (.slice a n c):=by simp[World.cell?,aj]
 have ak:b<j.heap.size:=by omega
 have C:Hid (∀ d,Below b w d->Calls prog 25 #[.agg #[.slice a n c]] d fun g N=>∃ e f i,g=.returned (.agg #[.slice e n f])∧cj N d.heap.size (.slice e n f) (ts.map TN.nd) i∧Below d.heap.size d N):=fun d O=>mS ts a n c A B d (by have:=O.size;omega) (aB.out d O) a3 s;have D:Hid (∀ d h e f i,Below b w d->d.heap[b+1]?=some (.cells #[.bool false,.slice none 0 0] 34)->cj h d.heap.size (.slice e n f) (ts.map TN.nd) i->Below d.heap.size d h->gG ts key=(false,ts)->b+2<=d.heap.size->(h.heap[b+1]?=some (.cells #[.bool false,.slice none 0 0] 34))∧fF w (gG ts key) (.returned (.agg #[.bool false,.slice e n f])) ((h.setCell ⟨b+1,0,none⟩ (.bool false)).setCell ⟨b+1,1,none⟩ (.slice e n f))∧((h.setCell ⟨b+1,0,none⟩ (.bool false)).setCell ⟨b+1,1,none⟩ (.slice e n f)).heap[b+1]?=some (.cells #[.bool false,.slice e n f] 34)):=by
  intro d h e f i a4 o q k a5 bp;have l:=(k.block (b+1) (by omega)).trans o;have a6:Below w.heap.size w h:=(by rw[u];exact a4.trans (k.mono (by omega)));obtain⟨Q,S,m⟩:=dr (w:=w) (R:=b+1) (by omega) l q (by omega) a6 false;refine⟨l,?_,m⟩;rw[a5];refine⟨e,f,i,?_,?_,S⟩;·show _=Ending.returned (.agg #[.bool false,.slice e ts.length f]);rw[aC.out]
  ·show cj _ _ (.slice e ts.length f) _ _;rw[aC.out];exact Q
 clear ah s;go_enter func9,ntmps9;go_upto_region 1 with fail
 rw[<-y];clear y;go_wp2_with fail
 refine aD.mono ?_;rintro g E ⟨aE,al,o⟩;have br:=o.size;have U:=(o.block b (by omega)).trans aj;have F:=(o.block (b+1) (by omega)).trans aA;have V:=ai.trans (o.mono (by omega));clear aD P aj aA;have P:E.cell? ⟨b,0,none⟩=some (.slice a n c):=by simp[World.cell?,U]
 have ak:b<E.heap.size:=by omega
 by_cases z:cF ts
 ·obtain⟨t,bs,bt,aF,a7,a8,rfl,am⟩:=al z;have W:=iZ z aF;obtain⟨_,_,G,a9,X,a',H,aG⟩:=bE W;have Y:=nO W;obtain⟨ba,bb,rfl⟩:=am.shape;clear aE al;obtain⟨aH,bu,bv,aJ,aK,an⟩:=zh key t true (by omega) G X Y H E _ ba bb am (fun ao s=>s.2);have aL:=aK (.string key);have aM:=hidI W;have bc:=dY t ⟨true,G⟩;have ap:Hid (jV key t.slots->(bq key t).whole=true∧cg (bq key t)∧(bq key t).nodes<=10000000∧((bQ key t).leaf=false->(bQ key t).kids.length<=1000)):=fun aq=>(by obtain⟨aN,au,bw,bd,bx,bz⟩:=mW G Y X H aG aq;have bf:=fX aN au;rw[bd] at bf;have bA:=yj H aq;have aO:=(nK key t true G Y X H aq).soft.size.2;exact⟨pD _ true aN au.shape,au.shape,by omega,fun bg=>by simp only[T.size,bg] at aO;simp at aO;omega⟩);clear aK W aF a7 a8 am G a9 X a' H aG z Y bc;go_wp2_with fail
  refine an.mono ?_;rintro g d r;rcases r with ⟨rfl,I,⟨bB,aP,aQ⟩,Z⟩ | ⟨rfl,I,J⟩
  ·have bh:=Z.size;have aa:=V.trans (Z.below (by omega) (fun bC g=>by have:=g.1;omega));have ab:=(Z.block (b+1) (by omega) (fun g=>by have:=g.1;omega)).trans F;obtain⟨p,aR,aS,aT⟩:=ap.out I;have aU:=vG aP aT;have ac:Hid ((bq key t).whole=true∧cg (bq key t)∧(bq key t).nodes<=10000000∧gG ts key=(true,(bq key t).flat 0)):=⟨p,aR,aS,i7 aM.out I⟩;have bi:Hid (mV (bQ key t)=bq key t):=rfl;clear an aH aJ aL Z U F P ak o ap aP p aR aS aT D C;go_wp2_with fail
   refine aU.mono ?_;rintro g bj ⟨bD,rfl,bk,bF,ad,aV⟩;obtain rfl:d=bj:=bk.symm;rw[bi.out] at ad;obtain⟨bG,bH,rfl⟩:=ad.shape;have av:=pA d ac.out.1 (GM.see _ _ _ ad) (fun ao s=>(aQ ao (aV ao s)).2) ac.out.2.2.1;obtain⟨ae,ax⟩:=Zn ((bq key t).nodes);have bl:=hidI ax;rw[ax] at av;clear aU ad aV aQ ax;go_wp2_with fail
   refine av.mono ?_;rintro g ay ⟨e,f,i,rfl,aW,af⟩;have bI:=af.size;have ag:=(af.block (b+1) (by omega)).trans ab;have aX:Below w.heap.size w ay:=(by rw[u];exact aa.trans (af.mono (by omega)));obtain⟨aY,q1⟩:=aI ag;have aZ:=ar ag;have a0:b+1<ay.heap.size:=(by omega);obtain⟨Q,S,m⟩:=dr (w:=w) (R:=b+1) (by omega) ag aW (by omega) aX true;obtain⟨K,p⟩:=aI m;have L:Hid (fF w (gG ts key) (.returned (.agg #[.bool true,.slice e ae f])) ((ay.setCell ⟨b+1,0,none⟩ (.bool true)).setCell ⟨b+1,1,none⟩ (.slice e ae f))):=by
    rw[ac.out.2.2.2];have a1:((bq key t).flat 0).length=ae:=(by rw[dq _ ac.out.2.1,bl.out]);refine⟨e,f,i,?_,?_,S⟩;·show _=Ending.returned (.agg #[.bool true,.slice e ((bq key t).flat 0).length f]);rw[a1]
    ·show cj _ _ (.slice e ((bq key t).flat 0).length f) _ _;rw[a1];exact Q
   clear av aW Q S m af aX ag ab;go_wp2_with fail
   exact bodyPost_ret (v:=.agg #[.bool true,.slice e ae f]) (by simp[results,results9,go_sem,K,p]) rfl L.out
  ·have bh:=J.size;have aa:=V.trans (J.mono (by omega));have a2:=(J.block b (by omega)).trans U;have ab:=(J.block (b+1) (by omega)).trans F;have bJ:d.cell? ⟨b,0,none⟩=some (.slice a n c):=(by simp[World.cell?,a2]);have bK:b<d.heap.size:=(by omega);have az:=hidI (nN aM.out I);have M:=C.out d aa;clear an aH aJ aL J U F P ak o ap I C a2;go_wp2_with fail
   refine M.mono ?_;rintro g h ⟨e,f,i,rfl,q,k⟩;obtain⟨l,r,m⟩:=D.out d h e f i aa ab q k az.out (by omega);have bm:=k.size;obtain⟨aY,q1⟩:=aI l;have aZ:=ar l;have a0:b+1<h.heap.size:=(by omega);obtain⟨K,p⟩:=aI m;have L:=hidI r;clear M q m k l r D;go_wp2_with fail
   exact bodyPost_ret (v:=.agg #[.bool false,.slice e n f]) (by simp[results,results9,go_sem,K,p]) rfl L.out
 ·obtain rfl:=aE z;have az:Hid (gG ts key=(false,ts)):=yh (j9 z);clear al z;have M:=C.out E V;clear C;go_wp2_with fail
  refine M.mono ?_;rintro g h ⟨e,f,i,rfl,q,k⟩;obtain⟨l,r,m⟩:=D.out E h e f i V F q k az.out (by omega);have bm:=k.size;obtain⟨aY,q1⟩:=aI l;have aZ:=ar l;have a0:b+1<h.heap.size:=(by omega);obtain⟨K,p⟩:=aI m;have L:=hidI r;clear M q m k l r D;go_wp2_with fail
  exact bodyPost_ret (v:=.agg #[.bool false,.slice e n f]) (by simp[results,results9,go_sem,K,p]) rfl L.out
end Go.Proofs.YtggmghkcdfjdoaaGreat
