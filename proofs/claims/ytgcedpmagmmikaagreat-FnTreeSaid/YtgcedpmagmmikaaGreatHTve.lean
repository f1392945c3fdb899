import Derived.Test.YtgcedpmagmmikaaGreatHTks
import Derived.Test.YtgcedpmagmmikaaGreatHTlq
import Derived.Test.YtgcedpmagmmikaaGreatHTvc
namespace Go.Proofs.YtgcedpmagmmikaaGreat
set_option maxHeartbeats 8000000
open Go.RowKit Tryz
set_option linter.unusedVariables false
set_option linter.unusedSimpArgs false
set_option maxRecDepth 100000
variable {B M SZ c:Nat} {P:Program} {Q:Exit->Act->World->Prop} {Wd w:World} {a:Act} {ts:List TN} {xs:List Value}
def gY (ts:List TN):Option T:=match gr ts (ts.length+1) 0 (fun _=>false) with
 | some (t,nx,_)=>if ts.length<=1000∧nx=ts.length∧t.slots.all (fun s=>cy s.1)=true∧it (t.slots.map (fun s=>s.1))=true then some t else none
 | none=>none
theorem j9 (h:¬ cF ts):gY ts=none:=by
 unfold gY;split
 ·rename_i a i b c;split;·rename_i d;obtain⟨e,rfl,f,g⟩:=d;exact absurd ⟨e,a,b,c,f,g⟩ h
  ·rfl
 ·rfl
theorem iZ {t:T} {c:Int->Bool} (h:cF ts) (b:gr ts (ts.length+1) 0 (fun _=>false)=some (t,ts.length,c)):gY ts=some t:=by
 obtain⟨d,g,i,a,e,f⟩:=h;rw[b] at a;simp only[Option.some.injEq,Prod.mk.injEq] at a;obtain⟨rfl,_,rfl⟩:=a;unfold gY;rw[b];simp only[d,e,f,and_self,if_true]
theorem bE {t:T} (h:gY ts=some t):cF ts∧(∃ g,gr ts (ts.length+1) 0 (fun _=>false)=some (t,ts.length,g))∧t.good true=true∧cg t∧0<=t.ht∧t.nodes<=1000∧bl t.slots∧t.slots.all (fun i=>cy i.1)=true:=by
 by_cases e:cF ts;·obtain⟨f,j,b,a,c,d⟩:=e;have:=iZ ⟨f,j,b,a,c,d⟩ a;rw[h] at this;simp only[Option.some.injEq] at this;subst this;obtain⟨o,p,k,l,m,n,q,r⟩:=iw ts _ 0 _ t _ _ (D0 _) a;exact⟨⟨f,t,b,a,c,d⟩,⟨b,a⟩,m,k,n,by have:=l.1;omega,oq d,c⟩
 ·rw[j9 e] at h;cases h
def dx (ts:List TN) (key val:ByteArray):Bool × List TN:=match gY ts with
 | none=>(false,ts)
 | some t=>if cy key=true∧val.size<=400∧(bu key val t).nodes<=1000 then (true,(bu key val t).flat 0) else (false,ts)
def fF (w:World) (r:Bool × List TN) (e:Ending) (w':World):Prop:=∃ oa oc us,e=.returned (.agg #[.bool r.1,.slice oa r.2.length oc])∧cj w' w.heap.size (.slice oa r.2.length oc) (r.2.map TN.nd) us∧Below w.heap.size w w'
theorem aI {N:Nat} {a b:Value} {t:TypeId} (h:w.heap[N]?=some (.cells #[a,b] t)):w.cell? ⟨N,0,none⟩=some a∧w.cell? ⟨N,1,none⟩=some b:=by
 simp[World.cell?,h]
theorem dr {a:World} {R b m:Nat} {d:Option Addr} {f:List ND} {us:Nat->Nat->Value} {k l:Value} (u:w.heap.size<=R) (g:a.heap[R]?=some (.cells #[k,l] 30)) (h:cj a b (.slice d m c) f us) (v:R<b) (i:Below w.heap.size w a) (e:Bool) :
  cj ((a.setCell ⟨R,0,none⟩ (.bool e)).setCell ⟨R,1,none⟩ (.slice d m c)) w.heap.size (.slice d m c) f us∧Below w.heap.size w ((a.setCell ⟨R,0,none⟩ (.bool e)).setCell ⟨R,1,none⟩ (.slice d m c))∧((a.setCell ⟨R,0,none⟩ (.bool e)).setCell ⟨R,1,none⟩ (.slice d m c)).heap[R]?=some (.cells #[.bool e,.slice d m c] 30):=by
 have n:=af a R 0 (.bool e);have o:=af (a.setCell ⟨R,0,none⟩ (.bool e)) R 1 (.slice d m c);have x:=Za g;have j:=n.trans o;refine⟨(h.fr j (fun p q r=>by have:=(h.blk q).1;omega)).lower (by omega),i.trans (j.below i.size (fun p r=>by omega)),?_⟩;have s:=aj g 0 (.bool e);have t:=aj s 1 (.slice d m c);simpa using t
theorem ot (ts:List TN) (a:Option Addr) (n c A B:Nat) (w:World) (ce:B<=w.heap.size) (aO:aw w A B a n c ts) (bS:n<=1048576) (r:∀ e ∈ ts,be e) (key val:ByteArray) (cf:val.size<=1048576) :
  Calls prog 6 #[.agg #[.slice a n c],.string key,.string val] w fun d o=>fF w (dx ts key val) d o:=by
 obtain⟨b,J⟩:=Zn w.heap.size;obtain⟨f,K⟩:∃ f,f=(w.alloc (.cells #[.slice a n c] 25)).alloc (.cells #[.bool false,.slice none 0 0] 30):=⟨_,rfl⟩;have aP:Below w.heap.size w f:=by rw[K];exact (Zb _ _).alloc (by simp) _
 have ch:f.heap.size=b+2:=by rw[K];simp[J]
 have aQ:f.heap[b]?=some (.cells #[.slice a n c] 25):=by rw[K,<-J];exact ((Zb (w.alloc (.cells #[.slice a n c] 25)) _).block w.heap.size (by simp)).trans (DS w _)
 have bf:f.heap[b+1]?=some (.cells #[.bool false,.slice none 0 0] 30):=by
  rw[K];have:=DS (w.alloc (.cells #[.slice a n c] 25)) (.cells #[.bool false,.slice none 0 0] 30)
  rwa [show (w.alloc (.cells #[.slice a n c] 25)).heap.size=b+1 by simp[J]] at this
 have bg:Hid (∀ g,Below b w g->aw g A B a n c ts):=fun g p=>aO.below (p.mono (by omega));have bh:=hidI aO.1;have ci:=hidI r;rw[J] at aP;have bi:=jG ts a n c A B f (by omega) (bg.out f aP);have D:=j3 key;have au:f.cell? ⟨b,0,none⟩=some (.slice a n c):=by simp[World.cell?,aQ]
 have bj:b<f.heap.size:=by omega
 have av:Hid (∀ g,Below b w g->Calls prog 32 #[.agg #[.slice a n c]] g fun d o=>∃ h i aR,d=.returned (.agg #[.slice h n i])∧cj o g.heap.size (.slice h n i) (ts.map TN.nd) aR∧Below g.heap.size g o):=fun g p=>mS ts a n c A B g (by have:=p.size;omega) (bg.out g p) bS r;clear aO r;go_enter func6,ntmps6;go_upto_region 1 with fail
 rw[<-K];clear K;go_wp2_with fail
 refine bi.mono ?_;rintro d l ⟨bk,aS,ae⟩;have ck:=ae.size;have aT:=(ae.block b (by omega)).trans aQ;have af:=(ae.block (b+1) (by omega)).trans bf;have ax:=aP.trans (ae.mono (by omega));clear bi au aQ bf;have au:l.cell? ⟨b,0,none⟩=some (.slice a n c):=by simp[World.cell?,aT]
 have bj:b<l.heap.size:=by omega
 by_cases y:cF ts;rotate_left
 focus
  obtain rfl:=bk y;have ay:Hid (dx ts key val=(false,ts)):=(by show _=_;unfold dx;rw[j9 y]);clear aS D y;have z:=ax;have az:=af;have ag:=av.out l z
 rotate_left;obtain⟨j,cl,cm,aA,aU,aV,rfl,ah⟩:=aS y;have C:=iZ y aA;obtain⟨_,_,L,N,aB,aX,aC,aD⟩:=bE C;obtain⟨E,F,rfl⟩:=ah.shape;clear bk aS;by_cases s:cy key=true;rotate_left
 focus
  have bl:cy key=false:=(by simpa using s);have ay:Hid (dx ts key val=(false,ts)):=(by show _=_;unfold dx;rw[C];simp only[];rw[if_neg (fun p=>s p.1)]);have O:Calls prog 31 #[.string key] l fun d o=>d=.returned (.bool false)∧o=l:=(by have:=D l;rw[bl] at this;exact this);clear D C aA aU aV ah L N aB aX aC aD y s bl;go_wp2_with fail
  refine O.mono ?_;rintro d aE ⟨rfl,rfl⟩;have z:=ax;have az:=af;have ag:=av.out aE z
 rotate_right;by_cases G:val.size<=400;rotate_left
 focus
  have bT:(400:Int)<(val.size:Int):=(by omega);have ay:Hid (dx ts key val=(false,ts)):=(by show _=_;unfold dx;rw[C];simp only[];rw[if_neg (fun p=>G p.2.1)]);have O:Calls prog 31 #[.string key] l fun d o=>d=.returned (.bool true)∧o=l:=(by have:=D l;rw[s] at this;exact this);clear D C aA aU aV ah L N aB aX aC aD y s G;go_wp2_with fail
  refine O.mono ?_;rintro d aE ⟨rfl,rfl⟩;have z:=ax;have az:=af;have ag:=av.out aE z
 rotate_right;have bT:¬ ((400:Int)<(val.size:Int)):=by omega
 have cn:=hidI C;obtain⟨bU,co,cp,bV,bm,bn⟩:=yO key val G j true (by omega) L aB N aC l _ E F ah (fun P r=>r.2);have bW:=bm (.agg #[.string key,.string val,.int .i64 0]);obtain⟨bX,bo,bp,bY,bZ⟩:=mN (key:=key) (val:=val) G s L N aD;have Q:Hid ((bu key val j).whole=true∧(bu key val j).nodes<=2001∧cg (bu key val j)):=⟨bp,by omega,bo⟩;have b0:=(iV key val G j true L N).size.2;have bq:Hid (cy key=true∧val.size<=400):=⟨s,G⟩;have b1:Hid (∀ f,Calls prog 31 #[.string key] f fun d o=>d=.returned (.bool true)∧o=f):=fun f=>by have:=D f;rw[s] at this;exact this
 have br:Hid (bu key val j=if (aW key val j).size<=4 then aW key val j else ⟨false,0,[],[],[],cR (aW key val j)⟩):=rfl;have bs:Hid (dx ts key val=if cy key=true∧val.size<=400∧(bu key val j).nodes<=1000 then (true,(bu key val j).flat 0) else (false,ts)):=by show _=_;unfold dx;rw[C]
 clear D bm C aA aU aV ah L N aB aX aC aD bX bo bp bY bZ y s G;have O:=b1.out l;generalize bu key val j=q at *;generalize aW key val j=S at *;go_wp2_with fail
 refine O.mono ?_;rintro d aE ⟨rfl,rfl⟩;go_wp2_with fail
 refine bn.mono ?_;rintro d g ⟨rfl,⟨b2,T,aF⟩,ai⟩;have b3:=ai.size;have aY:=ax.trans (ai.below (by omega) (fun bt d=>by have:=d.1;omega));have aZ:=(ai.block b (by omega) (fun d=>by have:=d.1;omega)).trans aT;have a0:=(ai.block (b+1) (by omega) (fun d=>by have:=d.1;omega)).trans af;obtain⟨bv,cq,cr,bw,bx,aG⟩:=T.size;obtain⟨a1,a2⟩:=Zn S.size;have aj:=hidI a2;rw[a2] at aG b0;clear bn bU bV bW ai a2 aT af au bj O ae;go_wp2_with fail
 refine aG.mono ?_;rintro d bz ⟨rfl,rfl⟩;by_cases a3:a1<=4
 focus
  have b4:¬ ((4:Int)<(a1:Int)):=(by omega);have ak:q=S:=(by rw[br.out,if_pos (by rw[aj.out];exact a3)]);rw[<-ak] at T;have a4:=pA bz Q.out.1 (GM.see _ _ _ T) (fun P r=>(aF P r).2) (by have:=Q.out.2.1;omega);clear ak T aG bw bv bx;have bA:=aY;have bB:=aZ;have bC:=a0;have b5:=b3;generalize bz=u at *
 rotate_left
 focus
  have b4:(4:Int)<(a1:Int):=(by omega);have bD:=pB T 3 (by omega) (by rw[aj.out];omega) (by rw[aj.out];omega) (fun e m=>(aF e m).2);clear aG bw bv bx;go_wp2_with fail
  refine bD.mono ?_;rintro d x ⟨cs,rfl,⟨ct,cu,bF,a5,b6,al⟩,am⟩;obtain⟨U,V,rfl⟩:=a5.shape;have b5:=am.size;have aH:∀ e,b2 e->b+2<=e:=fun e m=>by
   rcases (aF e m).1 with d | d;·omega
   ·omega
  have bG:=aY.trans (am.below (by omega) (fun bt d=>by have:=aH bt d;omega));have bH:=(am.block b (by omega) (fun d=>by have:=aH _ d;omega)).trans aZ;have bI:=(am.block (b+1) (by omega) (fun d=>by have:=aH _ d;omega)).trans a0;obtain⟨M,a6⟩:=Zn x.heap.size;obtain⟨u,W⟩:∃ u,u=(x.alloc (.cells #[.iface E F,.iface U V] 66)).alloc (.cells #[.int .i64 0,.slice (some ⟨M,0,none⟩) 2 2] 81):=⟨_,rfl⟩;have X:Below x.heap.size x u:=(by rw[W];exact (Zb _ _).alloc (by simp) _);have cv:u.heap.size=M+2:=(by rw[W];simp[a6]);have bJ:u.heap[M]?=some (.cells #[.iface E F,.iface U V] 66):=(by rw[W,<-a6];exact ((Zb (x.alloc (.cells #[.iface E F,.iface U V] 66)) _).block x.heap.size (by simp)).trans (DS x _));have bK:u.heap[M+1]?=some (.cells #[.int .i64 0,.slice (some ⟨M,0,none⟩) 2 2] 81):=by
   rw[W];have:=DS (x.alloc (.cells #[.iface E F,.iface U V] 66)) (.cells #[.int .i64 0,.slice (some ⟨M,0,none⟩) 2 2] 81)
   rwa [show (x.alloc (.cells #[.iface E F,.iface U V] 66)).heap.size=M+1 by simp[a6]] at this
  have ak:q=⟨false,0,[],[],[],[S.fore 3,S.rest 3]⟩:=(by rw[br.out,if_neg (by rw[aj.out];exact a3)];unfold cR;rw[if_neg (by rw[aj.out];exact a3)]);have bL:gf u (fun P=>P<M+2) q (.iface 75 (.pointer (some ⟨M+1,0,none⟩))):=by
   rw[ak];refine eM.is (t:=⟨false,0,[],[],[],[S.fore 3,S.rest 3]⟩) (a:=some ⟨M,0,none⟩) (n:=2) (c:=2) (us:=fun H=>if H=0 then .iface E F else .iface U V) ⟨by show M+1<M+2;omega,bK,⟨rfl,DU _,by unfold maxLen;omega⟩,fun _=>⟨M,rfl,by show M<M+2;omega,fun H Y=>?_⟩,fun H cw a7 Y=>?_⟩ rfl;·have a8:H=0∨H=1:=(by omega);rcases a8 with rfl | rfl<;>simp[World.cell?,bJ]
   ·have a8:H=0∨H=1:=(by have:=Zc Y;simp at this;omega);rcases a8 with rfl | rfl;·simp at Y;subst Y;exact gf.keep (fun e m=>X.block e (al e (.inl m)).2) (fun e m=>by have:=(al e (.inl m)).2;show e<M+2;omega) _ _ (GM.see _ _ _ bF)
    ·simp at Y;subst Y;exact gf.keep (fun e m=>X.block e (al e (.inr m)).2) (fun e m=>by have:=(al e (.inr m)).2;show e<M+2;omega) _ _ (GM.see _ _ _ a5)
  have a4:=pA u Q.out.1 bL (fun P r=>by have:P<M+2:=r;omega) (by have:=Q.out.2.1;omega);have bA:=bG.trans (X.mono (by omega));have bB:=(X.block b (by omega)).trans bH;have bC:=(X.block (b+1) (by omega)).trans bI;clear bL ak bF a5 b6 al am bD T aF aH bJ bK X bH bI aZ a0 aY bG;go_upto_region 7 with fail
  rw[<-W];clear W
 rotate_right
 iterate 2
  focus
   go_wp2_with fail
   refine a4.mono ?_;rintro d Z ⟨h,i,aR,rfl,bM,an⟩;have cx:=an.size;have I:Below Z.heap.size Z (Z.alloc (.cells #[.slice h q.nodes i] 25)):=Zb _ _;have aJ:=DS Z (.cells #[.slice h q.nodes i] 25);have a9:=(I.block b (by omega)).trans ((an.block b (by omega)).trans bB);have aa:=(I.block (b+1) (by omega)).trans ((an.block (b+1) (by omega)).trans bC);have aK:=bM.below I;have aL:=(bA.trans (an.mono (by omega))).trans (I.mono (by omega));have bN:=I.size;have b7:Hid (∃ k,q.nodes=k):=⟨_,rfl⟩;obtain⟨k,a7⟩:=b7.out;have a':=hidI a7;have cz:k<=2001:=(by have:=Q.out.2.1;omega);rw[a7] at aJ aK a9 aa aL I bN ⊢;obtain⟨b8,b9⟩:=Zn Z.heap.size;rw[b9] at aJ bN;go_upto_region 8 with fail
   generalize Z.alloc (.cells #[.slice h k i] 25)=ab at *;have cA:ab.cell? ⟨b8,0,none⟩=some (.slice h k i):=(by simp[World.cell?,aJ]);have au:ab.cell? ⟨b,0,none⟩=some (.slice a n c):=(by simp[World.cell?,a9]);have cB:=Za aJ;have cC:b<ab.heap.size:=(by omega);clear a4 bM an I;by_cases bO:k<=1000
   ·have b':¬ ((1000:Int)<(k:Int)):=(by omega);obtain⟨ca,q1⟩:=aI aa;have cb:=ar aa;have cc:b+1<ab.heap.size:=(by omega);obtain⟨ao,ap,aq⟩:=dr (w:=w) (R:=b+1) (by omega) aa aK (by omega) (by rw[J];exact aL) true;obtain⟨ba,bb⟩:=aI aq;have bc:Hid (fF w (dx ts key val) (.returned (.agg #[.bool true,.slice h k i])) ((ab.setCell ⟨b+1,0,none⟩ (.bool true)).setCell ⟨b+1,1,none⟩ (.slice h k i))):=by
     rw[bs.out,if_pos ⟨bq.out.1,bq.out.2,by rw[a'.out];exact bO⟩];have bP:(q.flat 0).length=k:=(by rw[dq q Q.out.2.2,a'.out]);refine⟨h,i,aR,?_,?_,ap⟩;·show _=Ending.returned (.agg #[.bool true,.slice h (q.flat 0).length i]);rw[bP]
     ·show cj _ _ (.slice h (q.flat 0).length i) _ _;rw[bP];exact ao
    clear ao ap aq aK aa a9 aL;(go_wp2_with fail);exact bodyPost_ret (v:=.agg #[.bool true,.slice h k i]) (by simp[results,results6,go_sem,ba,bb]) rfl bc.out
   have b':(1000:Int)<(k:Int):=(by omega);have ay:Hid (dx ts key val=(false,ts)):=(by show _=_;rw[bs.out,if_neg (fun p=>bO (by rw[<-a'.out];exact p.2.2))]);clear aK;have z:=aL;have az:=aa;have ag:=av.out ab z
  rotate_left
 all_goals
  go_wp2_with fail
  refine ag.mono ?_;rintro d bd ⟨ac,ad,cd,rfl,bQ,aM⟩;have cD:=aM.size;have aN:=(aM.block (b+1) (by omega)).trans az;obtain⟨ca,q1⟩:=aI aN;have cb:=ar aN;have cc:b+1<bd.heap.size:=(by omega);have bR:Below w.heap.size w bd:=(by rw[J];exact z.trans (aM.mono (by omega)));obtain⟨ao,ap,aq⟩:=dr (w:=w) (R:=b+1) (by omega) aN bQ (by omega) bR false;obtain⟨ba,bb⟩:=aI aq;have bc:Hid (fF w (dx ts key val) (.returned (.agg #[.bool false,.slice ac n ad])) ((bd.setCell ⟨b+1,0,none⟩ (.bool false)).setCell ⟨b+1,1,none⟩ (.slice ac n ad))):=by
   rw[ay.out];refine⟨ac,ad,cd,?_,?_,ap⟩;·show _=Ending.returned (.agg #[.bool false,.slice ac ts.length ad]);rw[bh.out]
   ·show cj _ _ (.slice ac ts.length ad) _ _;rw[bh.out];exact ao
  clear ag bQ ao ap aq aM bR aN;go_wp2_with fail
  exact bodyPost_ret (v:=.agg #[.bool false,.slice ac n ad]) (by simp[results,results6,go_sem,ba,bb]) rfl bc.out
def gE (j:Nat):TypeId:=if j<2 then 9 else if j=2 then 2 else 55
def gS (j:Nat):Nat:=if j<3 then 1 else 6
theorem ke (a:Act) (d t:Nat) (v:Value) (h:t≠d):(a.put (some d) v).eval (.tmp t)=a.eval (.tmp t):=by
 simp only[Act.put,Act.eval,Array.getD_eq_getD_getElem?];rw[EG (Ne.symm h)]
theorem jk (a:Act) (d:Nat) (v:Value) (h:d<a.tmps.size):(a.put (some d) v).eval (.tmp d)=v:=by
 simp only[Act.put,Act.eval,Array.getD_eq_getD_getElem?];rw[Array.getElem?_setIfInBounds_self_of_lt h];rfl
structure JG (SZ:Nat) (Wd:World) (M:Nat) (da:Nat->Nat->Nat) (con:Nat->Nat->List Value) (len:Nat->Nat->Nat) (keep:List (Nat × Value)) (p:Nat->Nat) (a:Act) (w:World):Prop where
 sz:a.tmps.size=SZ
 df:a.defers=[]
 kp:∀ x ∈ keep,a.eval (.tmp x.1)=x.2
 cur:∀ j,j<4->0<p j->w.ownsRow M (gE j) (gS j) (a.eval (.tmp (da j (p j)))) (len j (p j)) (con j (p j))
 apart:∀ i j,i<4->j<4->i≠j->0<p i->0<p j->∀ g,(a.eval (.tmp (da i (p i)))).ownBlock=some g->(a.eval (.tmp (da j (p j)))).ownBlock≠some g
 fr:Fr (fun g=>M<=g) Wd w
def rI (p:Nat->Nat) (j q:Nat):Nat->Nat:=fun i=>if i=j then q else p i
theorem JG.move {e:Nat->Nat->Nat} {y:Nat->Nat->List Value} {z:Nat->Nat->Nat} {A:List (Nat × Value)} {p:Nat->Nat} {w':World} (h:JG SZ Wd M e y z A p a w) {j q mx:Nat} (t:j<4) (I:0<q) (J:q<=mx) (K:∀ b,b<4->p b<=mx) (L:∀ b r l s,b<4->l<4->0<r->r<=mx->0<s->s<=mx->b≠l->e b r≠e l s) (N:∀ u ∈ A,u.1≠e j q) (O:e j q<SZ) (R:M<=w.heap.size)
  {v:Value} (P:w'.ownsRow M (gE j) (gS j) v (z j q) (y j q)) (E:Fr (fun c=>0<p j∧(a.eval (.tmp (e j (p j)))).ownBlock=some c) w w') (Q:∀ c,v.ownBlock=some c->(0<p j∧(a.eval (.tmp (e j (p j)))).ownBlock=some c)∨w.heap.size<=c) :
  JG SZ Wd M e y z A (rI p j q) (a.put (some (e j q)) v) w':=by
 have B:e j q<a.tmps.size:=by rw[h.sz];exact O
 have o:∀ b,b<4->b≠j->0<p b->(a.put (some (e j q)) v).eval (.tmp (e b (p b)))=a.eval (.tmp (e b (p b))):=fun b f n d=>ke a _ _ v (L b (p b) j q f t d (K b f) I J n);have F:∀ b,b<4->b≠j->0<p b->∀ c,(a.eval (.tmp (e b (p b)))).ownBlock=some c->v.ownBlock≠some c:=fun b f n d c g i=>by
  rcases Q c i with ⟨m,G⟩ | G;·exact h.apart b j f t n d m c g G
  ·have:=((h.cur b f d).lt c g).2;omega
 refine⟨by simp[Act.put,h.sz],by simp[Act.put,h.df],fun u H=>by rw[ke a _ _ v (N u H)];exact h.kp u H,fun b f d=>?_,fun b l f x n d m c g=>?_,?_⟩
 ·by_cases k:b=j;·subst k;simp only[rI,if_true] at d ⊢;rw[jk a _ v B];exact P
  ·simp only[rI,if_neg k] at d ⊢;rw[o b f k d];exact am (h.cur b f d) E (fun c g i=>h.apart b j f t k d i.1 c g i.2)
 ·by_cases k:b=j;·subst k;have C:l≠b:=fun i=>n i.symm;simp only[rI,if_true,if_neg C] at d m g ⊢;rw[jk a _ v B] at g;rw[o l x C m];exact fun i=>F l x C m c i g
  ·by_cases D:l=j;·subst D;simp only[rI,if_true,if_neg k] at d m g ⊢;rw[jk a _ v B];rw[o b f k d] at g;exact F b f k d c g
   ·simp only[rI,if_neg k,if_neg D] at d m g ⊢;rw[o b f k d] at g;rw[o l x D m];exact h.apart b l f x n d m c g
 ·refine h.fr.trans (E.weak (fun c i=>((h.cur j t i.1).lt c i.2).1))
theorem eC {ops:Array Oper} {o:Oper} {K:Act->World->Prop} {E:Prop} (b:o.guard=none) (t e:TypeId) (c:o.op=.buildSlice t 0 #[]) (d:(Instr.buildSlice t 0 #[]).run P w=.ok (.slice (some ⟨w.heap.size,0,none⟩) 0 0) (w.alloc (.cells #[] e)))
  (h:K (a.put o.dst (.slice (some ⟨w.heap.size,0,none⟩) 0 0)) (w.alloc (.cells #[] e))):if Region.wanted o (yielded ops a.tmps)=true then Oper.wp P o a w K Q else E:=by
 rw[if_pos (by simp[Region.wanted,b])];unfold Oper.wp execOp;simp only[c,Sem.run_bind,Sem.run_pure,Result.andThen_ok,List.map_toArray,Ez,d];exact h
theorem jl (w:World):(Instr.buildSlice 51 0 #[]).run prog w=.ok (.slice (some ⟨w.heap.size,0,none⟩) 0 0) (w.alloc (.cells #[] 9)):=by kernel_rfl
theorem lZ (w:World):(Instr.buildSlice 52 0 #[]).run prog w=.ok (.slice (some ⟨w.heap.size,0,none⟩) 0 0) (w.alloc (.cells #[] 2)):=by kernel_rfl
theorem wS (w:World):(Instr.buildSlice 53 0 #[]).run prog w=.ok (.slice (some ⟨w.heap.size,0,none⟩) 0 0) (w.alloc (.cells #[] 55)):=by kernel_rfl
theorem dp (w:World) (e size M:Nat) (h:M<=w.heap.size):(w.alloc (.cells #[] e)).ownsRow M e size (.slice (some ⟨w.heap.size,0,none⟩) 0 0) 0 []:=by
 have:=World.ownsRow_made w #[] (base:=w.heap.size) (e:=e) (size:=size) 0 (by simp) (by unfold maxLen;omega) (by simp);have a:(w.alloc (.cells #[] e)).ownsRow w.heap.size e size (.slice (some ⟨w.heap.size,0,none⟩) 0 0) 0 []:=by simpa using this
 exact bt a h
theorem nG (base:Nat) (t ty e:TypeId) (i:TypeInfo) (size c:Nat) (ht:P.underlying t=some (.slice e)) (a:P.info? e=some i) (v:Value) (n:Nat) (xs:List Value) (b:w.ownsRow base e size v n xs):(Builtin.append_ #[t,t] ty #[v,.slice none 0 c]).run P w=.ok v w:=by
 rcases b.2 with ⟨rfl,rfl⟩ | ⟨f,g,h,rfl,_,_,d,_⟩;·simp[Builtin.append_,run_underlying ht,sizeOf,typeInfo,a,Builtin.lenOf,Builtin.firstCells]
 ·simp[Builtin.append_,run_underlying ht,sizeOf,typeInfo,a,Builtin.lenOf,Builtin.firstCells,d,storeCells]
def bi (w:World) (B size m:Nat) (v:Value) (xs:List Value):Prop:=xs.length=m*size∧m<=1048576∧(∀ u ∈ xs,u.oneCell'=true)∧∃ ad c,v=.slice ad m c∧(ad=none->m=0)∧(0<xs.length->∃ b off,ad=some ⟨b,off,none⟩)∧∀ x,ad=some x->∀ j u,xs[j]?=some u->(x.add j).block<B∧w.cell? (x.add j)=some u
theorem bi.below {w':World} {size m:Nat} {v:Value} (h:bi w B size m v xs) (i:Below B w w'):bi w' B size m v xs:=by
 obtain⟨j,k,l,n,c,o,q,r,d⟩:=h;exact⟨j,k,l,n,c,o,q,r,fun a e b f g=>⟨(d a e b f g).1,(i.cell (p:=a.add b) (d a e b f g).1).trans (d a e b f g).2⟩⟩
theorem aN {ops:Array Oper} {o:Oper} {K:Act->World->Prop} {E:Prop}
  (j:o.guard=none) (s x:Operand) (t:TypeId) (k:o.op=.call { callee:=.builtin .append,args:=#[s,x],argTypes:=#[t,t] })
  (base:Nat) (e:TypeId) (i:TypeInfo) (z:Value) (size b:Nat) (ht:P.underlying t=some (.slice e)) (l:P.info? e=some i) (A:i.zero=some z)
  (C:i.size=size) (D:i.bytes=b) (F:z.cells.size=size) (G:0<size) (H:b<=1000)
  (v:Value) (n:Nat) (xs:List Value) (p:a.eval s=v) (f:w.ownsRow base e size v n xs) (W:n<=1048576)
  (u:Value) (B m:Nat) (d:List Value) (q:a.eval x=u) (I:bi w B size m u d) (J:base<=w.heap.size)
  (h:∀ v' w',w'.ownsRow base e size v' (n+m) (xs++d)->w.grownBy w' v.ownBlock->(v'.ownBlock=v.ownBlock∨∀ g,v'.ownBlock=some g->w.heap.size<=g)->K (a.put o.dst v') w') :
  if Region.wanted o (yielded ops a.tmps)=true then Oper.wp P o a w K Q else E:=by
 obtain⟨r,X,L,M,c,rfl,N,Y,O⟩:=I;have R:(n+m)*b<=140737488355328:=DX (Nat.mul_le_mul_left _ H) (by omega);cases M with
 | some y=>exact li j s x t k base e i z size b ht l A C D F G v n xs p f y m c d q r (fun S u T=>(O y rfl S u T).2) L (by unfold maxLen;omega) R J h
 |none=>have U:=N rfl;subst U;obtain rfl:d=[]:=List.length_eq_zero_iff.1 (by rw[r];simp);rw[if_pos (by simp[Region.wanted,j])];have V:=nG (P:=P) base t o.type e i size c ht l v n xs f;unfold Oper.wp execOp;simp only[k,resolve,invoke,builtin,Sem.run_bind,Sem.run_pure,Result.andThen_ok,List.map_toArray,D8,Ez,p,q,V];exact h v w (by simpa using f) ⟨rfl,rfl,rfl,DU _,fun _ _ _=>rfl⟩ (.inl rfl)
theorem aJ (w:World) {ops:Array Oper} {rest:List Oper} {o:Oper} {a:Act} {Q:Exit->Act->World->Prop} (d:o.guard=none) (s x:Operand) (t:TypeId)
  (l:o.op=.call { callee:=.builtin .append,args:=#[s,x],argTypes:=#[t,t] })
  (base:Nat) (e:TypeId) (i:TypeInfo) (z:Value) (size f:Nat) (ht:P.underlying t=some (.slice e)) (p:P.info? e=some i) (q:i.zero=some z)
  (r:i.size=size) (y:i.bytes=f) (A:z.cells.size=size) (C:0<size) (D:f<=1000)
  (v:Value) (n:Nat) (xs:List Value) (F:a.eval s=v) (G:w.ownsRow base e size v n xs) (H:n<=1048576)
  (u:Value) (B m:Nat) (j:List Value) (I:a.eval x=u) (J:bi w B size m u j) (L:base<=w.heap.size)
  (h:∀ b c,c.ownsRow base e size b (n+m) (xs++j)->w.grownBy c v.ownBlock->(b.ownBlock=v.ownBlock∨∀ g,b.ownBlock=some g->w.heap.size<=g)->wpList P ops Q rest (a.put o.dst b) c):wpList P ops Q (o::rest) a w:=by
 refine wpList_plain d fun M N=>?_;have k:=aN (P:=P) (ops:=ops) (o:=o) (a:=a) (w:=w) (K:=M) (Q:=Q) (E:=True) d s x t l base e i z size f ht p q r y A C D v n xs F G H u B m j I J L (fun b c O R S=>N _ _ (h b c O R S));rw[if_pos (by simp[Region.wanted,d])] at k;exact k
theorem bi.fore {s n k:Nat} {a:Option Addr} (h:bi w B s n (.slice a n c) xs) (f:k<=n):bi w B s k (.slice a k c) (xs.take (k*s)):=by
 obtain⟨t,u,g,v,x,b,i,j,l⟩:=h;simp only[Value.slice.injEq] at b;obtain⟨rfl,_,rfl⟩:=b;have y:=Nat.mul_le_mul_right s f;refine⟨by rw[D3];omega,by omega,fun e m=>g e (Eh m),a,c,rfl,fun b=>by have:=i b;omega,fun o=>j (by rw[D3] at o;omega),fun p q r e d=>l p q r e ?_⟩;rw[EC] at d;split at d;·exact d
 ·cases d
theorem bi.rest {s n k:Nat} {a:Option Addr} (h:bi w B s n (.slice a n c) xs) (A:k<=n) (C:n<=c):bi w B s (n - k) (.slice (if c=k then a else a.map (fun m=>m.add (k*s))) (n - k) (c - k)) (xs.drop (k*s)):=by
 obtain⟨r,D,t,E,F,b,u,o,v⟩:=h;simp only[Value.slice.injEq] at b;obtain⟨rfl,_,rfl⟩:=b;have p:(xs.drop (k*s)).length=(n - k)*s:=by rw[Es,r,Nat.sub_mul]
 refine⟨p,by omega,fun e x=>t e (Ef x),_,_,rfl,fun b=>?_,fun y=>?_,fun m d z e f=>?_⟩
 ·split at b;·omega
  ·cases a with
   | none=>have:=u rfl;omega
   | some G=>cases b
 ·have g:0<xs.length:=(by rw[Es] at y;omega);obtain⟨i,j,rfl⟩:=o g;split;·exact⟨i,j,rfl⟩
  ·exact⟨i,j+k*s,by rw[Option.map_some,gy]⟩
 ·have l:=Zc f;have g:0<xs.length:=(by rw[Es] at l;omega);obtain⟨i,j,rfl⟩:=o g;rw[Eu] at f;have q:=v _ rfl (k*s+z) e f;split at d;·have:n - k=0:=(by omega);rw[p,this] at l;simp at l
  ·rw[Option.map_some,gy] at d;simp only[Option.some.injEq] at d;subst d;rw[gy,EX];rw[gy] at q;exact q
def cT:Array Oper:=#[
 ⟨some 5,Op.fieldAddr 55 (.tmp 2) 0,0,"l3_tree.go:271",#[],none⟩,
 ⟨some 6,Op.load 4 (.tmp 5),4,"l3_tree.go:271",#[⟨0,.data⟩],none⟩,
 ⟨some 7,Op.buildSlice 51 0 #[],51,"l3_tree.go:271",#[],none⟩,
 ⟨some 8,Op.fieldAddr 55 (.tmp 2) 2,0,"l3_tree.go:271",#[],none⟩,
 ⟨some 9,Op.load 51 (.tmp 8),51,"l3_tree.go:271",#[⟨3,.data⟩],none⟩,
 ⟨some 10,Op.call { callee:=Callee.builtin Builtin.append,args:=#[Operand.tmp 7,Operand.tmp 9],argTypes:=#[51,51] },51,"l3_tree.go:271",#[⟨2,.data⟩,⟨4,.data⟩],none⟩,
 ⟨some 11,Op.fieldAddr 55 (.tmp 3) 2,0,"l3_tree.go:271",#[],none⟩,
 ⟨some 12,Op.load 51 (.tmp 11),51,"l3_tree.go:271",#[⟨6,.data⟩],none⟩,
 ⟨some 13,Op.call { callee:=Callee.builtin Builtin.append,args:=#[Operand.tmp 10,Operand.tmp 12],argTypes:=#[51,51] },51,"l3_tree.go:271",#[⟨5,.data⟩,⟨7,.data⟩,⟨5,.chain⟩],none⟩,
 ⟨some 14,Op.buildSlice 51 0 #[],51,"l3_tree.go:271",#[],none⟩,
 ⟨some 15,Op.fieldAddr 55 (.tmp 2) 3,0,"l3_tree.go:271",#[],none⟩,
 ⟨some 16,Op.load 51 (.tmp 15),51,"l3_tree.go:271",#[⟨10,.data⟩],none⟩,
 ⟨some 17,Op.call { callee:=Callee.builtin Builtin.append,args:=#[Operand.tmp 14,Operand.tmp 16],argTypes:=#[51,51] },51,"l3_tree.go:271",#[⟨9,.data⟩,⟨11,.data⟩,⟨8,.chain⟩],none⟩,
 ⟨some 18,Op.fieldAddr 55 (.tmp 3) 3,0,"l3_tree.go:271",#[],none⟩,
 ⟨some 19,Op.load 51 (.tmp 18),51,"l3_tree.go:271",#[⟨13,.data⟩],none⟩,
 ⟨some 20,Op.call { callee:=Callee.builtin Builtin.append,args:=#[Operand.tmp 17,Operand.tmp 19],argTypes:=#[51,51] },51,"l3_tree.go:271",#[⟨12,.data⟩,⟨14,.data⟩,⟨12,.chain⟩],none⟩,
 ⟨some 21,Op.buildSlice 52 0 #[],52,"l3_tree.go:271",#[],none⟩,
 ⟨some 22,Op.fieldAddr 55 (.tmp 2) 4,0,"l3_tree.go:271",#[],none⟩,
 ⟨some 23,Op.load 52 (.tmp 22),52,"l3_tree.go:271",#[⟨17,.data⟩],none⟩,
 ⟨some 24,Op.call { callee:=Callee.builtin Builtin.append,args:=#[Operand.tmp 21,Operand.tmp 23],argTypes:=#[52,52] },52,"l3_tree.go:271",#[⟨16,.data⟩,⟨18,.data⟩,⟨15,.chain⟩],none⟩,
 ⟨some 25,Op.fieldAddr 55 (.tmp 3) 4,0,"l3_tree.go:271",#[],none⟩,
 ⟨some 26,Op.load 52 (.tmp 25),52,"l3_tree.go:271",#[⟨20,.data⟩],none⟩,
 ⟨some 27,Op.call { callee:=Callee.builtin Builtin.append,args:=#[Operand.tmp 24,Operand.tmp 26],argTypes:=#[52,52] },52,"l3_tree.go:271",#[⟨19,.data⟩,⟨21,.data⟩,⟨19,.chain⟩],none⟩,
 ⟨some 28,Op.buildSlice 53 0 #[],53,"l3_tree.go:271",#[],none⟩,
 ⟨some 29,Op.fieldAddr 55 (.tmp 2) 5,0,"l3_tree.go:271",#[],none⟩,
 ⟨some 30,Op.load 53 (.tmp 29),53,"l3_tree.go:271",#[⟨24,.data⟩],none⟩,
 ⟨some 31,Op.call { callee:=Callee.builtin Builtin.append,args:=#[Operand.tmp 28,Operand.tmp 30],argTypes:=#[53,53] },53,"l3_tree.go:271",#[⟨23,.data⟩,⟨25,.data⟩,⟨22,.chain⟩],none⟩,
 ⟨some 32,Op.fieldAddr 55 (.tmp 3) 5,0,"l3_tree.go:271",#[],none⟩,
 ⟨some 33,Op.load 53 (.tmp 32),53,"l3_tree.go:271",#[⟨27,.data⟩],none⟩,
 ⟨some 34,Op.call { callee:=Callee.builtin Builtin.append,args:=#[Operand.tmp 31,Operand.tmp 33],argTypes:=#[53,53] },53,"l3_tree.go:271",#[⟨26,.data⟩,⟨28,.data⟩,⟨26,.chain⟩],none⟩,
 ⟨some 35,Op.build 55 #[(0,Operand.tmp 6),(2,Operand.tmp 13),(3,Operand.tmp 20),(4,Operand.tmp 27),(5,Operand.tmp 34)],55,"l3_tree.go:271",#[⟨1,.data⟩,⟨8,.data⟩,⟨15,.data⟩,⟨22,.data⟩,⟨29,.data⟩],none⟩,
 ⟨none,Op.store 55 (.tmp 4) (.tmp 35),0,"l3_tree.go:271",#[⟨30,.data⟩,⟨29,.chain⟩,⟨0,.phase⟩,⟨1,.phase⟩,⟨2,.phase⟩,⟨3,.phase⟩,⟨4,.phase⟩,⟨5,.phase⟩,⟨6,.phase⟩,⟨7,.phase⟩,⟨8,.phase⟩,⟨9,.phase⟩,⟨10,.phase⟩,⟨11,.phase⟩,⟨12,.phase⟩,⟨13,.phase⟩,⟨14,.phase⟩,⟨15,.phase⟩,⟨16,.phase⟩,⟨17,.phase⟩,⟨18,.phase⟩,⟨19,.phase⟩,⟨20,.phase⟩,⟨21,.phase⟩,⟨22,.phase⟩,⟨23,.phase⟩,⟨24,.phase⟩,⟨25,.phase⟩,⟨26,.phase⟩,⟨27,.phase⟩,⟨28,.phase⟩,⟨29,.phase⟩,⟨30,.phase⟩],none⟩]
def pG (p0 p1 p2 p3:Nat):Array Bool:=#[true,true,decide (1<=p0),true,true,decide (2<=p0),true,true,decide (3<=p0),decide (1<=p1),true,true,decide (2<=p1),true,true,decide (3<=p1),decide (1<=p2),true,true,decide (2<=p2),true,true,decide (3<=p2),decide (1<=p3),true,true,decide (2<=p3),true,true,decide (3<=p3),false,false]
def gZ (p0 p1 p2 p3:Nat):Bool:=(decide (p1<=1) || decide (p0=3)) && (decide (p2<=1) || decide (p1=3)) && (decide (p3<=1) || decide (p2=3))
def An (p0 p1 p2 p3 i:Nat):Bool:=(i == 2 && p0 == 0) || (i == 9 && p1 == 0) || (i == 16 && p2 == 0) || (i == 23 && p3 == 0) || (i == 5 && p0 == 1) || (i == 8 && p0 == 2) || (i == 12 && p1 == 1 && p0 == 3) || (i == 15 && p1 == 2) || (i == 19 && p2 == 1 && p1 == 3) || (i == 22 && p2 == 2) || (i == 26 && p3 == 1 && p2 == 3) || (i == 29 && p3 == 2)
def xR:Bool:=(List.range 4).all fun p0=>(List.range 4).all fun p1=>(List.range 4).all fun p2=>(List.range 4).all fun p3=>!(gZ p0 p1 p2 p3) || (p0 == 3 && p1 == 3 && p2 == 3 && p3 == 3) || (!((Region.ready .any cT (pG p0 p1 p2 p3)).isEmpty) && (Region.ready .any cT (pG p0 p1 p2 p3)).all (fun i=>An p0 p1 p2 p3 i))
theorem tE:xR=true:=by kernel_rfl
theorem wT (b:Nat) (f:b<4) (c:Nat) (g:c<4) (d:Nat) (h:d<4) (e:Nat) (i:e<4) (j:gZ b c d e=true) (k:¬ (b=3∧c=3∧d=3∧e=3)):Region.ready .any cT (pG b c d e)≠[]∧(Region.ready .any cT (pG b c d e)).all (fun l=>An b c d e l)=true:=by
 have a:=tE;unfold xR at a;have a:=D9.1 a b (List.mem_range.2 f);have a:=D9.1 a c (List.mem_range.2 g);have a:=D9.1 a d (List.mem_range.2 h);have a:=D9.1 a e (List.mem_range.2 i);rw[j] at a;simp only[EK,EE,Bool.or_eq_true,DW,beq_iff_eq] at a;rcases a with a | a;·exact absurd ⟨a.1.1.1,a.1.1.2,a.1.2,a.2⟩ k
 ·exact⟨fun m=>by rw[m] at a;simp at a,a.2⟩
def wi (j q:Nat):Nat:=4+3*q+7*j
theorem xS (i r k s:Nat) (a:i<4) (b:k<4) (c:0<r) (d:r<=3) (e:0<s) (f:s<=3) (g:i≠k):wi i r≠wi k s:=by unfold wi;omega
def mT (xA xB:Nat->List Value) (j q:Nat):List Value:=if q=1 then [] else if q=2 then xA j else xA j++xB j
def k7 (nA nB:Nat->Nat) (j q:Nat):Nat:=if q=1 then 0 else if q=2 then nA j else nA j+nB j
def p4 (p0 p1 p2 p3:Nat):Nat->Nat:=fun j=>if j=0 then p0 else if j=1 then p1 else if j=2 then p2 else p3
theorem vj (e b c d q:Nat):∀ a,a<4->p4 q b c d a=rI (p4 e b c d) 0 q a:=fun a g=>by
 have f:a=0∨a=1∨a=2∨a=3:=by omega
 rcases f with rfl | rfl | rfl | rfl<;>rfl
theorem vk (b e c d q:Nat):∀ a,a<4->p4 b q c d a=rI (p4 b e c d) 1 q a:=fun a g=>by
 have f:a=0∨a=1∨a=2∨a=3:=by omega
 rcases f with rfl | rfl | rfl | rfl<;>rfl
theorem vp (b c e d q:Nat):∀ a,a<4->p4 b c q d a=rI (p4 b c e d) 2 q a:=fun a g=>by
 have f:a=0∨a=1∨a=2∨a=3:=by omega
 rcases f with rfl | rfl | rfl | rfl<;>rfl
theorem vq (b c d e q:Nat):∀ a,a<4->p4 b c d q a=rI (p4 b c d e) 3 q a:=fun a g=>by
 have f:a=0∨a=1∨a=2∨a=3:=by omega
 rcases f with rfl | rfl | rfl | rfl<;>rfl
theorem iD {a b:Nat->Nat} {j q:Nat} (h:a j<=1048576) (c:0<q) (d:q<3):k7 a b j q<=1048576:=by
 unfold k7;split;·omega
 ·split;·exact h
  ·omega
theorem JG.re {f:Nat->Nat->Nat} {g:Nat->Nat->List Value} {i:Nat->Nat->Nat} {j:List (Nat × Value)} {p k:Nat->Nat} (h:JG SZ Wd M f g i j p a w) (e:∀ b,b<4->k b=p b):JG SZ Wd M f g i j k a w :=
 ⟨h.sz,h.df,h.kp,fun b c d=>by rw[e b c] at d ⊢;exact h.cur b c d,fun l b m c o d n=>by rw[e l m] at d ⊢;rw[e b c] at n ⊢;exact h.apart l b m c o d n,h.fr⟩
theorem yT {S:World->Prop} (an:M<=Wd.heap.size) (z:∀ w,Fr (fun I=>M<=I) Wd w->S w) (aq:35<=SZ) (af ag:Nat->Value) (C D:Nat->List Value) (E F:Nat->Nat) (O:List (Nat × Value)) (ah:∀ T ∈ O,∀ b,b<4->∀ j,0<j->j<=3->T.1≠wi b j) (W:∀ b,b<4->(9+7*b,af b) ∈ O) (X:∀ b,b<4->(12+7*b,ag b) ∈ O)
  (A:∀ b,b<4->bi Wd M (gS b) (E b) (af b) (C b)) (Y:∀ b,b<4->bi Wd M (gS b) (F b) (ag b) (D b))
  (ao:∀ a w,JG SZ Wd M wi (mT C D) (k7 E F) O (fun _=>3) a w->wpAnyH prog .any cT Q S 2 (pG 3 3 3 3) a w) :
  ∀ U e f g d a w,e<4->f<4->g<4->d<4->gZ e f g d=true->e+f+g+d+U=12->JG SZ Wd M wi (mT C D) (k7 E F) O (p4 e f g d) a w->wpAnyH prog .any cT Q S (U+2) (pG e f g d) a w:=by
 intro U
 induction U with
 |zero=>intro e f g d a w ai R aa aj y ap m;obtain rfl:e=3:=(by omega);obtain rfl:f=3:=(by omega);obtain rfl:g=3:=(by omega);obtain rfl:d=3:=(by omega);exact ao a w (m.re (fun b J=>by unfold p4;split;rfl;split;rfl;split;rfl;rfl))
 |succ U B=>
  intro e f g d a w ai R aa aj y ap m;obtain⟨ak,al⟩:=wT e ai f R g aa d aj y (by omega);have G:=DX an m.fr.size;have K:Below M Wd w:=⟨m.fr.os,m.fr.tape,m.fr.output,m.fr.size,fun ab c=>m.fr.block ab (by omega) (by omega)⟩;have am:∀ n,n<4->p4 e f g d n<=3:=fun n ac=>(by unfold p4;split;omega;split;omega;split;omega;omega);have Z:∀ b,b<4->p4 e f g d b=0->JG SZ Wd M wi (mT C D) (k7 E F) O (rI (p4 e f g d) b 1) (a.put (some (wi b 1)) (.slice (some ⟨w.heap.size,0,none⟩) 0 0)) (w.alloc (.cells #[] (gE b))):=fun b J V =>m.move (mx:=3) J (by omega) (by omega) am xS (fun T ad=>ah T ad b J 1 (by omega) (by omega)) (by unfold wi;omega) G (dp w (gE b) (gS b) M G) ⟨rfl,rfl,rfl,by simp,fun ab c _=>(Zb w _).block ab c⟩ (fun I P=>.inr (by have:=cC P;omega));have L:∀ b j,b<4->0<j->j<3->p4 e f g d b=j->∀ k l,l.ownsRow M (gE b) (gS b) k (k7 E F b (j+1)) (mT C D b (j+1))->w.grownBy l (a.eval (.tmp (wi b j))).ownBlock->(k.ownBlock=(a.eval (.tmp (wi b j))).ownBlock∨∀ I,k.ownBlock=some I->w.heap.size<=I)->JG SZ Wd M wi (mT C D) (k7 E F) O (rI (p4 e f g d) b (j+1)) (a.put (some (wi b (j+1))) k) l:=fun b j J R aa V k l p q r =>
   m.move (mx:=3) J (by omega) (by omega) am xS (fun T ad=>ah T ad b J (j+1) (by omega) (by omega)) (by unfold wi;omega) G p (Fr.of_grown q (fun I P=>by rw[V];exact⟨R,P⟩)) (fun I P=>by
    rcases r with ae | ae;·rw[ae] at P;exact .inl (by rw[V];exact⟨R,P⟩)
    ·exact .inr (ae I P))
  have N:∀ b j,b<4->0<j->p4 e f g d b=j->w.ownsRow M (gE b) (gS b) (a.eval (.tmp (wi b j))) (k7 E F b j) (mT C D b j):=fun b j J R V=>(by have:=m.cur b J (by omega);rw[V] at this;exact this);refine wpAnyH_all rfl ak (fun n ac=>?_);have c:=D9.1 al n ac;clear al ak ac;simp only[An,Bool.or_eq_true,DW,beq_iff_eq] at c;rcases c with (((((((((((c | c) | c) | c) | c) | c) | c) | c) | c) | c) | c) | c);·obtain rfl:n=2:=c.1;obtain rfl:e=0:=c.2;refine wpOp_step (ops:=cT) (o:=⟨some 7,Op.buildSlice 51 0 #[],51,"l3_tree.go:271",#[],none⟩) rfl (fun H i=>?_);refine eC rfl 51 9 rfl (jl w) ?_;have h:=((Z 0 (by omega) rfl).re (vj 0 f g d 1));exact i _ _ ⟨z _ h.fr,B 1 f g d _ _ (by omega) (by omega) (by omega) (by omega) (by revert y;unfold gZ;simp<;>omega) (by omega) h⟩
  ·obtain rfl:n=9:=c.1;obtain rfl:f=0:=c.2;refine wpOp_step (ops:=cT) (o:=⟨some 14,Op.buildSlice 51 0 #[],51,"l3_tree.go:271",#[],none⟩) rfl (fun H i=>?_);refine eC rfl 51 9 rfl (jl w) ?_;have h:=((Z 1 (by omega) rfl).re (vk e 0 g d 1));exact i _ _ ⟨z _ h.fr,B e 1 g d _ _ (by omega) (by omega) (by omega) (by omega) (by revert y;unfold gZ;simp<;>omega) (by omega) h⟩
  ·obtain rfl:n=16:=c.1;obtain rfl:g=0:=c.2;refine wpOp_step (ops:=cT) (o:=⟨some 21,Op.buildSlice 52 0 #[],52,"l3_tree.go:271",#[],none⟩) rfl (fun H i=>?_);refine eC rfl 52 2 rfl (lZ w) ?_;have h:=((Z 2 (by omega) rfl).re (vp e f 0 d 1));exact i _ _ ⟨z _ h.fr,B e f 1 d _ _ (by omega) (by omega) (by omega) (by omega) (by revert y;unfold gZ;simp<;>omega) (by omega) h⟩
  ·obtain rfl:n=23:=c.1;obtain rfl:d=0:=c.2;refine wpOp_step (ops:=cT) (o:=⟨some 28,Op.buildSlice 53 0 #[],53,"l3_tree.go:271",#[],none⟩) rfl (fun H i=>?_);refine eC rfl 53 55 rfl (wS w) ?_;have h:=((Z 3 (by omega) rfl).re (vq e f g 0 1));exact i _ _ ⟨z _ h.fr,B e f g 1 _ _ (by omega) (by omega) (by omega) (by omega) (by revert y;unfold gZ;simp<;>omega) (by omega) h⟩
  ·obtain rfl:n=5:=c.1;obtain rfl:e=1:=c.2;refine wpOp_step (ops:=cT) (o:=⟨some 10,Op.call { callee:=Callee.builtin Builtin.append,args:=#[Operand.tmp 7,Operand.tmp 9],argTypes:=#[51,51] },51,"l3_tree.go:271",#[⟨2,.data⟩,⟨4,.data⟩],none⟩) rfl (fun H i=>?_);obtain⟨s,t,u,v,x⟩:=info_parts fi;refine aN rfl _ _ 51 rfl M 9 s _ 1 16 underlying51 t u v x rfl (by decide) (by decide) _ _ _ rfl (N 0 1 (by omega) (by omega) rfl) (iD (A 0 (by omega)).2.1 (by omega) (by omega)) _ M (E 0) (C 0) (m.kp _ (W 0 (by omega))) ((A 0 (by omega)).below K) G ?_;intro k l p q r;have h:=((L 0 1 (by omega) (by omega) (by omega) rfl k l (by have:=p;simpa[k7,mT,gE,gS] using this) q r).re (vj 1 f g d 2));exact i _ _ ⟨z _ h.fr,B 2 f g d _ _ (by omega) (by omega) (by omega) (by omega) (by revert y;unfold gZ;simp<;>omega) (by omega) h⟩
  ·obtain rfl:n=8:=c.1;obtain rfl:e=2:=c.2;refine wpOp_step (ops:=cT) (o:=⟨some 13,Op.call { callee:=Callee.builtin Builtin.append,args:=#[Operand.tmp 10,Operand.tmp 12],argTypes:=#[51,51] },51,"l3_tree.go:271",#[⟨5,.data⟩,⟨7,.data⟩,⟨5,.chain⟩],none⟩) rfl (fun H i=>?_);obtain⟨s,t,u,v,x⟩:=info_parts fi;refine aN rfl _ _ 51 rfl M 9 s _ 1 16 underlying51 t u v x rfl (by decide) (by decide) _ _ _ rfl (N 0 2 (by omega) (by omega) rfl) (iD (A 0 (by omega)).2.1 (by omega) (by omega)) _ M (F 0) (D 0) (m.kp _ (X 0 (by omega))) ((Y 0 (by omega)).below K) G ?_;intro k l p q r;have h:=((L 0 2 (by omega) (by omega) (by omega) rfl k l (by have:=p;simpa[k7,mT,gE,gS] using this) q r).re (vj 2 f g d 3));exact i _ _ ⟨z _ h.fr,B 3 f g d _ _ (by omega) (by omega) (by omega) (by omega) (by revert y;unfold gZ;simp<;>omega) (by omega) h⟩
  ·obtain rfl:n=12:=c.1.1;obtain rfl:f=1:=c.1.2;obtain rfl:e=3:=c.2;refine wpOp_step (ops:=cT) (o:=⟨some 17,Op.call { callee:=Callee.builtin Builtin.append,args:=#[Operand.tmp 14,Operand.tmp 16],argTypes:=#[51,51] },51,"l3_tree.go:271",#[⟨9,.data⟩,⟨11,.data⟩,⟨8,.chain⟩],none⟩) rfl (fun H i=>?_);obtain⟨s,t,u,v,x⟩:=info_parts fi;refine aN rfl _ _ 51 rfl M 9 s _ 1 16 underlying51 t u v x rfl (by decide) (by decide) _ _ _ rfl (N 1 1 (by omega) (by omega) rfl) (iD (A 1 (by omega)).2.1 (by omega) (by omega)) _ M (E 1) (C 1) (m.kp _ (W 1 (by omega))) ((A 1 (by omega)).below K) G ?_;intro k l p q r;have h:=((L 1 1 (by omega) (by omega) (by omega) rfl k l (by have:=p;simpa[k7,mT,gE,gS] using this) q r).re (vk 3 1 g d 2));exact i _ _ ⟨z _ h.fr,B 3 2 g d _ _ (by omega) (by omega) (by omega) (by omega) (by revert y;unfold gZ;simp<;>omega) (by omega) h⟩
  ·obtain rfl:n=15:=c.1;obtain rfl:f=2:=c.2;refine wpOp_step (ops:=cT) (o:=⟨some 20,Op.call { callee:=Callee.builtin Builtin.append,args:=#[Operand.tmp 17,Operand.tmp 19],argTypes:=#[51,51] },51,"l3_tree.go:271",#[⟨12,.data⟩,⟨14,.data⟩,⟨12,.chain⟩],none⟩) rfl (fun H i=>?_);obtain⟨s,t,u,v,x⟩:=info_parts fi;refine aN rfl _ _ 51 rfl M 9 s _ 1 16 underlying51 t u v x rfl (by decide) (by decide) _ _ _ rfl (N 1 2 (by omega) (by omega) rfl) (iD (A 1 (by omega)).2.1 (by omega) (by omega)) _ M (F 1) (D 1) (m.kp _ (X 1 (by omega))) ((Y 1 (by omega)).below K) G ?_;intro k l p q r;have h:=((L 1 2 (by omega) (by omega) (by omega) rfl k l (by have:=p;simpa[k7,mT,gE,gS] using this) q r).re (vk e 2 g d 3));exact i _ _ ⟨z _ h.fr,B e 3 g d _ _ (by omega) (by omega) (by omega) (by omega) (by revert y;unfold gZ;simp<;>omega) (by omega) h⟩
  ·obtain rfl:n=19:=c.1.1;obtain rfl:g=1:=c.1.2;obtain rfl:f=3:=c.2;refine wpOp_step (ops:=cT) (o:=⟨some 24,Op.call { callee:=Callee.builtin Builtin.append,args:=#[Operand.tmp 21,Operand.tmp 23],argTypes:=#[52,52] },52,"l3_tree.go:271",#[⟨16,.data⟩,⟨18,.data⟩,⟨15,.chain⟩],none⟩) rfl (fun H i=>?_);obtain⟨s,t,u,v,x⟩:=info_parts gR;refine aN rfl _ _ 52 rfl M 2 s _ 1 8 underlying52 t u v x rfl (by decide) (by decide) _ _ _ rfl (N 2 1 (by omega) (by omega) rfl) (iD (A 2 (by omega)).2.1 (by omega) (by omega)) _ M (E 2) (C 2) (m.kp _ (W 2 (by omega))) ((A 2 (by omega)).below K) G ?_;intro k l p q r;have h:=((L 2 1 (by omega) (by omega) (by omega) rfl k l (by have:=p;simpa[k7,mT,gE,gS] using this) q r).re (vp e 3 1 d 2));exact i _ _ ⟨z _ h.fr,B e 3 2 d _ _ (by omega) (by omega) (by omega) (by omega) (by revert y;unfold gZ;simp<;>omega) (by omega) h⟩
  ·obtain rfl:n=22:=c.1;obtain rfl:g=2:=c.2;refine wpOp_step (ops:=cT) (o:=⟨some 27,Op.call { callee:=Callee.builtin Builtin.append,args:=#[Operand.tmp 24,Operand.tmp 26],argTypes:=#[52,52] },52,"l3_tree.go:271",#[⟨19,.data⟩,⟨21,.data⟩,⟨19,.chain⟩],none⟩) rfl (fun H i=>?_);obtain⟨s,t,u,v,x⟩:=info_parts gR;refine aN rfl _ _ 52 rfl M 2 s _ 1 8 underlying52 t u v x rfl (by decide) (by decide) _ _ _ rfl (N 2 2 (by omega) (by omega) rfl) (iD (A 2 (by omega)).2.1 (by omega) (by omega)) _ M (F 2) (D 2) (m.kp _ (X 2 (by omega))) ((Y 2 (by omega)).below K) G ?_;intro k l p q r;have h:=((L 2 2 (by omega) (by omega) (by omega) rfl k l (by have:=p;simpa[k7,mT,gE,gS] using this) q r).re (vp e f 2 d 3));exact i _ _ ⟨z _ h.fr,B e f 3 d _ _ (by omega) (by omega) (by omega) (by omega) (by revert y;unfold gZ;simp<;>omega) (by omega) h⟩
  ·obtain rfl:n=26:=c.1.1;obtain rfl:d=1:=c.1.2;obtain rfl:g=3:=c.2;refine wpOp_step (ops:=cT) (o:=⟨some 31,Op.call { callee:=Callee.builtin Builtin.append,args:=#[Operand.tmp 28,Operand.tmp 30],argTypes:=#[53,53] },53,"l3_tree.go:271",#[⟨23,.data⟩,⟨25,.data⟩,⟨22,.chain⟩],none⟩) rfl (fun H i=>?_);obtain⟨s,t,u,v,x⟩:=info_parts gm;refine aN rfl _ _ 53 rfl M 55 s _ 6 112 underlying53 t u v x rfl (by decide) (by decide) _ _ _ rfl (N 3 1 (by omega) (by omega) rfl) (iD (A 3 (by omega)).2.1 (by omega) (by omega)) _ M (E 3) (C 3) (m.kp _ (W 3 (by omega))) ((A 3 (by omega)).below K) G ?_;intro k l p q r;have h:=((L 3 1 (by omega) (by omega) (by omega) rfl k l (by have:=p;simpa[k7,mT,gE,gS] using this) q r).re (vq e f 3 1 2));exact i _ _ ⟨z _ h.fr,B e f 3 2 _ _ (by omega) (by omega) (by omega) (by omega) (by revert y;unfold gZ;simp<;>omega) (by omega) h⟩
  ·obtain rfl:n=29:=c.1;obtain rfl:d=2:=c.2;refine wpOp_step (ops:=cT) (o:=⟨some 34,Op.call { callee:=Callee.builtin Builtin.append,args:=#[Operand.tmp 31,Operand.tmp 33],argTypes:=#[53,53] },53,"l3_tree.go:271",#[⟨26,.data⟩,⟨28,.data⟩,⟨26,.chain⟩],none⟩) rfl (fun H i=>?_);obtain⟨s,t,u,v,x⟩:=info_parts gm;refine aN rfl _ _ 53 rfl M 55 s _ 6 112 underlying53 t u v x rfl (by decide) (by decide) _ _ _ rfl (N 3 2 (by omega) (by omega) rfl) (iD (A 3 (by omega)).2.1 (by omega) (by omega)) _ M (F 3) (D 3) (m.kp _ (X 3 (by omega))) ((Y 3 (by omega)).below K) G ?_;intro k l p q r;have h:=((L 3 2 (by omega) (by omega) (by omega) rfl k l (by have:=p;simpa[k7,mT,gE,gS] using this) q r).re (vq e f g 2 3));exact i _ _ ⟨z _ h.fr,B e f g 3 _ _ (by omega) (by omega) (by omega) (by omega) (by revert y;unfold gZ;simp<;>omega) (by omega) h⟩
end Go.Proofs.YtgcedpmagmmikaaGreat
