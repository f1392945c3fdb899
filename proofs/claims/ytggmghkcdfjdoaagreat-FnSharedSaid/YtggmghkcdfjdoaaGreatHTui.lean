import Derived.Test.YtggmghkcdfjdoaaGreatHTks
import Derived.Test.YtggmghkcdfjdoaaGreatHTlq
import Derived.Test.YtggmghkcdfjdoaaGreatHTlr
import Derived.Test.YtggmghkcdfjdoaaGreatHTgf
import Derived.Laws.Cover1
namespace Go.Proofs.YtggmghkcdfjdoaaGreat
open Go.RowKit Tryz
set_option linter.unusedVariables false
set_option linter.unusedSimpArgs false
set_option maxRecDepth 100000
def Cr (t:T):Prop:=t.slots.all (fun s=>cy s.1)=true
structure DF (ts:List T):Prop where
 all:∀ t ∈ ts,t.good true=true∧Cr t
 two:2<=ts.length->∀ t ∈ ts,t.good false=true
def rU {α:Type} (w:World) (P:Nat->Prop) (m:Nat) (cs:α->List Value) (fit:α->Prop) (d:α) (a:Option Addr) (n c:Nat) (xs:List α):Prop :=
 xs.length=n∧n<=c∧c<=maxLen∧(∀ i,i<n->fit (xs.getD i d))∧(0<n->∃ b off,a=some ⟨b,off,none⟩∧P b∧∀ i,i<n->∀ j,j<m->w.cell? ⟨b,off+i*m+j,none⟩=(cs (xs.getD i d))[j]?)
def Dp (w:World) (P:Nat->Prop):T->List Value->Prop
 | ⟨l,p,k,v,o,y⟩,cs=>∃ (ka:Option Addr) (kn kc:Nat) (va:Option Addr) (vn vc:Nat) (oa:Option Addr) (on oc:Nat) (ya:Option Addr) (yc:Nat) (css:Nat->List Value),cs=[.bool l,.int .i64 p,.slice ka kn kc,.slice va vn vc,.slice oa on oc,.slice ya y.length yc]∧ga p∧rU w P 1 ae dm ByteArray.empty ka kn kc k∧rU w P 1 ae dm ByteArray.empty va vn vc v∧rU w P 1 ac ga 0 oa on oc o∧(y.length<=yc∧yc<=maxLen) ∧
  (0<y.length->∃ b off,ya=some ⟨b,off,none⟩∧P b∧∀ i,i<y.length->∀ j,j<6->w.cell? ⟨b,off+i*6+j,none⟩=(css i)[j]?)∧∀ i,∀ t ∈ y,y[i]?=some t->Dp w P t (css i)
structure SX (w:World) (P:Nat->Prop) (t:T) (ka:Option Addr) (kn kc:Nat) (va:Option Addr) (vn vc:Nat) (oa:Option Addr) (on oc:Nat) (ya:Option Addr) (yc:Nat) (css:Nat->List Value):Prop where
 page:ga t.page
 keys:rU w P 1 ae dm ByteArray.empty ka kn kc t.keys
 vals:rU w P 1 ae dm ByteArray.empty va vn vc t.vals
 over:rU w P 1 ac ga 0 oa on oc t.over
 cap:t.kids.length<=yc∧yc<=maxLen
 cell:0<t.kids.length->∃ b off,ya=some ⟨b,off,none⟩∧P b∧∀ i,i<t.kids.length->∀ j,j<6->w.cell? ⟨b,off+i*6+j,none⟩=(css i)[j]?
 kid:∀ i,∀ k ∈ t.kids,t.kids[i]?=some k->Dp w P k (css i)
structure DO (w0 wr:World) (lo m c:Nat) (a:Option Addr) (ts:List T) (css:Nat->List Value):Prop where
 row:wr.ownsRow lo 57 6 (.slice a m c) m (az css m)
 len:ts.length=m
 node:∀ (i:Nat) (t:T),ts[i]?=some t->(css i).length=6∧Dp wr (fun b=>lo<=b∧b<wr.heap.size∧(Value.slice a m c).ownBlock≠some b) t (css i)
 bel:Below lo w0 wr
structure DP (w' wr:World) (N:Nat) (u:Nat->Value) (l:Nat->List Value):Prop where
 box:wr.heap[N]?=some (.cells #[.bool true,.int .i64 0,u 0,u 1,u 2,u 3] 57)
 ll:LL wr (N+1) u l
 fr:Fr (fun g=>N<=g) w' wr
def C2 (w:World) (zs:List (ByteArray × ByteArray)) (e:Ending) (w':World):Prop:=∃ oa oc,e=.returned (.agg #[.slice oa (nQ zs).length oc])∧aw w' w.heap.size w'.heap.size oa (nQ zs).length oc (nQ zs)∧Below w.heap.size w w'
theorem tQ (w:World):Calls prog 51 #[] w fun l b=>∃ c,l=.returned (.agg #[.slice (some ⟨c,0,none⟩) 1 1])∧aw b w.heap.size b.heap.size (some ⟨c,0,none⟩) 1 1 [⟨true,0,[],[],[],[]⟩]∧Below w.heap.size w b∧w.heap.size<=c:=by
 have m:Below w.heap.size w ((w.alloc (.cells #[.slice (some ⟨w.heap.size+1,0,none⟩) 1 1] 25)).alloc (.cells (Z0 true 0) 44)):=(Zb _ _).alloc (by simp) _;have d:((w.alloc (.cells #[.slice (some ⟨w.heap.size+1,0,none⟩) 1 1] 25)).alloc (.cells (Z0 true 0) 44)).heap[w.heap.size+1]?=some (.cells (Z0 true 0) 44):=by
  have:=Ej (w.alloc (.cells #[.slice (some ⟨w.heap.size+1,0,none⟩) 1 1] 25)) (.cells (Z0 true 0) 44)
  rwa [show (w.alloc (.cells #[.slice (some ⟨w.heap.size+1,0,none⟩) 1 1] 25)).heap.size=w.heap.size+1 by simp] at this
 go_enter func51,ntmps51;go_wp2
 refine bodyPost_ret (v:=.agg #[.slice (some ⟨w.heap.size+1,0,none⟩) 1 1]) (by simp[results,results51,go_sem]) rfl ⟨w.heap.size+1,rfl,?_,m,by omega⟩;generalize (w.alloc (.cells #[.slice (some ⟨w.heap.size+1,0,none⟩) 1 1] 25)).alloc (.cells (Z0 true 0) 44)=f at d ⊢;have n:=Za d;obtain⟨o,p,q,r,s,t⟩:=gv d;have a:∀ {e:Type} (g:e->List Value) (h:e->Prop) (i:e),aR f w.heap.size f.heap.size 1 g h i none 0 0 []:=fun g h i=>⟨rfl,Ek _,by unfold maxLen;exact En _,fun j k=>absurd k (by omega),fun u=>absurd u (by omega)⟩;refine⟨rfl,Ek _,by unfold maxLen;omega,fun _=>⟨w.heap.size+1,0,rfl,⟨by omega,n⟩,fun j k=>?_⟩⟩;obtain rfl:j=0:=by omega
 exact⟨none,0,0,none,0,0,none,0,0,none,0,0,o,p,q,r,s,t,⟨by decide,by decide⟩,a _ _ _,a _ _ _,a _ _ _,a _ _ _⟩
def oC (lo hi k:ByteArray):Bool:=(Op.bytesLess lo.toList k.toList || lo.toList == k.toList) && (hi.toList.isEmpty || Op.bytesLess k.toList hi.toList)
def cQ (lo hi:ByteArray) (zs:List (ByteArray × ByteArray × Int)):List (ByteArray × ByteArray × Int):=zs.filter (fun s=>oC lo hi s.1)
theorem rX (a b:ByteArray) (zs:List (ByteArray × ByteArray × Int)) (j:Nat) (c:j<zs.length) (d:ByteArray × ByteArray × Int):cQ a b (zs.take (j+1))=cQ a b (zs.take j)++(if oC a b (zs.getD j d).1 then [zs.getD j d] else []):=by
 unfold cQ;rw[ER c,List.filter_append]
 congr 1
 simp only[List.getD,Eh c,Ft];cases e:oC a b zs[j].1<;>simp[e]
def js (zs:List (ByteArray × ByteArray × Int)) (w:World) (e:Ending) (w':World):Prop:=∃ a c,e=.returned (.slice a zs.length c)∧w'.ownsRow w.heap.size 40 2 (.slice a zs.length c) zs.length (aa aG zs)∧Below w.heap.size w w'
def AR (ts:List TN) (lo hi:ByteArray) (zs:List (ByteArray × ByteArray × Int)):Prop:=(¬ aZ ts->zs=[])∧(aZ ts->zs=cQ lo hi (rd ts (ts.length+1) 0).1.slots)
set_option maxHeartbeats 4000000 in
theorem tX (ts:List TN) (f g:ByteArray) (a:Option Addr) (n c A B:Nat) (w:World) (bv:B<=w.heap.size) (az:aw w A B a n c ts) :
  Calls prog 8 #[.agg #[.slice a n c],.string f,.string g] w fun y bw=>∃ a0,AR ts f g a0∧js a0 w y bw:=by
 obtain⟨h,ai⟩:=Zn w.heap.size;have aj:=Ej w (.cells #[.slice a n c] 25);have ak:=Zb w (.cells #[.slice a n c] 25);have al:(w.alloc (.cells #[.slice a n c] 25)).heap.size=h+1:=by simp[ai]
 rw[ai] at aj;have bV:=hidI az.1;have aA:=az.below (ak.mono bv);clear az;obtain⟨a1,a2,a3,a4,a5⟩:=info_parts gN;go_enter func8,ntmps8;go_upto_region 1 with fail
 generalize w.alloc (.cells #[.slice a n c] 25)=am at aj ak al aA ⊢;have j:=Zb am (.cells #[] 40);have ao:=er am 40 2;have bx:(am.alloc (.cells #[] 40)).heap.size=h+2:=by simp[al]
 rw[al] at ao;have ap:=(j.block h (by omega)).trans aj;have aq:=aA.below (j.mono (by omega));have aB:=ak.trans (j.mono (by omega));go_upto_region 2 with fail
 generalize am.alloc (.cells #[] 40)=a6 at j ao bx ap aq aB ⊢;clear j aj ak al aA;have aC:=ah ap;have bA:h<a6.heap.size:=by omega
 have a7:=dZ ts a n c A B a6 (by omega) aq;go_wp2_with fail
 refine a7.mono ?_;rintro y a8 ⟨t,rfl,U,V⟩;have aE:=aB.trans (V.mono (by omega));have aF:=an ao V;have a9:=(V.block h bA).trans ap;have a':=aq.below (V.mono (by omega));have bW:=V.size;clear a7 aC ap aq ao aB V;cases t
 ·have bB:Hid (¬ aZ ts):=fun u=>(by simpa using U.2 u);clear U;go_wp2_with fail
  go_ret;exact⟨[],⟨fun _=>rfl,fun u=>absurd u bB.out⟩,_,_,rfl,by rw[ai];exact cr aF (by omega),aE⟩
 ·have aH:Hid (aZ ts):=U.1 rfl;clear U;have aC:=ah a9;have bX:h<a8.heap.size:=(by omega);have ba:=aH.out.1.2;have bb:=fW ts ba a n c A B a8 (by omega) a';go_upto_region 5 with (go_at_call 19;refine bb.mono ?_;rintro y E ⟨F,G,H,I,J,K,L,on,M,N,O,bc,rfl,aI,ar⟩)
  clear bb aC a9 a';obtain⟨bC,ht⟩:=Zn ((rd ts (ts.length+1) 0).1);have bd:=hidI ht;rw[ht] at aI ⊢;clear ht;generalize (!(rd ts (ts.length+1) 0).2.2 && decide ((rd ts (ts.length+1) 0).2.1=n))=bY;obtain⟨_,d,aJ,W,bD,_,bE,_⟩:=aH.out;have bF:d=bC:=(by have:=bd.out;rw[aJ] at this;exact this);subst bF;obtain⟨be,_,_⟩:=iy ts _ _ _ _ aJ;have ae:=dY d ⟨true,W⟩;have aK:=jD E.heap.size d be ⟨true,W⟩ (by omega);have aL:Hid (d.slots.length<=4000):=(by show _<=_;omega);obtain⟨bf,bg⟩:=Zn E.heap.size;have j:=Zb E (.cells (Zs d.leaf d.page F G H I J K L on M N d.kids.length O) 57);have au:=Ej E (.cells (Zs d.leaf d.page F G H I J K L on M N d.kids.length O) 57);rw[bg] at au aK;have bZ:=ar.size
  have bh:bz (E.alloc (.cells (Zs d.leaf d.page F G H I J K L on M N d.kids.length O) 57)) 0 bf (fun av=>av<bf) d F G H I J K L on M N O bc :=
   aI.wide (fun k z C=>j.block k (by omega)) (fun av bi=>j.block av bi.2) (fun av bi=>by omega) (En _) (by omega)
  have bj:=an (an aF ar) j;have aM:=(aE.trans (ar.mono (by omega))).trans (j.mono (by omega));have ax:=aK _ F G H I J K L on M N O bc (by rw[<-bg];exact j.size) bh;obtain⟨bG,q1,q2,q3,bH,bJ⟩:=aS au;have b0:=Za au;obtain⟨i,aN⟩:=Zn d.slots;have bK:=hidI aN;unfold iP at ax;rw[aN] at ax aL;clear aK aI bh ae aN W bD be aJ bE ba;have b1:h<(E.alloc (.cells (Zs d.leaf d.page F G H I J K L on M N d.kids.length O) 57)).heap.size:=(by omega);generalize (E.alloc (.cells (Zs d.leaf d.page F G H I J K L on M N d.kids.length O) 57))=P at *;go_wp2_with fail
  refine ax.mono ?_;rintro y q ⟨Q,b2,rfl,aO,aP⟩;clear ax bG q1 q2 q3 bH bJ;have bk:=an bj aP;have bL:=aM.trans (aP.mono aM.size);have bl:=aO.lt Q rfl;have bm:Hid (∀ wr,Fr (fun k=>h+1<=k∧k<P.heap.size∨q.heap.size<=k) q wr->∀ b,b<i.length->wr.cell? ⟨Q,b*2,none⟩=some (.string (i.getD b (ByteArray.empty,ByteArray.empty,0)).1)∧wr.cell? ⟨Q,b*2+1,none⟩=some (.string (i.getD b (ByteArray.empty,ByteArray.empty,0)).2.1)):=fun wr bM b bn=>(by have bo:∀ t,t<2->wr.cell? ⟨Q,b*2+t,none⟩=(aG (i.getD b (ByteArray.empty,ByteArray.empty,0)))[t]?:=fun t U=>(by rw[Ep (w:=q) (a:=⟨Q,b*2+t,none⟩) (bM.block Q bl.2 (by omega)),aO.cellAt (b*2+t) (by omega)];exact bI Cf _ i b t bn U);exact⟨by simpa[aG] using bo 0 (by omega),by simpa[aG] using bo 1 (by omega)⟩);clear aO bj aF aM aE ar j au aP;obtain⟨ay,ae⟩:=Zn i.length;have bp:=hidI ae;rw[ae] at bm aL ⊢;have b3:=aL.out;clear ae;have bN:h+1<P.heap.size:=(by omega);have b4:P.heap.size<=q.heap.size:=(by omega);have b5:=bl.2;go_wp2_with fail
  go_loopw [7,11] (fun bO aQ wr=>∃ (b e l r:Nat),b<=ay∧aQ=.int .i64 b∧bO=.slice (some ⟨l,0,none⟩) e r∧e<=b∧Hid (e=(cQ f g (i.take b)).length)∧wr.ownsRow (h+1) 40 2 (.slice (some ⟨l,0,none⟩) e r) e (aa aG (cQ f g (i.take b)))∧Fr (fun k=>h+1<=k∧k<P.heap.size∨q.heap.size<=k) q wr∧(l<P.heap.size∨q.heap.size<=l)) (fun _ aQ _=>ay - (intOf aQ).toNat)
  case atStart=>exact⟨0,0,h+1,0,En _,rfl,rfl,Ek _,by show _=_;simp[cQ],by simpa[cQ,aa] using bk,Fr.refl _ _,.inl bN⟩
  case round =>
   clear bk;obtain⟨b,e,l,r,bn,rfl,rfl,b6,X,R,Y,W⟩:=hrel;have b7:=R.lt l rfl;have b8:=Y.size;by_cases bP:b<ay
   ·obtain⟨bq,br⟩:=bm.out wr Y b bP;have b9:Q<wr.heap.size:=(by omega);have s:=rX f g i b (by have:=bp.out;omega) (ByteArray.empty,ByteArray.empty,0);obtain⟨bQ,bs⟩:=Zn (i.getD b (ByteArray.empty,ByteArray.empty,0));rw[bs] at bq br s;clear bs;obtain⟨m,S,b'⟩:=bQ;simp only at bq br s;obtain⟨Z,o⟩:=Zn (oC f g m);rw[o] at s;have ab:Hid (Z=false->Hid (e=(cQ f g (i.take (b+1))).length)∧wr.ownsRow (h+1) 40 2 (.slice (some ⟨l,0,none⟩) e r) e (aa aG (cQ f g (i.take (b+1))))):=fun u=>(by rw[u] at s;simp at s;rw[s];exact⟨X,R⟩);have j:=Zb wr (.cells #[.string m,.string S] 40);have ac:=hidI (an R j);have bt:h+1<=(wr.alloc (.cells #[.string m,.string S] 40)).heap.size:=(by have:=j.size;omega);have ad:Hid (Z=true->∀ p v x,x.ownsRow (h+1) 40 2 (.slice (some ⟨p,0,none⟩) (e+1) v) (e+1) (aa aG (cQ f g (i.take b))++[.string m,.string S])->(wr.alloc (.cells #[.string m,.string S] 40)).grownBy x (some l)->(p=l∨(wr.alloc (.cells #[.string m,.string S] 40)).heap.size<=p)->x.ownsRow (h+1) 40 2 (.slice (some ⟨p,0,none⟩) (e+1) v) (e+1) (aa aG (cQ f g (i.take (b+1))))∧Fr (fun k=>h+1<=k∧k<P.heap.size∨q.heap.size<=k) q x∧(p<P.heap.size∨q.heap.size<=p)∧Hid (e+1=(cQ f g (i.take (b+1))).length)):=fun u p v x z C T=>by
     rw[u] at s;simp only[if_true] at s;rw[s];refine⟨by rw[aD];exact z,?_,?_,?_⟩;·refine (Y.trans (Fr.of_below j)).trans (Fr.of_grown C (fun k y=>?_));cases y;omega
     ·have:=j.size;rcases T with y | y<;>omega
     ·show _=_;rw[El,<-X.out];rfl
    unfold oC at o;have D:=hidI o;clear s o j R X;by_cases af:(Op.bytesLess f.toList m.toList || f.toList == m.toList)=true
    ·by_cases aR:g.toList=[]
     ·have o:Z=true:=(by rw[<-D.out,af,aR];rfl);have ag:Hid _:=ad.out o;clear ad ab D o;(go_wp2_with (at_builtin;refine dD _ rfl _ _ 37 rfl (h+1) 40 a1 _ 2 32 underlying37 a2 a3 a4 a5 rfl (by decide) l e r _ rfl ac.out ⟨wr.heap.size,0,none⟩ 1 [.string m,.string S] rfl rfl (cf _ _ _ _) (by simp[Value.oneCell']) (by unfold maxLen;omega) (by omega) bt ?_;intro p v x z C T;obtain⟨aT,aU,aV,aW⟩:=ag.out p v x z C T;clear z C T ag ac));go_roundw
      case rel=>exact⟨b+1,e+1,p,v,by omega,by go_num,rfl,by omega,aW,aT,aU,aV⟩
      case measure=>simp[intOf];omega
     ·by_cases aX:Op.bytesLess m.toList g.toList=true
      ·have o:Z=true:=(by rw[<-D.out,af,aX];simp);have ag:Hid _:=ad.out o;clear ad ab D o;(go_wp2_with (at_builtin;refine dD _ rfl _ _ 37 rfl (h+1) 40 a1 _ 2 32 underlying37 a2 a3 a4 a5 rfl (by decide) l e r _ rfl ac.out ⟨wr.heap.size,0,none⟩ 1 [.string m,.string S] rfl rfl (cf _ _ _ _) (by simp[Value.oneCell']) (by unfold maxLen;omega) (by omega) bt ?_;intro p v x z C T;obtain⟨aT,aU,aV,aW⟩:=ag.out p v x z C T;clear z C T ag ac));go_roundw
       case rel=>exact⟨b+1,e+1,p,v,by omega,by go_num,rfl,by omega,aW,aT,aU,aV⟩
       case measure=>simp[intOf];omega
      ·have bR:Op.bytesLess m.toList g.toList=false:=(by simpa using aX);have o:Z=false:=(by rw[<-D.out,af,bR];simpa using aR);have ca:g.toList.isEmpty=false:=(by simpa using aR);subst o;clear ad D ac aX;(go_wp2_with fail);go_roundw
       case rel=>exact⟨b+1,e,l,r,by omega,by go_num,rfl,by omega,(ab.out rfl).1,(ab.out rfl).2,Y,W⟩
       case measure=>simp[intOf];omega
    ·have bS:(Op.bytesLess f.toList m.toList || f.toList == m.toList)=false:=(by simpa using af);have o:Z=false:=(by rw[<-D.out,bS];rfl);subst o;clear ad D ac af;(go_wp2_with fail);go_roundw
     case rel=>exact⟨b+1,e,l,r,by omega,by go_num,rfl,by omega,(ab.out rfl).1,(ab.out rfl).2,Y,W⟩
     case measure=>simp[intOf];omega
   ·have cb:b=ay:=(by omega);have bu:Hid (cQ f g (i.take b)=cQ f g i):=(by show _=_;rw[Ey (by have:=bp.out;omega)]);rw[bu.out] at R X;have aY:=X.out;have bT:=bL.trans (Y.below (by omega) (fun k cc=>by omega));have bU:Hid (js (cQ f g i) w (.returned (.slice (some ⟨l,0,none⟩) e r)) wr):=⟨some ⟨l,0,none⟩,r,by rw[aY],by rw[ai,<-aY];exact cr R (by omega),bT⟩;clear R X aY bu;(go_wp2_with fail);go_ret;exact⟨cQ f g i,⟨fun u=>absurd aH.out u,fun _=>by rw[bd.out,bK.out]⟩,bU.out⟩
end Go.Proofs.YtggmghkcdfjdoaaGreat
