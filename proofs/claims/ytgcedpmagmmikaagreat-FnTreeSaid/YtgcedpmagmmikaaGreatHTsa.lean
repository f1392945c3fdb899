import Derived.Test.YtgcedpmagmmikaaGreatHTks
import Derived.Test.YtgcedpmagmmikaaGreatHTlr
import Derived.Test.YtgcedpmagmmikaaGreatHTgh
import Derived.Laws.Cover1
namespace Go.Proofs.YtgcedpmagmmikaaGreat
set_option maxHeartbeats 4000000
open Go.RowKit Tryz
set_option linter.unusedVariables false
set_option linter.unusedSimpArgs false
set_option maxRecDepth 100000
def oC (lo hi k:ByteArray):Bool:=(Op.bytesLess lo.toList k.toList || lo.toList == k.toList) && (hi.toList.isEmpty || Op.bytesLess k.toList hi.toList)
def cQ (lo hi:ByteArray) (zs:List (ByteArray × ByteArray × Int)):List (ByteArray × ByteArray × Int):=zs.filter (fun s=>oC lo hi s.1)
theorem rX (a b:ByteArray) (zs:List (ByteArray × ByteArray × Int)) (j:Nat) (c:j<zs.length) (d:ByteArray × ByteArray × Int):cQ a b (zs.take (j+1))=cQ a b (zs.take j)++(if oC a b (zs.getD j d).1 then [zs.getD j d] else []):=by
 unfold cQ;rw[Eo c,List.filter_append]
 congr 1
 simp only[List.getD,DQ c,ET];cases e:oC a b zs[j].1<;>simp[e]
def js (zs:List (ByteArray × ByteArray × Int)) (w:World) (e:Ending) (w':World):Prop:=∃ a c,e=.returned (.slice a zs.length c)∧w'.ownsRow w.heap.size 36 2 (.slice a zs.length c) zs.length (aa aG zs)∧Below w.heap.size w w'
def AR (ts:List TN) (lo hi:ByteArray) (zs:List (ByteArray × ByteArray × Int)):Prop:=(¬ aZ ts->zs=[])∧(aZ ts->zs=cQ lo hi (rd ts (ts.length+1) 0).1.slots)
theorem tX (ts:List TN) (f g:ByteArray) (a:Option Addr) (n c A B:Nat) (w:World) (bv:B<=w.heap.size) (az:aw w A B a n c ts) :
  Calls prog 7 #[.agg #[.slice a n c],.string f,.string g] w fun y bw=>∃ a0,AR ts f g a0∧js a0 w y bw:=by
 obtain⟨h,ai⟩:=Zn w.heap.size;have aj:=DS w (.cells #[.slice a n c] 25);have ak:=Zb w (.cells #[.slice a n c] 25);have al:(w.alloc (.cells #[.slice a n c] 25)).heap.size=h+1:=by simp[ai]
 rw[ai] at aj;have bV:=hidI az.1;have aA:=az.below (ak.mono bv);clear az;obtain⟨a1,a2,a3,a4,a5⟩:=info_parts gN;go_enter func7,ntmps7;go_upto_region 1 with fail
 generalize w.alloc (.cells #[.slice a n c] 25)=am at aj ak al aA ⊢;have j:=Zb am (.cells #[] 36);have ao:=er am 36 2;have bx:(am.alloc (.cells #[] 36)).heap.size=h+2:=by simp[al]
 rw[al] at ao;have ap:=(j.block h (by omega)).trans aj;have aq:=aA.below (j.mono (by omega));have aB:=ak.trans (j.mono (by omega));go_upto_region 2 with fail
 generalize am.alloc (.cells #[] 36)=a6 at j ao bx ap aq aB ⊢;clear j aj ak al aA;have aC:=ah ap;have bA:h<a6.heap.size:=by omega
 have a7:=dZ ts a n c A B a6 (by omega) aq;go_wp2_with fail
 refine a7.mono ?_;rintro y a8 ⟨t,rfl,U,V⟩;have aE:=aB.trans (V.mono (by omega));have aF:=an ao V;have a9:=(V.block h bA).trans ap;have a':=aq.below (V.mono (by omega));have bW:=V.size;clear a7 aC ap aq ao aB V;cases t
 ·have bB:Hid (¬ aZ ts):=fun u=>(by simpa using U.2 u);clear U;go_wp2_with fail
  go_ret;exact⟨[],⟨fun _=>rfl,fun u=>absurd u bB.out⟩,_,_,rfl,by rw[ai];exact cr aF (by omega),aE⟩
 ·have aH:Hid (aZ ts):=U.1 rfl;clear U;have aC:=ah a9;have bX:h<a8.heap.size:=(by omega);have ba:=aH.out.1.2;have bb:=fW ts ba a n c A B a8 (by omega) a';go_upto_region 5 with (go_at_call 22;refine bb.mono ?_;rintro y E ⟨F,G,H,I,J,K,L,on,M,N,O,bc,rfl,aI,ar⟩)
  clear bb aC a9 a';obtain⟨bC,ht⟩:=Zn ((rd ts (ts.length+1) 0).1);have bd:=hidI ht;rw[ht] at aI ⊢;clear ht;generalize (!(rd ts (ts.length+1) 0).2.2 && decide ((rd ts (ts.length+1) 0).2.1=n))=bY;obtain⟨_,d,aJ,W,bD,_,bE,_⟩:=aH.out;have bF:d=bC:=(by have:=bd.out;rw[aJ] at this;exact this);subst bF;obtain⟨be,_,_⟩:=iy ts _ _ _ _ aJ;have ae:=dY d ⟨true,W⟩;have aK:=jD E.heap.size d be ⟨true,W⟩ (by omega);have aL:Hid (d.slots.length<=4000):=(by show _<=_;omega);obtain⟨bf,bg⟩:=Zn E.heap.size;have j:=Zb E (.cells (Zs d.leaf d.page F G H I J K L on M N d.kids.length O) 55);have au:=DS E (.cells (Zs d.leaf d.page F G H I J K L on M N d.kids.length O) 55);rw[bg] at au aK;have bZ:=ar.size
  have bh:bz (E.alloc (.cells (Zs d.leaf d.page F G H I J K L on M N d.kids.length O) 55)) 0 bf (fun av=>av<bf) d F G H I J K L on M N O bc :=
   aI.wide (fun k z C=>j.block k (by omega)) (fun av bi=>j.block av bi.2) (fun av bi=>by omega) (D0 _) (by omega)
  have bj:=an (an aF ar) j;have aM:=(aE.trans (ar.mono (by omega))).trans (j.mono (by omega));have ax:=aK _ F G H I J K L on M N O bc (by rw[<-bg];exact j.size) bh;obtain⟨bG,q1,q2,q3,bH,bJ⟩:=aS au;have b0:=Za au;obtain⟨i,aN⟩:=Zn d.slots;have bK:=hidI aN;unfold iP at ax;rw[aN] at ax aL;clear aK aI bh ae aN W bD be aJ bE ba;have b1:h<(E.alloc (.cells (Zs d.leaf d.page F G H I J K L on M N d.kids.length O) 55)).heap.size:=(by omega);generalize (E.alloc (.cells (Zs d.leaf d.page F G H I J K L on M N d.kids.length O) 55))=P at *;go_wp2_with fail
  refine ax.mono ?_;rintro y q ⟨Q,b2,rfl,aO,aP⟩;clear ax bG q1 q2 q3 bH bJ;have bk:=an bj aP;have bL:=aM.trans (aP.mono aM.size);have bl:=aO.lt Q rfl;have bm:Hid (∀ wr,Fr (fun k=>h+1<=k∧k<P.heap.size∨q.heap.size<=k) q wr->∀ b,b<i.length->wr.cell? ⟨Q,b*2,none⟩=some (.string (i.getD b (ByteArray.empty,ByteArray.empty,0)).1)∧wr.cell? ⟨Q,b*2+1,none⟩=some (.string (i.getD b (ByteArray.empty,ByteArray.empty,0)).2.1)):=fun wr bM b bn=>(by have bo:∀ t,t<2->wr.cell? ⟨Q,b*2+t,none⟩=(aG (i.getD b (ByteArray.empty,ByteArray.empty,0)))[t]?:=fun t U=>(by rw[DZ (w:=q) (a:=⟨Q,b*2+t,none⟩) (bM.block Q bl.2 (by omega)),aO.cellAt (b*2+t) (by omega)];exact bI Cf _ i b t bn U);exact⟨by simpa[aG] using bo 0 (by omega),by simpa[aG] using bo 1 (by omega)⟩);clear aO bj aF aM aE ar j au aP;obtain⟨ay,ae⟩:=Zn i.length;have bp:=hidI ae;rw[ae] at bm aL ⊢;have b3:=aL.out;clear ae;have bN:h+1<P.heap.size:=(by omega);have b4:P.heap.size<=q.heap.size:=(by omega);have b5:=bl.2;go_wp2_with fail
  go_loopw [7,11] (fun bO aQ wr=>∃ (b e l r:Nat),b<=ay∧aQ=.int .i64 b∧bO=.slice (some ⟨l,0,none⟩) e r∧e<=b∧Hid (e=(cQ f g (i.take b)).length)∧wr.ownsRow (h+1) 36 2 (.slice (some ⟨l,0,none⟩) e r) e (aa aG (cQ f g (i.take b)))∧Fr (fun k=>h+1<=k∧k<P.heap.size∨q.heap.size<=k) q wr∧(l<P.heap.size∨q.heap.size<=l)) (fun _ aQ _=>ay - (intOf aQ).toNat)
  case atStart=>exact⟨0,0,h+1,0,D0 _,rfl,rfl,DU _,by show _=_;simp[cQ],by simpa[cQ,aa] using bk,Fr.refl _ _,.inl bN⟩
  case round =>
   clear bk;obtain⟨b,e,l,r,bn,rfl,rfl,b6,X,R,Y,W⟩:=hrel;have b7:=R.lt l rfl;have b8:=Y.size;by_cases bP:b<ay
   ·obtain⟨bq,br⟩:=bm.out wr Y b bP;have b9:Q<wr.heap.size:=(by omega);have s:=rX f g i b (by have:=bp.out;omega) (ByteArray.empty,ByteArray.empty,0);obtain⟨bQ,bs⟩:=Zn (i.getD b (ByteArray.empty,ByteArray.empty,0));rw[bs] at bq br s;clear bs;obtain⟨m,S,b'⟩:=bQ;simp only at bq br s;obtain⟨Z,o⟩:=Zn (oC f g m);rw[o] at s;have ab:Hid (Z=false->Hid (e=(cQ f g (i.take (b+1))).length)∧wr.ownsRow (h+1) 36 2 (.slice (some ⟨l,0,none⟩) e r) e (aa aG (cQ f g (i.take (b+1))))):=fun u=>(by rw[u] at s;simp at s;rw[s];exact⟨X,R⟩);have j:=Zb wr (.cells #[.string m,.string S] 36);have ac:=hidI (an R j);have bt:h+1<=(wr.alloc (.cells #[.string m,.string S] 36)).heap.size:=(by have:=j.size;omega);have ad:Hid (Z=true->∀ p v x,x.ownsRow (h+1) 36 2 (.slice (some ⟨p,0,none⟩) (e+1) v) (e+1) (aa aG (cQ f g (i.take b))++[.string m,.string S])->(wr.alloc (.cells #[.string m,.string S] 36)).grownBy x (some l)->(p=l∨(wr.alloc (.cells #[.string m,.string S] 36)).heap.size<=p)->x.ownsRow (h+1) 36 2 (.slice (some ⟨p,0,none⟩) (e+1) v) (e+1) (aa aG (cQ f g (i.take (b+1))))∧Fr (fun k=>h+1<=k∧k<P.heap.size∨q.heap.size<=k) q x∧(p<P.heap.size∨q.heap.size<=p)∧Hid (e+1=(cQ f g (i.take (b+1))).length)):=fun u p v x z C T=>by
     rw[u] at s;simp only[if_true] at s;rw[s];refine⟨by rw[aD];exact z,?_,?_,?_⟩;·refine (Y.trans (Fr.of_below j)).trans (Fr.of_grown C (fun k y=>?_));cases y;omega
     ·have:=j.size;rcases T with y | y<;>omega
     ·show _=_;rw[DV,<-X.out];rfl
    unfold oC at o;have D:=hidI o;clear s o j R X;by_cases af:(Op.bytesLess f.toList m.toList || f.toList == m.toList)=true
    ·by_cases aR:g.toList=[]
     ·have o:Z=true:=(by rw[<-D.out,af,aR];rfl);have ag:Hid _:=ad.out o;clear ad ab D o;(go_wp2_with (at_builtin;refine dD _ rfl _ _ 32 rfl (h+1) 36 a1 _ 2 32 underlying32 a2 a3 a4 a5 rfl (by decide) l e r _ rfl ac.out ⟨wr.heap.size,0,none⟩ 1 [.string m,.string S] rfl rfl (cf _ _ _ _) (by simp[Value.oneCell']) (by unfold maxLen;omega) (by omega) bt ?_;intro p v x z C T;obtain⟨aT,aU,aV,aW⟩:=ag.out p v x z C T;clear z C T ag ac));go_roundw
      case rel=>exact⟨b+1,e+1,p,v,by omega,by go_num,rfl,by omega,aW,aT,aU,aV⟩
      case measure=>simp[intOf];omega
     ·by_cases aX:Op.bytesLess m.toList g.toList=true
      ·have o:Z=true:=(by rw[<-D.out,af,aX];simp);have ag:Hid _:=ad.out o;clear ad ab D o;(go_wp2_with (at_builtin;refine dD _ rfl _ _ 32 rfl (h+1) 36 a1 _ 2 32 underlying32 a2 a3 a4 a5 rfl (by decide) l e r _ rfl ac.out ⟨wr.heap.size,0,none⟩ 1 [.string m,.string S] rfl rfl (cf _ _ _ _) (by simp[Value.oneCell']) (by unfold maxLen;omega) (by omega) bt ?_;intro p v x z C T;obtain⟨aT,aU,aV,aW⟩:=ag.out p v x z C T;clear z C T ag ac));go_roundw
       case rel=>exact⟨b+1,e+1,p,v,by omega,by go_num,rfl,by omega,aW,aT,aU,aV⟩
       case measure=>simp[intOf];omega
      ·have bR:Op.bytesLess m.toList g.toList=false:=(by simpa using aX);have o:Z=false:=(by rw[<-D.out,af,bR];simpa using aR);have ca:g.toList.isEmpty=false:=(by simpa using aR);subst o;clear ad D ac aX;(go_wp2_with fail);go_roundw
       case rel=>exact⟨b+1,e,l,r,by omega,by go_num,rfl,by omega,(ab.out rfl).1,(ab.out rfl).2,Y,W⟩
       case measure=>simp[intOf];omega
    ·have bS:(Op.bytesLess f.toList m.toList || f.toList == m.toList)=false:=(by simpa using af);have o:Z=false:=(by rw[<-D.out,bS];rfl);subst o;clear ad D ac af;(go_wp2_with fail);go_roundw
     case rel=>exact⟨b+1,e,l,r,by omega,by go_num,rfl,by omega,(ab.out rfl).1,(ab.out rfl).2,Y,W⟩
     case measure=>simp[intOf];omega
   ·have cb:b=ay:=(by omega);have bu:Hid (cQ f g (i.take b)=cQ f g i):=(by show _=_;rw[D6 (by have:=bp.out;omega)]);rw[bu.out] at R X;have aY:=X.out;have bT:=bL.trans (Y.below (by omega) (fun k cc=>by omega));have bU:Hid (js (cQ f g i) w (.returned (.slice (some ⟨l,0,none⟩) e r)) wr):=⟨some ⟨l,0,none⟩,r,by rw[aY],by rw[ai,<-aY];exact cr R (by omega),bT⟩;clear R X aY bu;(go_wp2_with fail);go_ret;exact⟨cQ f g i,⟨fun u=>absurd aH.out u,fun _=>by rw[bd.out,bK.out]⟩,bU.out⟩
def vV (ts:List TN) (lo hi:ByteArray) (zs:List (ByteArray × ByteArray × Int)):Prop:=(¬ cF ts->zs=[])∧(cF ts->∃ t met,gr ts (ts.length+1) 0 (fun _=>false)=some (t,ts.length,met)∧zs=cQ lo hi t.slots)
theorem AS {w:World} {base:Nat} {g:Option Addr} {m k:Nat} {zs:List (ByteArray × ByteArray × Int)} (d:w.ownsRow base 73 3 (.slice g m k) m (aa aB zs)) (n:zs.length=m) {wr:World} (h:Below w.heap.size w wr) {j:Nat} (o:j<m):∃ b,g=some ⟨b,0,none⟩∧b<wr.heap.size∧wr.cell? ⟨b,j*3,none⟩=some (.string (zs.getD j (ByteArray.empty,ByteArray.empty,0)).1)∧wr.cell? ⟨b,j*3+1,none⟩=some (.string (zs.getD j (ByteArray.empty,ByteArray.empty,0)).2.1)∧wr.cell? ⟨b,j*3+2,none⟩=some (.int .i64 (zs.getD j (ByteArray.empty,ByteArray.empty,0)).2.2):=by
 rcases d.2 with ⟨e,p⟩ | ⟨b,q,r,e,_⟩;·omega
 ·simp only[Value.slice.injEq] at e;obtain⟨rfl,_,rfl⟩:=e;have i:=d.lt b rfl;have f:∀ c,c<3->wr.cell? ⟨b,j*3+c,none⟩=(aB (zs.getD j (ByteArray.empty,ByteArray.empty,0)))[c]?:=fun c l=>(by rw[DZ (w:=w) (a:=⟨b,j*3+c,none⟩) (h.block b i.2),d.cellAt (j*3+c) (by omega)];exact bI uo _ zs j c (by omega) l);exact⟨b,rfl,DY i.2 h.size,by simpa[aB] using f 0 (by omega),by simpa[aB] using f 1 (by omega),by simpa[aB] using f 2 (by omega)⟩
theorem uc (ts:List TN) (f g:ByteArray) (a:Option Addr) (n c A B:Nat) (w:World) (aB:B<=w.heap.size) (aC:aw w A B a n c ts) :
  Calls prog 14 #[.agg #[.slice a n c],.string f,.string g] w fun M a3=>∃ aE,vV ts f g aE∧js aE w M a3:=by
 obtain⟨a4,a5⟩:=Zn w.heap.size;have N:=Zb w (.cells #[.slice a n c] 25);have bw:(w.alloc (.cells #[.slice a n c] 25)).heap.size=a4+1:=by simp[a5]
 have aF:=jG ts a n c A B _ (DX aB N.size) (aC.below (N.mono aB));obtain⟨aH,aI,aJ,aK,aL⟩:=info_parts gN;clear aC;go_enter func14,ntmps14;go_wp2_with fail
 refine aF.mono ?_;rintro M V ⟨ac,ad,q⟩;have ae:=N.trans (q.mono N.size);have bx:=q.size;clear aF;by_cases j:cF ts
 ·obtain⟨x,aM,bz,af,a6,a7,rfl,ag⟩:=ad j;obtain⟨a8,a9,rfl⟩:=ag.shape;obtain⟨a',ba,aN,aO,aP,bb,bc,bd⟩:=iw ts _ 0 _ x _ _ (D0 _) af;have aQ:Hid (cF ts∧gr ts (ts.length+1) 0 (fun _=>false)=some (x,ts.length,aM)):=⟨j,af⟩;have F:=dY x ⟨true,aP⟩;have be:=j.1;have aR:x.slots.length<=4000:=(by have:=aO.1;omega);obtain⟨bf,bA,bB,bg,aS,O⟩:=gf.slots (base:=V.heap.size) (P:=fun ah=>(w.alloc (.cells #[.slice a n c] 25)).heap.size<=ah∧ah<V.heap.size) (fun ah q=>q.2) x a8 a9 aN (GM.see _ _ _ ag);have W:=O V (D2 _ V) none 0 0 [] (EH _ _ _ _) (by omega) (DU _);simp only[Ed,D7] at W;obtain⟨h,ai⟩:=Zn x.slots;have bh:=hidI ai;rw[ai] at W aR;have aT:=hidI W;have bi:=aS (.slice none 0 0);clear ac ad j af a6 a7 ag a' ba aN aO aP bb bc bd F be O W aS ai;go_wp2_with fail
  refine aT.out.mono ?_;rintro M i ⟨bj,bC,rfl,aj,aU⟩;have X:=ae.trans (aU.below (by omega) (fun y Y=>by omega));obtain⟨Z,F⟩:=Zn h.length;have aV:=hidI F;rw[F] at aj aR ⊢;have bk:Hid (∀ wr,Below i.heap.size i wr->∀ b,b<Z->∃ Q,bj=some ⟨Q,0,none⟩∧Q<wr.heap.size∧wr.cell? ⟨Q,b*3,none⟩=some (.string (h.getD b (ByteArray.empty,ByteArray.empty,0)).1)∧wr.cell? ⟨Q,b*3+1,none⟩=some (.string (h.getD b (ByteArray.empty,ByteArray.empty,0)).2.1)∧wr.cell? ⟨Q,b*3+2,none⟩=some (.int .i64 (h.getD b (ByteArray.empty,ByteArray.empty,0)).2.2)):=fun wr q b aW=>AS aj F q aW;have bl:Hid (∀ wr,Below i.heap.size i wr->Below w.heap.size w wr):=fun wr q=>X.trans (q.mono X.size);have bm:=X.size;clear aj aU aT F ae X N q bf bg bi;go_wp2_with fail
  go_loopw [9,22] (fun bn al wr=>∃ (b d:Nat) (m:Option Addr) (o:Nat),b<=Z∧al=.int .i64 b∧bn=.slice m d o∧d<=b∧Hid (d=(cQ f g (h.take b)).length)∧wr.ownsRow i.heap.size 36 2 (.slice m d o) d (aa aG (cQ f g (h.take b)))∧Below i.heap.size i wr) (fun _ al _=>Z - (intOf al).toNat)
  case atStart=>exact⟨0,0,none,0,D0 _,rfl,rfl,DU _,by show _=_;simp[cQ],by simpa[cQ,aa] using EH _ _ _ _,D2 _ _⟩
  case round =>
   obtain⟨b,d,m,o,aW,rfl,rfl,bD,G,z,ab⟩:=hrel;have bo:=ab.size;by_cases bp:b<Z
   ·obtain⟨bE,rfl,bF,aX,aY,aZ⟩:=bk.out wr ab b bp;have p:=rX f g h b (by have:=aV.out;omega) (ByteArray.empty,ByteArray.empty,0);obtain⟨bq,a0⟩:=Zn (h.getD b (ByteArray.empty,ByteArray.empty,0));rw[a0] at aX aY aZ p;clear a0;obtain⟨e,k,C⟩:=bq;simp only at aX aY aZ p;obtain⟨H,l⟩:=Zn (oC f g e);rw[l] at p;have I:=Zb wr (.cells #[.string e,.string k,.int .i64 C] 73);have R:=Zb (wr.alloc (.cells #[.string e,.string k,.int .i64 C] 73)) (.cells #[.string e,.string k] 36);have br:(wr.alloc (.cells #[.string e,.string k,.int .i64 C] 73)).heap.size=wr.heap.size+1:=(by simp);have am:=ab.trans (I.mono bo);have a1:=am.trans (R.mono (by omega));have J:Hid (H=false->Hid (d=(cQ f g (h.take (b+1))).length)∧(wr.alloc (.cells #[.string e,.string k,.int .i64 C] 73)).ownsRow i.heap.size 36 2 (.slice m d o) d (aa aG (cQ f g (h.take (b+1))))):=fun j=>(by rw[j] at p;simp at p;rw[p];exact⟨G,an z I⟩);have K:=hidI (an (an z I) R);have ap:i.heap.size<=((wr.alloc (.cells #[.string e,.string k,.int .i64 C] 73)).alloc (.cells #[.string e,.string k] 36)).heap.size:=(by have:=I.size;have:=R.size;omega);have O:=fun y Y=>(an (an z I) R).lt y Y;have L:Hid (H=true->∀ D r,r.ownsRow i.heap.size 36 2 D (d+1) (aa aG (cQ f g (h.take b))++[.string e,.string k])->((wr.alloc (.cells #[.string e,.string k,.int .i64 C] 73)).alloc (.cells #[.string e,.string k] 36)).grownBy r (Value.slice m d o).ownBlock->∃ s t,D=.slice s (d+1) t∧r.ownsRow i.heap.size 36 2 (.slice s (d+1) t) (d+1) (aa aG (cQ f g (h.take (b+1))))∧Below i.heap.size i r∧Hid (d+1=(cQ f g (h.take (b+1))).length)):=fun j D r u E=>(by rw[j] at p;simp only[if_true] at p;obtain⟨s,t,rfl⟩:=ao u;refine⟨s,t,rfl,by rw[p,aD];exact u,a1.trans ((Fr.of_grown (S:=fun y=>i.heap.size<=y) E (fun y M=>(O y M).1)).below ap (fun y Y=>Y)),?_⟩;show _=_;rw[p,DV,<-G.out];rfl);unfold oC at l;have v:=hidI l;have aq:=cf (wr.alloc (.cells #[.string e,.string k,.int .i64 C] 73)) (.string e) (.string k) 36;rw[br] at aq;clear p l I R z G O a1;by_cases T:(Op.bytesLess f.toList e.toList || f.toList == e.toList)=true
    ·by_cases ar:g.toList=[]
     ·have l:H=true:=(by rw[<-v.out,T,ar];rfl);have U:Hid _:=L.out l;clear L J v l;(go_wp2_with (at_builtin;refine ak _ rfl _ _ 32 rfl i.heap.size 36 aH _ 2 32 underlying32 aI aJ aK aL rfl (by decide) (.slice m d o) d _ rfl K.out ⟨wr.heap.size+1,0,none⟩ 1 1 [.string e,.string k] rfl rfl aq (by simp[Value.oneCell']) (by unfold maxLen;omega) (by omega) ap ?_;intro D r u E au;obtain⟨s,t,rfl,av,ax,ay⟩:=U.out D r u E;clear u E au U K));go_roundw
      case rel=>exact⟨b+1,d+1,s,t,by omega,by go_num,rfl,by omega,ay,av,ax⟩
      case measure=>simp[intOf];omega
     ·have bG:g.toList.isEmpty=false:=(by simpa using ar);by_cases az:Op.bytesLess e.toList g.toList=true
      ·have l:H=true:=(by rw[<-v.out,T,az];simp);have U:Hid _:=L.out l;clear L J v l;(go_wp2_with (at_builtin;refine ak _ rfl _ _ 32 rfl i.heap.size 36 aH _ 2 32 underlying32 aI aJ aK aL rfl (by decide) (.slice m d o) d _ rfl K.out ⟨wr.heap.size+1,0,none⟩ 1 1 [.string e,.string k] rfl rfl aq (by simp[Value.oneCell']) (by unfold maxLen;omega) (by omega) ap ?_;intro D r u E au;obtain⟨s,t,rfl,av,ax,ay⟩:=U.out D r u E;clear u E au U K));go_roundw
       case rel=>exact⟨b+1,d+1,s,t,by omega,by go_num,rfl,by omega,ay,av,ax⟩
       case measure=>simp[intOf];omega
      ·have bs:Op.bytesLess e.toList g.toList=false:=(by simpa using az);have l:H=false:=(by rw[<-v.out,T,bs];simpa using ar);subst l;clear L v K az;(go_wp2_with fail);go_roundw
       case rel=>exact⟨b+1,d,m,o,by omega,by go_num,rfl,by omega,(J.out rfl).1,(J.out rfl).2,am⟩
       case measure=>simp[intOf];omega
    ·have bt:(Op.bytesLess f.toList e.toList || f.toList == e.toList)=false:=(by simpa using T);have l:H=false:=(by rw[<-v.out,bt];rfl);subst l;clear L v K T;(go_wp2_with fail);go_roundw
     case rel=>exact⟨b+1,d,m,o,by omega,by go_num,rfl,by omega,(J.out rfl).1,(J.out rfl).2,am⟩
     case measure=>simp[intOf];omega
   ·have a2:Hid (cQ f g (h.take b)=cQ f g h):=(by show _=_;rw[D6 (by have:=aV.out;omega)]);rw[a2.out] at z G;have aA:=G.out;have bu:Hid (js (cQ f g h) w (.returned (.slice m d o)) wr):=⟨m,o,by rw[aA],by rw[<-aA];exact cr z bm,bl.out wr ab⟩;clear z G aA a2;(go_wp2_with fail);go_ret;exact⟨cQ f g h,⟨fun j=>absurd aQ.out.1 j,fun _=>⟨x,aM,aQ.out.2,by rw[bh.out]⟩⟩,bu.out⟩
 ·obtain rfl:=ac j;have bv:=hidI j;clear ac ad j;go_wp2_with fail
  go_ret;exact⟨[],⟨fun _=>rfl,fun j=>absurd j bv.out⟩,none,0,rfl,EH _ _ _ _,ae⟩
end Go.Proofs.YtgcedpmagmmikaaGreat
