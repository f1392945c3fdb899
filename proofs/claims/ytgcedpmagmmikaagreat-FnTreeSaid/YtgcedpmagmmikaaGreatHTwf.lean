import Derived.Test.YtgcedpmagmmikaaGreatHTks
import Derived.Test.YtgcedpmagmmikaaGreatHTwq
import Derived.Test.YtgcedpmagmmikaaGreatHTdp
import Derived.Test.YtgcedpmagmmikaaGreatHTwh
namespace Go.Proofs.YtgcedpmagmmikaaGreat
set_option maxHeartbeats 6400000
open Go.RowKit Tryz
set_option linter.unusedVariables false
set_option linter.unusedSimpArgs false
set_option maxRecDepth 100000
def AE (t:T) (key:ByteArray) (j m:Nat):Prop:=m<j∧(m=0∨∃ k,t.kids[m]?=some k∧oK k.low key=true)∧∀ i k,m<i->i<j->t.kids[i]?=some k->¬ oK k.low key=true
theorem oz (C:Nat) (t:T) (key:ByteArray) (m:∃ P,t.good P=true) (u:t.leaf=false):ep 75 C t [.string key] (fun b Q af=>Q=.returned (.int .i64 (ci key t.kids))∧ci key t.kids<t.kids.length∧Below b.heap.size b af):=by
 intro b v w x y z A B on D E F aT ag R;obtain⟨P,m⟩:=m;obtain⟨f,ah⟩:=dg m u;have ai:Hid (∀ c ∈ t.kids,c.good false=true):=fun c aj=>aY m aj;obtain⟨l,n⟩:∃ l,l=b.alloc (.cells (Zs t.leaf t.page v w x y z A B on D E t.kids.length F) 55):=⟨_,rfl⟩;have g:jB b l b.heap.size (Zs t.leaf t.page v w x y z A B on D E t.kids.length F):=by rw[n];exact jB.new b _
 have p:=R.belowC (g.bel.mono ag);obtain⟨G,S⟩:=Zn b.heap.size;obtain⟨h,H⟩:∃ h,h=t.kids.length:=⟨_,rfl⟩;have I:=hidI H.symm;have ak:=p.cap;obtain⟨al,am⟩:=ak;unfold maxLen at am;obtain⟨an,U⟩:=Zn t.page;rw[<-H] at g f ah al n ⊢;rw[u,U] at g n ⊢;clear R H u m U;show Calls prog 75 #[.agg (Zs false an v w x y z A B on D E h F),.string key] b _;go_enter func75,ntmps75;go_upto_region 1 with fail
 rw[<-n];clear n;have V:=g.lt;have q:=g.box;have W:=g.bel;rw[S] at V q W;clear g;have aU:C<=G:=by omega
 go_wp2_with fail
 go_loopw [5,6] (fun ao d wr=>∃ j a:Nat,1<=a∧a<=h∧ao=.int .i64 j∧d=.int .i64 a∧Hid (AE t key a j)∧Below l.heap.size l wr) (fun _ d _=>h - (intOf d).toNat)
 case atStart=>exact⟨0,1,by omega,by omega,rfl,rfl,⟨by omega,.inl rfl,fun d c o f=>by omega⟩,D2 _ _⟩
 case round =>
  obtain⟨j,a,aV,aW,rfl,rfl,e,k⟩:=hrel;have J:=(k.block G V).trans q;have K:=p.belowC (k.mono (show C<=l.heap.size by omega));have aX:=k.size;obtain⟨ap,ar,au,av,p4,aw⟩:=aq J;have aZ:G<wr.heap.size:=(by omega);by_cases ax:a<h
  ·obtain⟨a0,a1,rfl,a2,c,X,Y,ay,az,aA,aB,aC,aD,aE,aF,aG,aH,aI,aJ,Z,aK,aL,aM,aN,aO,aP⟩:=K.at (i:=a) (by rw[I.out];exact ax);have L:=ri C c ⟨false,ai.out c Y⟩ wr ay az aA aB aC aD aE aF aG aH aI aJ (by omega) Z;have aa:=hidI X;obtain⟨aQ,M⟩:=Zn c.low;have ab:=hidI M;rw[M] at L;clear Z K X Y M p q J;go_wp2_with fail
   refine L.mono ?_;rintro Q a3 ⟨rfl,ac⟩;have ad:=hidI (k.trans (ac.mono (by omega)));clear L aK aL aM aN aO aP ap ar au av p4 aw ac k;cases r:oK aQ key
   ·have N:Hid (AE t key (a+1) j):=⟨by have:=e.out.1;omega,e.out.2.1,fun d ae o f s=>by
     by_cases aR:d=a;·subst aR;rw[aa.out] at s;simp only[Option.some.injEq] at s;subst s;rw[ab.out,r];simp
     ·exact e.out.2.2 d ae o (by omega) s⟩
    unfold oK at r;clear e;(go_wp2_with fail);go_roundw
    case rel=>exact⟨j,a+1,by omega,by omega,rfl,by go_num,N,ad.out⟩
    case measure=>simp[intOf];omega
   ·have N:Hid (AE t key (a+1) a):=⟨by omega,.inr ⟨c,aa.out,by rw[ab.out];exact r⟩,fun d ae o f=>by omega⟩;unfold oK at r;clear e;(go_wp2_with fail);go_roundw
    case rel=>exact⟨a,a+1,by omega,by omega,rfl,by go_num,N,ad.out⟩
    case measure=>simp[intOf];omega
  ·have O:Hid (ci key t.kids=j∧j<h):=⟨wH (t:=t) ⟨by have:=e.out.1;have:=I.out;omega,e.out.2.1,fun d c o f=>e.out.2.2 d c o (by have:=Zc f;have:=I.out;omega) f⟩,by have:=e.out.1;omega⟩;have aS:Hid (Below b.heap.size b wr):=(by rw[S];exact W.trans (k.mono (by omega)));clear K e k p q J;go_wp2_with fail
   go_ret;exact⟨by rw[O.out.1];rfl,by rw[O.out.1];exact O.out.2,aS.out⟩
theorem A6 (a:Option Addr) (n c:Nat) (bs:List Int) (w:World) (A B:Nat) (h:cd w A B a n c bs) (i:Nat) (s:i<=100) :
  Calls prog 8 #[.slice a n c,.int .i64 i] w fun l m=>∃ b:Nat,l=.returned (.int .i64 b)∧b<256∧Below w.heap.size w m:=by
 obtain⟨f,t,o,d,e,g⟩:=h;unfold maxLen at o;by_cases p:i<n
 ·obtain⟨u,v,rfl,_,j⟩:=e (by omega);have q:=j i p;have r:=d (bs.getD i 0) (by rw[show bs.getD i 0=bs[i]'(by omega) by simp[List.getD,DQ (show i<bs.length by omega)]];exact Ey _);obtain⟨b,k⟩:∃ b:Nat,bs.getD i 0=(b:Int):=⟨(bs.getD i 0).toNat,by omega⟩;rw[k] at q r;clear j e d g f k;go_enter func8,ntmps8;go_wp2_with fail
  go_ret;exact⟨b,rfl,by omega,D2 _ _⟩
 ·clear e d g f;go_enter func8,ntmps8;go_wp2_with fail
  go_ret;exact⟨(i*53+23) % 256,by rw[show ((i:Int)*53+23) % 256=(((i*53+23) % 256:Nat):Int) by omega];rfl,by omega,D2 _ _⟩
theorem A7 (key:ByteArray) (zs:List (ByteArray × ByteArray)) (j:Nat) (d:ByteArray × ByteArray) (h:j<zs.length):rL key (zs.take (j+1))=rL key (zs.take j)++(if (zs.getD j d).1=key then [] else [zs.getD j d]):=by
 unfold rL;rw[fQ zs j d h,List.filter_append];generalize zs.getD j d=a
 congr 1
 by_cases b:a.1=key<;>simp[b]
theorem iG {a b:ByteArray} (h:a.toList=b.toList):a=b:=jH (by unfold aH;rw[h];exact aQ b) (by unfold aH;rw[h];exact aQ b)
theorem qA {a:Type} (zs:List a) (j:Nat) (d:a) (h:j<zs.length):zs.drop j=zs.getD j d::zs.drop (j+1):=by
 rw[List.drop_eq_getElem_cons h];simp[List.getD,DQ h]
theorem zH (a:Option Addr) (n c:Nat) (zs:List (ByteArray × ByteArray)) (w:World) (B:Nat) (L:B<=w.heap.size) (h:tv w B a n c zs) (Y:n<=100000) (key:ByteArray) :
  Calls prog 11 #[.slice a n c,.string key] w fun i D=>∃ (k:Option Addr) (b l:Nat),i=.returned (.slice k b l)∧(rL key zs).length=b∧D.ownsRow w.heap.size 36 2 (.slice k b l) b (aa aG (ms (rL key zs)))∧Below w.heap.size w D:=by
 obtain⟨M,N,O,P,Q⟩:=info_parts gN;have Z:=h.2.1;have R:=h.2.2.1;unfold maxLen at R;have s:=hidI h;have E:Below w.heap.size w (w.alloc (.cells #[] 36)):=Zb _ _;have F:=dp w 36 2 w.heap.size (DU _);clear h;go_enter func11,ntmps11;go_wp2_with fail
 go_loopw [5,6] (fun S t wr=>∃ (d b:Nat) (f:Option Addr) (g:Nat),d<=n∧t=.int .i64 d∧S=.slice f b g∧b<=d∧Hid ((rL key (zs.take d)).length=b)∧Hid (wr.ownsRow w.heap.size 36 2 (.slice f b g) b (aa aG (ms (rL key (zs.take d)))))∧Below w.heap.size w wr) (fun _ t _=>n - (intOf t).toNat)
 case atStart=>exact⟨0,0,_,0,D0 _,rfl,rfl,DU _,rfl,F,E⟩
 case round =>
  clear F E;obtain⟨d,b,f,g,ab,rfl,rfl,ac,o,m,j⟩:=hrel;by_cases G:d<n
  ·obtain⟨ad,ae,rfl,_,u⟩:=(s.out.below (j.mono L)).2.2.2 (by omega);have T:=(u d G).1;have U:=(u d G).2;obtain⟨e,v⟩:=Zn ((zs.getD d (ByteArray.empty,ByteArray.empty)).1);obtain⟨p,x⟩:=Zn ((zs.getD d (ByteArray.empty,ByteArray.empty)).2);have q:Hid (rL key (zs.take (d+1))=rL key (zs.take d)++(if e=key then [] else [(e,p)])):=(by show _=_;rw[A7 key zs d (ByteArray.empty,ByteArray.empty) (by have:=s.out.1;omega),<-v,<-x]);rw[v] at T;rw[x] at U;clear u v x;have V:=j.size;by_cases y:e=key
   ·subst y;have z:Hid ((rL e (zs.take (d+1))).length=b):=(by show _=_;rw[q.out,if_pos rfl,Ej];exact o.out);have A:Hid (wr.ownsRow w.heap.size 36 2 (.slice f b g) b (aa aG (ms (rL e (zs.take (d+1)))))):=(by show World.ownsRow _ _ _ _ _ _ _;rw[q.out,if_pos rfl,Ej];exact m.out);(go_wp2_with fail);go_roundw
    case rel=>exact⟨d+1,b,f,g,by omega,by go_num,rfl,by omega,z,A,j⟩
    case measure=>simp[intOf];omega
   ·have af:(e.toList == key.toList)=false:=(by rw[beq_eq_false_iff_ne];exact fun i=>y (iG i));have H:Hid (e≠key):=y;(go_wp2_with (at_builtin;refine ak _ rfl _ _ 32 rfl w.heap.size 36 M _ 2 32 underlying32 N O P Q rfl (by decide) (.slice f b g) b _ rfl (an m.out (Zb _ (.cells #[.string e,.string p] 36))) ⟨wr.heap.size,0,none⟩ 1 1 [.string e,.string p] rfl rfl (cf wr (.string e) (.string p) 36) (by simp[Value.oneCell']) (by unfold maxLen;omega) (by omega) (by simp;omega) ?_;intro ag I C J W));obtain⟨k,l,rfl⟩:=ao C;have X:=j.trans (((Fr.of_below (Zb _ _)).trans (Fr.of_grown J (fun r i=>i)):Fr (fun r=>(Value.slice f b g).ownBlock=some r) wr I).below V (fun r i=>(m.out.lt r i).1));have z:Hid ((rL key (zs.take (d+1))).length=b+1):=(by show _=_;rw[q.out,if_neg H.out,DV,o.out];rfl);have A:Hid (I.ownsRow w.heap.size 36 2 (.slice k (b+1) l) (b+1) (aa aG (ms (rL key (zs.take (d+1)))))):=(by show World.ownsRow _ _ _ _ _ _ _;rw[q.out,if_neg H.out,ja,aD];exact C);clear C J W j m o;go_roundw
    case rel=>exact⟨d+1,b+1,k,l,by omega,by go_num,rfl,by omega,z,A,X⟩
    case measure=>simp[intOf];omega
  ·obtain rfl:d=n:=(by omega);have K:Hid (zs.take d=zs):=(by show _=_;rw[D6 (by have:=s.out.1;omega)]);go_wp2_with fail
   go_ret;exact⟨f,b,g,rfl,by rw[<-K.out];exact o.out,by rw[<-K.out];exact m.out,j⟩
theorem zI (a:Option Addr) (n c:Nat) (zs:List (ByteArray × ByteArray)) (w:World) (B:Nat) (ae:B<=w.heap.size) (h:tv w B a n c zs) (aK:n<=100000) (key val:ByteArray) :
  Calls prog 12 #[.slice a n c,.string key,.string val] w fun f af=>∃ (t:Option Addr) (b u:Nat),f=.returned (.slice t b u)∧(lc key val false zs).length=b∧af.ownsRow w.heap.size 36 2 (.slice t b u) b (aa aG (ms (lc key val false zs)))∧Below w.heap.size w af:=by
 obtain⟨I,J,K,L,M⟩:=info_parts gN;have aL:=h.2.1;have aw:=h.2.2.1;unfold maxLen at aw;have N:=hidI h;have ag:Below w.heap.size w (w.alloc (.cells #[] 36)):=Zb _ _;have ah:=dp w 36 2 w.heap.size (DU _);clear h;go_enter func12,ntmps12;go_wp2_with fail
 go_loopw [7,8,9] (fun ax ay X wr=>∃ (e b:Nat) (m:Option Addr) (o:Nat) (G:Bool) (g:List (ByteArray × ByteArray)),e<=n∧X=.int .i64 e∧ax=.slice m b o∧ay=.bool G∧b<=e+1∧Hid (g.length=b)∧Hid (lc key val false zs=g++lc key val G (zs.drop e))∧Hid (wr.ownsRow w.heap.size 36 2 (.slice m b o) b (aa aG (ms g)))∧Hid (G=false->b<=e)∧Below w.heap.size w wr) (fun _ _ X _=>n - (intOf X).toNat)
 case atStart=>exact⟨0,0,_,0,false,[],D0 _,rfl,rfl,rfl,D0 _,rfl,rfl,ah,fun _=>DU _,ag⟩
 case round =>
  clear ah ag;obtain⟨e,b,m,o,G,g,aM,rfl,rfl,rfl,aN,E,y,q,az,r⟩:=hrel;have O:=r.size;by_cases W:e<n
  ·obtain⟨aO,aP,rfl,_,Y⟩:=(N.out.below (r.mono ae)).2.2.2 (by omega);have ai:=(Y e W).1;have aj:=(Y e W).2;obtain⟨d,Z⟩:=Zn ((zs.getD e (ByteArray.empty,ByteArray.empty)).1);obtain⟨j,ab⟩:=Zn ((zs.getD e (ByteArray.empty,ByteArray.empty)).2);have F:Hid (zs.drop e=(d,j)::zs.drop (e+1)):=(by show _=_;rw[qA zs e (ByteArray.empty,ByteArray.empty) (by have:=N.out.1;omega),<-Z,<-ab]);rw[Z] at ai;rw[ab] at aj;clear Y Z ab;cases G
   ·have aQ:b<=e:=az.out rfl;by_cases P:aH d key=true
    ·have v:Hid (aH d key=true):=P;have aA:Op.bytesLess d.toList key.toList=true:=P;clear P;by_cases k:d=key
     ·have Q:Hid (d=key):=k;have al:(d.toList == key.toList)=true:=(by rw[k];simp);clear k;have s:Hid (lc key val false zs=g++lc key val false (zs.drop (e+1))):=by show _=_;rw[y.out,F.out,lc,if_neg (by simp[v.out]),show (false || !aH d key)=false by simp[v.out],if_pos Q.out];simp
      (go_wp2_with fail);go_roundw
      case rel=>exact⟨e+1,b,m,o,false,g,by omega,by go_num,rfl,rfl,by omega,E,s,q,(fun _=>by omega),r⟩
      case measure=>simp[intOf];omega
     ·have am:(d.toList == key.toList)=false:=(by rw[beq_eq_false_iff_ne];exact fun f=>k (iG f));have R:Hid (d≠key):=k;clear k;have s:Hid (lc key val false zs=(g++[(d,j)])++lc key val false (zs.drop (e+1))):=by show _=_;rw[y.out,F.out,lc,if_neg (by simp[v.out]),show (false || !aH d key)=false by simp[v.out],if_neg R.out];simp
      (go_wp2_with (at_builtin;refine ak _ rfl _ _ 32 rfl w.heap.size 36 I _ 2 32 underlying32 J K L M rfl (by decide) (.slice m b o) b _ rfl (an q.out (Zb _ (.cells #[.string d,.string j] 36))) ⟨wr.heap.size,0,none⟩ 1 1 [.string d,.string j] rfl rfl (cf wr (.string d) (.string j) 36) (by simp[Value.oneCell']) (by unfold maxLen;omega) (by omega) (by simp;omega) ?_;intro ap z l p x));obtain⟨A,C,rfl⟩:=ao l;have S:=r.trans (((Fr.of_below (Zb _ _)).trans (Fr.of_grown p (fun i f=>f)):Fr (fun i=>(Value.slice m b o).ownBlock=some i) wr z).below O (fun i f=>(q.out.lt i f).1));have T:Hid (z.ownsRow w.heap.size 36 2 (.slice A (b+1) C) (b+1) (aa aG (ms (g++[(d,j)])))):=(by show World.ownsRow _ _ _ _ _ _ _;rw[ja,aD];exact l);have U:Hid ((g++[(d,j)]).length=b+1):=(by show _=_;rw[DV,E.out];rfl);clear l p x;go_roundw
      case rel=>exact⟨e+1,b+1,A,C,false,g++[(d,j)],by omega,by go_num,rfl,rfl,by omega,U,s,T,(fun _=>by omega),S⟩
      case measure=>simp[intOf];omega
    ·have v:Hid (aH d key=false):=(by show _=false;simpa using P);have aA:Op.bytesLess d.toList key.toList=false:=v.out;clear P;(go_upto_region 9 with (at_builtin;refine ak _ rfl _ _ 32 rfl w.heap.size 36 I _ 2 32 underlying32 J K L M rfl (by decide) (.slice m b o) b _ rfl (an q.out (Zb _ (.cells #[.string key,.string val] 36))) ⟨wr.heap.size,0,none⟩ 1 1 [.string key,.string val] rfl rfl (cf wr (.string key) (.string val) 36) (by simp[Value.oneCell']) (by unfold maxLen;omega) (by omega) (by simp;omega) ?_;intro aB D l p x));obtain⟨t,u,rfl⟩:=ao l;have H:=r.trans (((Fr.of_below (Zb _ _)).trans (Fr.of_grown p (fun i f=>f)):Fr (fun i=>(Value.slice m b o).ownBlock=some i) wr D).below O (fun i f=>(q.out.lt i f).1));have ac:Hid (D.ownsRow w.heap.size 36 2 (.slice t (b+1) u) (b+1) (aa aG (ms (g++[(key,val)])))):=(by show World.ownsRow _ _ _ _ _ _ _;rw[ja,aD];exact l);have aq:Hid ((g++[(key,val)]).length=b+1):=(by show _=_;rw[DV,E.out];rfl);obtain⟨aR,aS,aC,_,ad⟩:=(N.out.below (H.mono ae)).2.2.2 (by omega);cases aC;have ar:zs.getD e (ByteArray.empty,ByteArray.empty)=(d,j):=(by have au:=F.out;rw[qA zs e (ByteArray.empty,ByteArray.empty) (by have:=N.out.1;omega)] at au;exact (List.cons.inj au).1);have aE:=(ad e W).1;have aF:=(ad e W).2;rw[ar] at aE aF;have aI:=H.size;clear l p x ad ar ai aj r O;by_cases k:d=key
     ·have Q:Hid (d=key):=k;have al:(d.toList == key.toList)=true:=(by rw[k];simp);clear k;have s:Hid (lc key val false zs=(g++[(key,val)])++lc key val true (zs.drop (e+1))):=by show _=_;rw[y.out,F.out,lc,if_pos (by simp[v.out]),show (false || !aH d key)=true by simp[v.out],if_pos Q.out];simp
      (go_wp2_with fail);go_roundw
      case rel=>exact⟨e+1,(b+1),t,u,true,(g++[(key,val)]),by omega,by go_num,rfl,rfl,by omega,aq,s,ac,(fun h=>by cases h),H⟩
      case measure=>simp[intOf];omega
     ·have am:(d.toList == key.toList)=false:=(by rw[beq_eq_false_iff_ne];exact fun f=>k (iG f));have R:Hid (d≠key):=k;clear k;have s:Hid (lc key val false zs=((g++[(key,val)])++[(d,j)])++lc key val true (zs.drop (e+1))):=by show _=_;rw[y.out,F.out,lc,if_pos (by simp[v.out]),show (false || !aH d key)=true by simp[v.out],if_neg R.out];simp
      (go_wp2_with (at_builtin;refine ak _ rfl _ _ 32 rfl w.heap.size 36 I _ 2 32 underlying32 J K L M rfl (by decide) (.slice t (b+1) u) (b+1) _ rfl (an ac.out (Zb _ (.cells #[.string d,.string j] 36))) ⟨D.heap.size,0,none⟩ 1 1 [.string d,.string j] rfl rfl (cf D (.string d) (.string j) 36) (by simp[Value.oneCell']) (by unfold maxLen;omega) (by omega) (by simp;omega) ?_;intro ap z l p x));obtain⟨A,C,rfl⟩:=ao l;have S:=H.trans (((Fr.of_below (Zb _ _)).trans (Fr.of_grown p (fun i f=>f)):Fr (fun i=>(Value.slice t (b+1) u).ownBlock=some i) D z).below aI (fun i f=>(ac.out.lt i f).1));have T:Hid (z.ownsRow w.heap.size 36 2 (.slice A ((b+1)+1) C) ((b+1)+1) (aa aG (ms ((g++[(key,val)])++[(d,j)])))):=(by show World.ownsRow _ _ _ _ _ _ _;rw[ja,aD];exact l);have U:Hid (((g++[(key,val)])++[(d,j)]).length=(b+1)+1):=(by show _=_;rw[DV,aq.out];rfl);clear l p x;go_roundw
      case rel=>exact⟨e+1,(b+1)+1,A,C,true,(g++[(key,val)])++[(d,j)],by omega,by go_num,rfl,rfl,by omega,U,s,T,(fun h=>by cases h),S⟩
      case measure=>simp[intOf];omega
   ·skip;by_cases k:d=key
    ·have Q:Hid (d=key):=k;have al:(d.toList == key.toList)=true:=(by rw[k];simp);clear k;have s:Hid (lc key val false zs=g++lc key val true (zs.drop (e+1))):=by show _=_;rw[y.out,F.out,lc,if_neg (by simp),show (true || !aH d key)=true by simp,if_pos Q.out];simp
     (go_wp2_with fail);go_roundw
     case rel=>exact⟨e+1,b,m,o,true,g,by omega,by go_num,rfl,rfl,by omega,E,s,q,(fun h=>by cases h),r⟩
     case measure=>simp[intOf];omega
    ·have am:(d.toList == key.toList)=false:=(by rw[beq_eq_false_iff_ne];exact fun f=>k (iG f));have R:Hid (d≠key):=k;clear k;have s:Hid (lc key val false zs=(g++[(d,j)])++lc key val true (zs.drop (e+1))):=by show _=_;rw[y.out,F.out,lc,if_neg (by simp),show (true || !aH d key)=true by simp,if_neg R.out];simp
     (go_wp2_with (at_builtin;refine ak _ rfl _ _ 32 rfl w.heap.size 36 I _ 2 32 underlying32 J K L M rfl (by decide) (.slice m b o) b _ rfl (an q.out (Zb _ (.cells #[.string d,.string j] 36))) ⟨wr.heap.size,0,none⟩ 1 1 [.string d,.string j] rfl rfl (cf wr (.string d) (.string j) 36) (by simp[Value.oneCell']) (by unfold maxLen;omega) (by omega) (by simp;omega) ?_;intro ap z l p x));obtain⟨A,C,rfl⟩:=ao l;have S:=r.trans (((Fr.of_below (Zb _ _)).trans (Fr.of_grown p (fun i f=>f)):Fr (fun i=>(Value.slice m b o).ownBlock=some i) wr z).below O (fun i f=>(q.out.lt i f).1));have T:Hid (z.ownsRow w.heap.size 36 2 (.slice A (b+1) C) (b+1) (aa aG (ms (g++[(d,j)])))):=(by show World.ownsRow _ _ _ _ _ _ _;rw[ja,aD];exact l);have U:Hid ((g++[(d,j)]).length=b+1):=(by show _=_;rw[DV,E.out];rfl);clear l p x;go_roundw
     case rel=>exact⟨e+1,b+1,A,C,true,g++[(d,j)],by omega,by go_num,rfl,rfl,by omega,U,s,T,(fun h=>by cases h),S⟩
     case measure=>simp[intOf];omega
  ·obtain rfl:e=n:=(by omega);have av:Hid (zs.drop e=[]):=(by show _=_;rw[List.drop_eq_nil_iff];have:=N.out.1;omega);cases G;·have V:Hid (lc key val false zs=g++[(key,val)]):=(by show _=_;rw[y.out,av.out];rfl);(go_wp2_with (at_builtin;refine ak _ rfl _ _ 32 rfl w.heap.size 36 I _ 2 32 underlying32 J K L M rfl (by decide) (.slice m b o) b _ rfl (an q.out (Zb _ (.cells #[.string key,.string val] 36))) ⟨wr.heap.size,0,none⟩ 1 1 [.string key,.string val] rfl rfl (cf wr (.string key) (.string val) 36) (by simp[Value.oneCell']) (by unfold maxLen;omega) (by omega) (by simp;omega) ?_;intro aB D l p x));obtain⟨t,u,rfl⟩:=ao l;have H:=r.trans (((Fr.of_below (Zb _ _)).trans (Fr.of_grown p (fun i f=>f)):Fr (fun i=>(Value.slice m b o).ownBlock=some i) wr D).below O (fun i f=>(q.out.lt i f).1));have aJ:Hid (D.ownsRow w.heap.size 36 2 (.slice t (b+1) u) (b+1) (aa aG (ms (lc key val false zs)))):=(by show World.ownsRow _ _ _ _ _ _ _;rw[V.out,ja,aD];exact l);clear l p x r q;go_ret;exact⟨t,b+1,u,rfl,by rw[V.out,DV,E.out];rfl,aJ.out,H⟩
   ·have V:Hid (lc key val false zs=g):=(by show _=_;rw[y.out,av.out];simp[lc]);(go_wp2_with fail);go_ret;exact⟨m,b,o,rfl,by rw[V.out];exact E.out,by rw[V.out];exact q.out,r⟩
end Go.Proofs.YtgcedpmagmmikaaGreat
