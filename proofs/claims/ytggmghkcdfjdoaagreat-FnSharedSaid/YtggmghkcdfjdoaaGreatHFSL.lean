import Derived.Test.YtggmghkcdfjdoaaGreatHTks
import Derived.Test.YtggmghkcdfjdoaaGreatHDtg
import Derived.Deep.LoopGhost
import Derived.Deep.DeepCutAuto
namespace Go.Proofs.YtggmghkcdfjdoaaGreat
open Go.RowKit Tryz
set_option linter.unusedVariables false
set_option linter.unusedSimpArgs false
set_option maxRecDepth 100000
def Eg (bs:List Int) (i:Nat):Nat:=if i<bs.length then (bs.getD i 0).toNat else (i*53+23) % 256
theorem DR (a:Option Addr) (n c:Nat) (bs:List Int) (w:World) (A B:Nat) (h:cd w A B a n c bs) (i:Nat) (t:i<=100) :
  Calls prog 7 #[.slice a n c,.int .i64 i] w fun m o=>m=.returned (.int .i64 (Eg bs i:Nat))∧Below w.heap.size w o:=by
 obtain⟨j,u,p,d,e,k⟩:=h;unfold maxLen at p;by_cases q:i<n
 ·obtain⟨v,x,rfl,_,l⟩:=e (by omega);have r:=l i q;have s:=d (bs.getD i 0) (by rw[show bs.getD i 0=bs[i]'(by omega) by simp[List.getD,Eh (show i<bs.length by omega)]];exact E4 _);obtain⟨f,g⟩:∃ f:Nat,bs.getD i 0=(f:Int):=⟨(bs.getD i 0).toNat,by omega⟩;have b:Eg bs i=f:=(by unfold Eg;rw[if_pos (by omega),g];rfl);rw[b];rw[g] at r s;clear l e d k j g b;go_enter func7,ntmps7;go_wp2_with fail
  go_ret;exact⟨rfl,Ev _ _⟩
 ·have b:Eg bs i=(i*53+23) % 256:=(by unfold Eg;rw[if_neg (by omega)]);rw[b];clear e d k j b;go_enter func7,ntmps7;go_wp2_with fail
  go_ret;exact⟨by rw[show ((i:Int)*53+23) % 256=(((i*53+23) % 256:Nat):Int) by omega];rfl,Ev _ _⟩
structure D6 (w wr:World) (N P R:Nat) (pa:Option Addr) (pn pc:Nat) (ga:Option Addr) (gm gc:Nat) (na:Option Addr) (nc:Nat) (ps:List TN) (ok:Bool) (oa:Option Addr) (on oc:Nat) (rs:List TN):Prop where
 kp:wr.heap[P]?=some (.cells #[.slice pa pn pc,.slice ga gm gc,.slice na gm nc] 31)
 kr:wr.heap[R]?=some (.cells #[.bool ok,.slice oa on oc] 34)
 np:aw wr 0 P pa pn pc ps
 nr:aw wr 0 wr.heap.size oa on oc rs
 bel:Below N w wr
 le:N<=P∧P<R
 kept:ok=true->Eb ps rs
theorem D6.below {w wr b:World} {N P R:Nat} {c:Option Addr} {d e:Nat} {ga:Option Addr} {gm f:Nat} {g:Option Addr} {i:Nat} {j:List TN} {k:Bool} {l:Option Addr} {on m:Nat} {n:List TN} (h:D6 w wr N P R c d e ga gm f g i j k l on m n) (a:Below wr.heap.size wr b):D6 w b N P R c d e ga gm f g i j k l on m n:=by
 have o:=Za h.kp;have p:=Za h.kr;have q:=h.le;exact⟨(a.block P o).trans h.kp,(a.block R p).trans h.kr,h.np.below (a.mono (by omega)),(h.nr.below a).up (Ek _) a.size,h.bel.trans (a.mono (by omega)),h.le,h.kept⟩
theorem D6.put {w a:World} {N P R A:Nat} {k:Option Addr} {l m:Nat} {ga:Option Addr} {gm n:Nat} {o:Option Addr} {p:Nat} {g:List TN} {r:Bool} {s:Option Addr} {on t:Nat} {u:List TN} (h:D6 w a N P R k l m ga gm n o p g r s on t u) {b:Bool} {c:Option Addr} {d e:Nat} {i:List TN} (v:aw a A a.heap.size c d e i) (C:R<A) (q:b=true->Eb g i) :
  D6 w ((a.setCell ⟨R,0,none⟩ (.bool b)).setCell ⟨R,1,none⟩ (.slice c d e)) N P R k l m ga gm n o p g b c d e i:=by
 have f:=(af a R 0 (.bool b)).trans (af (a.setCell ⟨R,0,none⟩ (.bool b)) R 1 (.slice c d e));have x:=aj (aj h.kr 0 (.bool b)) 1 (.slice c d e);have y:=Za h.kp;have D:=h.le;have E:=f.size;have z:((a.setCell ⟨R,0,none⟩ (.bool b)).setCell ⟨R,1,none⟩ (.slice c d e)).heap.size=a.heap.size:=by simp[World.setCell]
 refine⟨(f.block P y (by omega)).trans h.kp,by simpa using x,h.np.keep (fun j _ q=>f.block j (by omega) (by omega)),?_,h.bel.trans (f.below (by have:=h.bel.size;omega) (fun F G=>by omega)),h.le,q⟩;rw[z];exact (v.keep (fun j H B=>f.block j B (by omega))).up (En _) (Ek _)
theorem kS {w:World} {N:Nat} {a b c:Value} {t:TypeId} (h:w.heap[N]?=some (.cells #[a,b,c] t)):w.cell? ⟨N,0,none⟩=some a∧w.cell? ⟨N,1,none⟩=some b∧w.cell? ⟨N,2,none⟩=some c:=by
 simp[World.cell?,h]
set_option maxHeartbeats 16000000 in
theorem DU (a:Option Addr) (n c:Nat) (bs:List Int) (aK:Option Addr) (af V:Nat) (ag:List Int) (w:World) (h:cd w 0 w.heap.size a n c bs) (G:cd w 0 w.heap.size aK af V ag) :
  Calls prog 3 #[.slice a n c,.slice aK af V] w fun g dk=>g=.returned (.bool true)∧Below w.heap.size w dk:=by
 have dl:=h.2.2.1;have es:=h.2.1;have dm:=G.2.2.1;have et:=G.2.1;unfold maxLen at dl dm;obtain⟨C,a5⟩:=Zn w.heap.size;have bn:=oN a n c bs w 0 w.heap.size (Ek _) h;have bW:Hid (∀ e,Below C w e->cd e 0 C aK af V ag):=fun e o=>by rw[<-a5];exact G.below (by rw[a5];exact o)
 unfold A5 at bn;rw[a5] at bn ⊢;clear h G;go_enter func3,ntmps3;by_cases eu:n<=1048576;rotate_left
 ·go_wp2_with fail
  go_ret;exact⟨rfl,by rw[<-a5];exact Ev _ _⟩
 by_cases ev:af<=1048576;rotate_left
 ·go_wp2_with fail
  go_ret;exact⟨rfl,by rw[<-a5];exact Ev _ _⟩
 go_upto_region 4 with (go_at_call 4;refine bn.mono ?_;rintro g bo ⟨bp,bq,br,ai,bX,bY,rfl,bZ,ew,dn,cw,cx,dp,a6⟩)
 have a7:=Ej bo (.cells #[.slice bp bq br] 25);have b0:=Zb bo (.cells #[.slice bp bq br] 25);have bt:=bZ.below b0;have aj:=a6.trans (b0.mono (by have:=a6.size;omega));obtain⟨cy,cz⟩:=Zn bo.heap.size;generalize bo.alloc (.cells #[.slice bp bq br] 25)=b1 at a7 bt aj ⊢;rw[cz] at a7 bt ⊢;have ex:=Za a7;have ey:C<=cy:=by have:=a6.size;omega
 have ez:=bZ.1;have dq:=ah a7;have bE:=Zb b1 (.cells #[] 2);have W:=qw ai bp bq br 0 cy (b1.alloc (.cells #[] 2)) (by have:=bE.size;omega) (bt.below (bE.mono (by omega))) 2 [] (some ⟨b1.heap.size,0,none⟩) 0 0 0 0 (En _) ⟨rfl,En _,by unfold maxLen;omega,fun f h=>absurd h (Nat.not_lt_zero _),fun h=>absurd h (Fs _)⟩ (by omega);unfold uj at W;rw[BG ai ⟨by omega,by omega⟩] at W;obtain⟨s,b2⟩:=Zn (AY ai);obtain⟨gm,cA⟩:=Zn ((oT ai 2 []).2.length);obtain⟨t,b3⟩:=Zn s.length;have cB:Hid (s=[]∨∃ j,fO s j∧s.length=ai.length):=by rw[<-b2];exact DS ai
 rw[b2,cA,b3] at W;clear bn bZ dn a6 b0 bt cz b2 cA;go_upto_region 5 with (go_at_call 5;refine W.mono ?_;rintro g bu ⟨⟨ak,X,ga,al,am,an,rfl,bv,_,_⟩,Y⟩)
 have aL:=Ej bu (.cells #[.slice ak t X,.slice ga gm al,.slice am gm an] 31);have bP:=Zb bu (.cells #[.slice ak t X,.slice ga gm al,.slice am gm an] 31);have a8:=bv.below bP;have bw:=(aj.trans ((bE.mono (by omega)).trans (Y.mono (by have:=bE.size;omega)))).trans (bP.mono (by have:=Y.size;have:=bE.size;omega));obtain⟨H,cC⟩:=Zn bu.heap.size;have dr:C<=H:=by have:=Y.size;have:=bE.size;omega
 generalize bu.alloc (.cells #[.slice ak t X,.slice ga gm al,.slice am gm an] 31)=a9 at aL bP a8 bw ⊢;rw[cC] at aL a8 ⊢;have R:=Za aL;obtain⟨u,v,x⟩:=kS aL;have eA:=bv.2.1;have ds:=bv.2.2.1;unfold maxLen at ds;clear W bv bP Y bE cC a7 dq aj;by_cases cD:t=0
 ·subst cD;go_wp2_with fail
  go_ret;exact⟨rfl,bw⟩
 obtain⟨j,bx,W⟩:∃ j,fO s j∧s.length=ai.length:=cB.out.resolve_left (fun g=>cD (by rw[<-b3,g];rfl));have eB:t<=30:=by omega
 have eC:((t:Int) == 0)=false:=by simp;omega
 obtain⟨_,_,cE,_⟩:=bE bx.top;have a':Hid (∀ e,Below a9.heap.size a9 e->sh e (fun _=>False) ak t X s j):=fun e o=>⟨⟨0,H,fun aM g=>g.elim,by have:=o.size;omega,(a8.up (En _) (Ek _)).below (o.mono (by omega))⟩,bx,fun b I=>by rw[<-m7 bx] at I;exact Bx cE b I⟩;have eD:j.slots.length<=120:=by have:=(a'.out a9 (Ev _ _)).good.2.2.2;omega
 have dt:=hidI (a8.up (En _) (Ek _));have cF:=Ec (a'.out a9 (Ev _ _)) (key:=bX) (val:=bY) cw dp (by omega);clear cB bx W cE a8;go_upto_region 8 with (go_at_call 6;refine cF.mono ?_;rintro g ba ⟨z,J,on,D,A,rfl,cG,cH,cI,aN⟩)
 have bz:=Ej ba (.cells #[.bool z,.slice J on D] 34);have ao:=Zb ba (.cells #[.bool z,.slice J on D] 34);obtain⟨Z,b4⟩:=Zn ba.heap.size;have cJ:=aN.size;have bA:Hid (D6 w (ba.alloc (.cells #[.bool z,.slice J on D] 34)) C H Z ak t X ga gm al am an s z J on D A):=⟨(ao.block H (by omega)).trans ((aN.block H R).trans aL),by rw[<-b4];exact bz,(dt.out.below (aN.mono (by omega))).below (ao.mono (by omega)),((cG.up (En _) (Ek _)).below ao).up (Ek _) ao.size,(bw.trans (aN.mono (by omega))).trans (ao.mono (by omega)),⟨dr,by omega⟩,cI⟩;have bB:=hidI (aN.trans (ao.mono cJ));have cK:=hidI cH;generalize ba.alloc (.cells #[.bool z,.slice J on D] 34)=cL at bA bB bz ⊢;rw[b4] at bz ⊢;clear cF cG cH cI aN ao cJ b4 bz u v x;have b5:=DR aK af V ag cL 0 C (bW.out cL bA.out.bel) 0 (by omega);obtain⟨b,I⟩:=Zn (Eg ag 0);have du:=hidI I;rw[I] at b5;clear I;go_upto_if 46 with (go_at_call 7;refine b5.mono ?_;rintro g cM ⟨rfl,b6⟩)
 have bb:=hidI (bA.out.below b6);have bc:=hidI (bB.out.trans (b6.mono (by have:=bB.out.size;omega)));clear b5 bA bB b6 bw aL R;go_cut [6] (fun b7 b8=>∃ (E:ByteArray) (z:Bool) (J:Option Addr) (on D:Nat) (A:List TN),b7=.string E∧Hid (D6 w b8 C H Z ak t X ga gm al am an s z J on D A)∧Hid (z=false->8<E.size∨400<bY.size∨b % 2=0)∧E.size<=1000)
 case first =>
  by_cases dv:b % 2=0
  ·have cN:(b:Int) % 2=0:=(by omega);have d:=bb.out;have R:=Za d.kp;obtain⟨u,v,x⟩:=kS d.kp;have cO:=zJ (a'.out cM bc.out);clear d;go_upto_if 52 with (go_at_call 8;refine cO.mono ?_;rintro g K ⟨dw,dx,rfl,cP,b9⟩)
   have ab:=hidI (bb.out.below b9);have S:=hidI (bc.out.trans (b9.mono bc.out.size));have aO:K.ownsRow cM.heap.size 40 2 (.slice dw j.slots.length dx) j.slots.length (aa aG (ms (j.slots.map gD))):=(by rw[<-wh];exact cP);have cQ:Hid (∀ l,l<j.slots.length->((j.slots.map gD).getD l dP).1.size<=8):=fun l cR=>(by have b':=(a'.out a9 (Ev _ _)).good.2.2.1;rw[Ez] at b';have g:(j.slots.map gD).getD l dP=gD j.slots[l]:=(by simp[List.getD,Eh cR]);rw[g];exact nT (b' _ (E4 _)));obtain⟨ap,ca⟩:=Zn j.slots.length;have dy:Hid ((j.slots.map gD).length=ap):=(by show _=_;rw[EZ];exact ca);rw[ca] at aO cQ ⊢;have eE:ap<=120:=(by omega);clear cO cP b9 bb bc u v x R ca;obtain⟨cS,cT⟩:=Zn (Eg ag 1);have aQ:=DR aK af V ag K 0 C (bW.out K ab.out.bel) 1 (by omega);rw[cT] at aQ;clear cT;go_cut [6] (fun b7 b8=>∃ E:ByteArray,b7=.string E∧E.size<=1000∧Hid (Below K.heap.size K b8))
   case first =>
    by_cases dA:ap=0
    ·subst dA;(go_wp2_with fail);go_meet
     exact⟨bX,rfl,cx,Ev _ _⟩
    ·have eF:(0:Int)<(ap:Int):=(by omega);obtain⟨aM,rfl⟩:=dz aO (by omega);obtain⟨l,cb⟩:∃ l:Nat,cS % ap=l:=⟨_,rfl⟩;have cU:l<ap:=(by rw[<-cb];exact Nat.mod_lt _ (by omega));have eG:(cS:Int) % (ap:Int)=(l:Int):=(by rw[<-cb];simp);have bC:=aO.cellAt (l*2) (by omega);rw[(vX (j.slots.map gD) l (by rw[dy.out];exact cU)).1] at bC;have dB:=cQ.out l cU;obtain⟨cV,cW⟩:=Zn (((j.slots.map gD).getD l dP).1);rw[cW] at bC dB;have cc:=(aO.lt aM rfl).2;have dC:Hid (∀ e,Below K.heap.size K e->e.cell? ⟨aM,l*2,none⟩=some (.string cV)∧aM<e.heap.size):=fun e o=>⟨(Ep (w:=K) (a:=⟨aM,l*2,none⟩) (o.block aM cc)).trans bC,Er cc o.size⟩;clear cb cW bC cc aO;(go_wp2_with (go_at_call 7;refine aQ.mono ?_;rintro g m ⟨rfl,T⟩;obtain⟨eH,eI⟩:=dC.out m T;have bD:Hid (Below K.heap.size K m):=T;clear T));go_meet
     exact⟨cV,rfl,by omega,bD⟩
   case rest =>
    obtain⟨E,rfl,dD,aR⟩:=hcut;have aS:=hidI (ab.out.below aR.out);have dE:=S.out.trans (aR.out.mono S.out.size);have dF:=Ed (a'.out wc dE) E (by omega);have d:=aS.out;have R:=Za d.kp;obtain⟨u,v,x⟩:=kS d.kp;have aT:=Za d.kr;have dG:Hid (∀ ac,Below wc.heap.size wc ac->∀ (au:Bool) (av:Option Addr) (ax ay:Nat) (az:List TN),aw ac wc.heap.size ac.heap.size av ax ay az->(au=true->Eb s az)->D6 w ((ac.setCell ⟨Z,0,none⟩ (.bool au)).setCell ⟨Z,1,none⟩ (.slice av ax ay)) C H Z ak t X ga gm al am an s au av ax ay az∧ac.heap[Z]?=some (.cells #[.bool z,.slice J on D] 34)):=fun ac ce au av ax ay az B G=>⟨(aS.out.below ce).put B aT G,(ce.block Z aT).trans aS.out.kr⟩;clear d ab S aR aQ aO;(go_wp2_with (go_at_call 9;refine dF.mono ?_;rintro g ac ⟨au,av,ax,ay,az,rfl,cX,_,cY,cZ⟩;obtain⟨c0,cf⟩:=dG.out ac cZ au av ax ay az cX cY;obtain⟨bF,q1⟩:=aI cf;have eJ:=ar cf;have eK:=Za cf;have dH:Hid _:=c0;clear c0 cX cY cZ));go_meet
    exact⟨E,au,av,ax,ay,az,rfl,dH,fun _=>.inr (.inr dv),by omega⟩
  ·have cN:((b:Int) % 2 == 0)=false:=(by simp;omega);go_wp2_with fail
   go_meet
   exact⟨bX,z,J,on,D,A,rfl,bb,fun g=>(cK.out g).imp id .inl,by omega⟩
 case rest =>
  obtain⟨E,z,J,on,D,A,rfl,aS,aR,dD⟩:=hcut;clear bb bc cK cw cx;have d:=aS.out;have R:=Za d.kp;have aT:=Za d.kr;obtain⟨u,v,x⟩:=kS d.kp;obtain⟨bF,q1⟩:=aI d.kr;have eL:=d.nr.2.1;have dI:=d.nr.2.2.1;unfold maxLen at dI;have bd:=hidI d.bel;have c1:=hidI d.nr.1;cases z
  ·have ce:=aR.out rfl;have aQ:=DR aK af V ag wc 0 C (bW.out wc bd.out) 0 (by omega);rw[du.out] at aQ;clear d;by_cases eM:8<E.size;·(go_wp2_with fail);go_ret;exact⟨rfl,bd.out⟩
   by_cases eN:400<bY.size;·(go_wp2_with fail);go_ret;exact⟨rfl,bd.out⟩
   have cN:(b:Int) % 2=0:=(by omega);go_wp2_with (go_at_call 7;refine aQ.mono ?_;rintro g eO ⟨rfl,dJ⟩)
   go_ret;exact⟨rfl,bd.out.trans (dJ.mono (by have:=bd.out.size;omega))⟩
  ·obtain⟨c2,be,dK,dL,cg⟩:=d.kept rfl;have dM:=hidI cg;rw[c1.out] at dK dL;obtain⟨ch,c3,ci,dN,aA,aU,aB,aC,aV,aD,eP,eQ,eR,aE,aF,aH,c4⟩:=d.nr.at (i:=0) (by omega);have bG:=c4.c1;rw[be] at bG;have dO:=hidI c2;have bg:¬ ((on:Int) == 0)=true:=(by simp;omega);have dQ:=dN.2;clear c4 d c2 be aR cg;subst ci;go_upto_region 17 with fail
   clear bG bF q1 u v x dQ R aT bg;go_wp2_with fail
   go_loopw [11] (fun f wr=>∃ y:Nat,y<=on∧f=.int .i64 y∧Hid (Below wc.heap.size wc wr)) (fun f _=>on - (intOf f).toNat)
   case atStart=>exact⟨0,En _,rfl,Ev _ _⟩
   case round =>
    obtain⟨f,cR,rfl,bH⟩:=hrel;have bI:=hidI (aS.out.below bH.out);have d:=bI.out;have R:=Za d.kp;have aT:=Za d.kr;obtain⟨bF,q1⟩:=aI d.kr;by_cases c5:f<on;rotate_left;·clear d;(go_wp2_with fail);go_ret;exact⟨rfl,bI.out.bel⟩
    obtain⟨a6,eS,ci,bJ,aA,aU,aB,aC,aV,aD,aW,bh,aX,aE,aF,aH,U⟩:=d.nr.at c5;cases ci;obtain⟨b,I⟩:=Zn (A.getD f dT);rw[I] at U;have c6:f<A.length:=(by rw[c1.out];exact c5);have c7:Hid (b ∈ A):=(by show b ∈ A;rw[<-I];have g:A.getD f dT=A[f]:=(by simp[List.getD,Eh c6]);rw[g];exact E4 _);have dR:=U.c0;have bG:=U.c1;have V:=U.c2;have dS:=U.c3;have dU:=U.c4;have dV:=U.c5;have dW:=bJ.2;have aJ:=Ej wr (.cells (Zs b.leaf b.page aA aU aB aC aV aD aW bh aX aE aF aH) 44);have bK:=Zb wr (.cells (Zs b.leaf b.page aA aU aB aC aV aD aW bh aX aE aF aH) 44);have ab:=hidI (bI.out.below bK);have bL:=hidI (U.keep bJ (.of_below bK));have S:=hidI (bH.out.trans (bK.mono bH.out.size));obtain⟨ad,bM⟩:=Zn wr.heap.size;clear U d I c6;(go_upto_region 21 with fail);generalize wr.alloc (.cells (Zs b.leaf b.page aA aU aB aC aV aD aW bh aX aE aF aH) 44)=c8 at aJ ab bL S ⊢;rw[bM] at aJ bL;(try rw[bM]);have cj:=Za aJ;obtain⟨aY,ae,aZ,a0,a1,a2⟩:=aq aJ;have ck:ch<ad:=(by rw[<-bM];exact bJ.2);clear dR bG V dS dU dV bF q1 dW bK bJ bI;by_cases bN:b.page=0
    ·rw[bN] at ae;(go_wp2_with fail);go_roundw
     case rel=>exact⟨f+1,by omega,by go_num,S⟩
     case measure=>simp[intOf];omega
    obtain⟨a3,b',c9,bO⟩:=dO.out b c7.out bN;have W:=b3;have bQ:=ab.out;have dX:=Za bQ.kp;obtain⟨u,v,x⟩:=kS bQ.kp;obtain⟨bR,bS⟩:=Zn (s.getD a3 dT);rw[bS] at bO;have bg:=Ea (p:=b.page) (by omega) bQ.np (by omega) c9 (by rw[bS];exact congrArg (fun k=>k.1) bO);have c':Hid (bR.keys=b.keys∧bR.vals=b.vals∧bR.over=b.over):=(by have B:=congrArg (fun k=>k.2) bO;exact⟨congrArg (fun k=>k.1) B,congrArg (fun k=>k.2.1) B,congrArg (fun k=>k.2.2) B⟩);have dY:(b.page == 0)=false:=(by simpa using bN);have dZ:a3<t:=(by omega);obtain⟨eT,be⟩:=Zn b.page;rw[be] at bg ae dY;have d0:=hidI bS;have eU:Hid (ad<c8.heap.size∧c8.heap[ad]?=some (.cells (Zs b.leaf b.page aA aU aB aC aV aD aW bh aX aE aF aH) 44)):=⟨cj,aJ⟩;clear c9 bO bQ bN be bS;(go_upto_region 23 with (go_at_call 10;refine bg.mono ?_;rintro g m ⟨rfl,T⟩));have bD:=hidI (S.out.trans (T.mono S.out.size));have a4:=hidI (ab.out.below T);have L:=bL.out.keep ⟨En _,ck⟩ (.of_below (T.mono (by omega)));have bi:=(T.block ad cj).trans aJ;obtain⟨aj,da,ep,db,d1,M,iq,d2,dc,d3,d4,r,d5,d6,d7,d8,F⟩:=a4.out.np.at (i:=a3) dZ;rw[d0.out] at F;obtain⟨dd,de,df⟩:=c'.out;have cg:=dM.out b c7.out;obtain rfl:M=aU:=(by have B:=F.keys.1;have G:=L.keys.1;rw[dd] at B;omega);obtain rfl:dc=aV:=(by have B:=F.vals.1;have G:=L.vals.1;rw[de] at B;omega);obtain rfl:r=bh:=(by have B:=F.over.1;have G:=L.over.1;rw[df] at B;omega);obtain rfl:r=dc:=(by have B:=L.over.1;have G:=L.vals.1;omega);subst ep;have cl:Hid (∀ e,Below m.heap.size m e->D6 w e C H Z (some ⟨aj,da,none⟩) t X ga gm al am an s true (some ⟨ch,c3,none⟩) on D A∧e.heap[ad]?=some (.cells (Zs b.leaf b.page aA M aB aC r aD aW r aX aE aF aH) 44)∧gK e 0 ad ch (c3+f*6) b aA M aB aC r aD aW r aX aE aF aH∧gK e 0 H aj (da+a3*6) bR d1 M iq d2 r d3 d4 r d5 d6 d7 d8∧aj<e.heap.size∧ad<e.heap.size∧H<e.heap.size):=fun e o=>⟨a4.out.below o,(o.block ad (Za bi)).trans bi,L.keep ⟨En _,ck⟩ (.of_below (o.mono (Nat.le_of_lt (Za bi)))),F.keep db (.of_below (o.mono (Nat.le_of_lt (Za a4.out.kp)))),by have:=db.2;have:=Za a4.out.kp;have:=o.size;omega,Er (Za bi) o.size,Er (Za a4.out.kp) o.size⟩;have dg:=hidI bD.out;have d9:((M:Int) != (M:Int))=false:=(by simp);have d':((r:Int) != (r:Int))=false:=(by simp);have eV:¬ ((a3:Int)<0):=(by omega);have eW:(a3:Int)<(t:Int):=(by omega);have eX:=F.keys.2.1;have eY:=F.vals.2.1;have eZ:=F.over.2.1;have e0:=L.keys.2.1;have e1:=L.vals.2.1;have e2:=L.over.2.1;have ea:=F.keys.2.2.1;have eb:=F.vals.2.2.1;unfold maxLen at ea eb;clear u v x aY ae aZ a0 a1 a2 bg aJ cj L bi F T ab bL S c' R aT dX ck;obtain⟨N,O,P,q,bT,bU,bV⟩:=cl.out m (Ev _ _);obtain⟨u,v,x⟩:=kS N.kp;obtain⟨aY,ae,aZ,a0,a1,a2⟩:=aq O;have dh:=q.c2;have di:=q.c3;clear N O P q;(go_wp2_with fail);go_quiet (fail)
    have cm:=hidI (pk m nq);generalize m.drewN nq=e at cm ⊢;clear u v x aY ae aZ a0 a1 a2 dh di bT bU bV bH bM bD a4 d9 d';(go_wp2_with fail);go_loopw [14] (fun f wr=>∃ y:Nat,y<=M∧f=.int .i64 y∧Hid (Below m.heap.size m wr)) (fun f _=>M - (intOf f).toNat)
    case atStart=>exact⟨0,En _,rfl,cm⟩
    case round =>
     clear cm;obtain⟨y,e3,rfl,Q⟩:=hrel;obtain⟨N,O,P,q,bT,bU,bV⟩:=cl.out wr Q.out;obtain⟨u,v,x⟩:=kS N.kp;obtain⟨aY,ae,aZ,a0,a1,a2⟩:=aq O;by_cases cn:y<M
     ·have bj:Hid (y<M):=cn;have dh:=q.c2;obtain⟨co,ec,cp,cq,cr,cs⟩:=aP.at P.keys cn;obtain⟨ct,ed,cu,cv,ee,bk⟩:=aP.at q.keys cn;subst cp cu;rw[dd] at bk;generalize b.keys.getD y .empty=ef at cs bk cr;have eg:co<wr.heap.size:=(by have:=cq.2;omega);have eh:ct<wr.heap.size:=(by have:=cv.2;omega);have Y:Hid (∀ k,Below m.heap.size m (wr.drewN k)):=fun k=>Q.out.trans ((pk wr k).mono Q.out.size);clear N O P q;(go_wp2_with fail);go_quiet (fail)
      (go_wp2_with fail);go_roundw
      case rel=>exact⟨y+1,bj.out,by go_num,Y.out _⟩
      case measure=>have:=bj.out;simp[intOf];omega
     ·clear N O P q;(go_wp2_with fail);generalize wr=e4 at *;clear u v x aY ae aZ a0 a1 a2 bT bU bV;go_loopw [15] (fun f wr=>∃ y:Nat,y<=r∧f=.int .i64 y∧Hid (Below m.heap.size m wr)) (fun f _=>r - (intOf f).toNat)
      case atStart=>exact⟨0,En _,rfl,Q⟩
      case round =>
       clear Q;obtain⟨bl,e5,rfl,Q⟩:=hrel;obtain⟨N,O,P,q,bT,bU,bV⟩:=cl.out wr Q.out;obtain⟨u,v,x⟩:=kS N.kp;obtain⟨aY,ae,aZ,a0,a1,a2⟩:=aq O;by_cases bm:bl<r
       ·have bj:Hid (bl<r):=bm;have di:=q.c3;have e6:=q.c4;obtain⟨co,ec,cp,cq,cr,cs⟩:=aP.at P.vals bm;obtain⟨ct,ed,cu,cv,ee,bk⟩:=aP.at q.vals bm;obtain⟨ei,e7,ej,ek,el,em⟩:=bf.at P.over bm;obtain⟨en,e8,eo,eq,e9,dj⟩:=bf.at q.over bm;subst cp cu ej eo;rw[de] at bk;rw[df] at dj;generalize b.vals.getD bl .empty=ef at cs bk cr;generalize b.over.getD bl 0=ox at em dj el;have eg:co<wr.heap.size:=(by have:=cq.2;omega);have eh:ct<wr.heap.size:=(by have:=cv.2;omega);have e':ei<wr.heap.size:=(by have:=ek.2;omega);have fa:en<wr.heap.size:=(by have:=eq.2;omega);have Y:Hid (∀ k,Below m.heap.size m (wr.drewN k)):=fun k=>Q.out.trans ((pk wr k).mono Q.out.size);clear N O P q;(go_wp2_with fail);go_quiet (fail)
        (go_wp2_with fail);go_roundw
        case rel=>exact⟨bl+1,bj.out,by go_num,Y.out _⟩
        case measure=>have:=bj.out;simp[intOf];omega
       ·have er:Hid (Below wc.heap.size wc wr):=dg.out.trans (Q.out.mono dg.out.size);clear N O P q;(go_wp2_with fail);go_roundw
        case rel=>exact⟨f+1,by omega,by go_num,er⟩
        case measure=>simp[intOf];omega
end Go.Proofs.YtggmghkcdfjdoaaGreat
