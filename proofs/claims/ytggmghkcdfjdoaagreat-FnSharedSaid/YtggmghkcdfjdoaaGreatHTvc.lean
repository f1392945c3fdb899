import Derived.Test.YtggmghkcdfjdoaaGreatHTks
import Derived.Test.YtggmghkcdfjdoaaGreatHTlq
import Derived.Test.YtggmghkcdfjdoaaGreatHTvr
namespace Go.Proofs.YtggmghkcdfjdoaaGreat
set_option maxHeartbeats 8000000
open Go.RowKit Tryz
set_option linter.unusedVariables false
set_option linter.unusedSimpArgs false
set_option maxRecDepth 100000
variable {B M SZ c n:Nat} {P:Program} {Q:Exit->Act->World->Prop} {Wd w:World} {a:Act} {ts:List TN} {xs:List Value}
theorem Am (w:World) (e:TypeId):(w.alloc (.cells #[] e)).ownsRow w.heap.size e 1 (.slice (some ⟨w.heap.size,0,none⟩) 0 0) 0 []:=by
 have:=World.ownsRow_made w #[] (base:=w.heap.size) (e:=e) (size:=1) 0 (by simp) (by unfold maxLen;omega) (by simp);simpa using this
theorem fi:(prog.info? 9).map (fun a=>(a.zero,a.size,a.bytes))=some (some (.string ByteArray.empty),1,16):=by kernel_rfl
theorem gR:(prog.info? 2).map (fun a=>(a.zero,a.size,a.bytes))=some (some (.int .i64 0),1,8):=by kernel_rfl
theorem mQ (a:Option Addr) (n c:Nat) (xs:List Value) (w:World) (s:xs.length=n) (G:n<=1048576) (k:a=none->n=0) (t:∀ b ∈ xs,b.oneCell'=true) (f:∀ e,a=some e->∀ d b,xs[d]?=some b->(e.add d).block<w.heap.size∧w.cell? (e.add d)=some b) :
  Calls prog 46 #[.slice a n c] w fun h l=>∃ m,h=.returned m∧l.ownsRow w.heap.size 9 1 m n xs∧Below w.heap.size w l:=by
 have H:∀ (w:World) (a:Option Addr) (n c i j:Nat),(binOp .eql 42 (.slice a n c) (.slice none i j)).run prog w=.ok (.bool a.isNone) w:=fun w a n c i j=>Lib.run_eql_slice_nil w _ _ a n c i j underlying42;obtain⟨u,v,x,y,z⟩:=info_parts fi;cases a with
 |none=>
  have A:=k rfl;subst A;obtain rfl:xs=[]:=List.length_eq_zero_iff.1 s;clear f k;go_enter func46,ntmps46;go_wp2
  go_ret;exact⟨_,rfl,World.ownsRow_nil _ _ _ _,Ev _ _⟩
 |some e=>
  have g:Below w.heap.size w (w.alloc (.cells #[] 9)):=Zb _ _;have o:=Am w 9;have B:∀ d b,xs[d]?=some b->(w.alloc (.cells #[] 9)).cell? (e.add d)=some b:=fun d b q=>(g.cell (p:=e.add d) (f e rfl d b q).1).trans (f e rfl d b q).2;clear f;go_enter func46,ntmps46;go_wp2_with (at_builtin;refine ak _ rfl _ _ 42 rfl w.heap.size 9 u _ 1 16 underlying42 v x y z rfl (by decide) _ _ _ rfl o e n c xs rfl (by omega) B t (by unfold maxLen;omega) (by omega) g.size ?_;intro C I r D J;rw[EK,ED] at r)
  have E:=g.grown D g.size (fun F h=>(o.lt F h).1);go_ret;exact⟨C,rfl,r,E⟩
theorem mR (a:Option Addr) (n c:Nat) (xs:List Value) (w:World) (s:xs.length=n) (G:n<=1048576) (k:a=none->n=0) (t:∀ b ∈ xs,b.oneCell'=true) (f:∀ e,a=some e->∀ d b,xs[d]?=some b->(e.add d).block<w.heap.size∧w.cell? (e.add d)=some b) :
  Calls prog 47 #[.slice a n c] w fun h l=>∃ m,h=.returned m∧l.ownsRow w.heap.size 2 1 m n xs∧Below w.heap.size w l:=by
 have H:∀ (w:World) (a:Option Addr) (n c i j:Nat),(binOp .eql 29 (.slice a n c) (.slice none i j)).run prog w=.ok (.bool a.isNone) w:=fun w a n c i j=>Lib.run_eql_slice_nil w _ _ a n c i j underlying29;obtain⟨u,v,x,y,z⟩:=info_parts gR;cases a with
 |none=>
  have A:=k rfl;subst A;obtain rfl:xs=[]:=List.length_eq_zero_iff.1 s;clear f k;go_enter func47,ntmps47;go_wp2
  go_ret;exact⟨_,rfl,World.ownsRow_nil _ _ _ _,Ev _ _⟩
 |some e=>
  have g:Below w.heap.size w (w.alloc (.cells #[] 2)):=Zb _ _;have o:=Am w 2;have B:∀ d b,xs[d]?=some b->(w.alloc (.cells #[] 2)).cell? (e.add d)=some b:=fun d b q=>(g.cell (p:=e.add d) (f e rfl d b q).1).trans (f e rfl d b q).2;clear f;go_enter func47,ntmps47;go_wp2_with (at_builtin;refine ak _ rfl _ _ 29 rfl w.heap.size 2 u _ 1 8 underlying29 v x y z rfl (by decide) _ _ _ rfl o e n c xs rfl (by omega) B t (by unfold maxLen;omega) (by omega) g.size ?_;intro C I r D J;rw[EK,ED] at r)
  have E:=g.grown D g.size (fun F h=>(o.lt F h).1);go_ret;exact⟨C,rfl,r,E⟩
theorem eW (xs:List ByteArray):∀ b ∈ aa ae xs,b.oneCell'=true:=by
 intro b a;obtain⟨c,_,a⟩:=List.mem_flatMap.1 a;simp[ae] at a;subst a;rfl
theorem gX (xs:List Int):∀ b ∈ aa ac xs,b.oneCell'=true:=by
 intro b a;obtain⟨c,_,a⟩:=List.mem_flatMap.1 a;simp[ac] at a;subst a;rfl
theorem gM {f:Type} {A:Nat} {cs:f->List Value} {fit:f->Prop} {d:f} {a:Option Addr} {xs:List f} (m:∀ x,(cs x).length=1) (h:aR w A B 1 cs fit d a n c xs) (y:B<=w.heap.size):(aa cs xs).length=n∧(a=none->n=0)∧∀ g,a=some g->∀ b j,(aa cs xs)[b]?=some j->(g.add b).block<w.heap.size∧w.cell? (g.add b)=some j:=by
 obtain⟨z,C,D,E,o⟩:=h;have p:(aa cs xs).length=n:=by rw[ay m];omega
 refine⟨p,fun k=>?_,fun g k b j q=>?_⟩
 ·rcases Fo n with h | h;·exact h
  ·obtain⟨i,l,e,_⟩:=o h;rw[k] at e;cases e
 ·have r:=Zc q;rw[p] at r;obtain⟨i,l,e,F,u⟩:=o (by omega);rw[k] at e;simp only[Option.some.injEq] at e;subst e;have v:(⟨i,l,none⟩:Addr).add b=⟨i,l+b,none⟩:=(by simp[Addr.add]);rw[v];refine⟨by show i<_;omega,?_⟩;have s:=u b r 0 (by omega);have t:=bI m d xs b 0 (by omega) (by omega);simp only[Fv,Fu] at s t;rw[s,<-t,q]
theorem vi:(prog.info? 44).map (fun a=>(a.zero,a.size,a.bytes))=some (some (.agg (Z0 false 0)),6,112):=by kernel_rfl
theorem gy (b o k:Nat):(⟨b,o,none⟩:Addr).add k=⟨b,o+k,none⟩:=by simp[Addr.add]
def be (x:TN):Prop:=x.keys.length<=1048576∧x.vals.length<=1048576∧x.over.length<=1048576∧x.kids.length<=1048576
structure Cm (w wr:World) (N:Nat) (a:Option Addr) (n c j:Nat) (oa:Option Addr) (oc:Nat) (ts:List TN) (us:Nat->Nat->Value):Prop where
 b0:wr.heap[N]?=some (.cells #[.slice a n c] 25)
 b1:wr.heap[N+1]?=some (.cells #[.slice none 0 0] 25)
 b2:wr.heap[N+2]?=some (.cells #[.slice oa j oc] 25)
 own:cj wr (N+3) (.slice oa j oc) ((ts.take j).map TN.nd) us
 bel:Below N w wr
theorem mS (ts:List TN) (a:Option Addr) (n c A B:Nat) (w:World) (dk:B<=w.heap.size) (bq:aw w A B a n c ts) (cB:n<=1048576) (b8:∀ x ∈ ts,be x) :
  Calls prog 25 #[.agg #[.slice a n c]] w fun H b9=>∃ F G ag,H=.returned (.agg #[.slice F n G])∧cj b9 w.heap.size (.slice F n G) (ts.map TN.nd) ag∧Below w.heap.size w b9:=by
 obtain⟨f,a6⟩:=Zn w.heap.size;obtain⟨ah,aN⟩:∃ ah,ah=((w.alloc (.cells #[.slice a n c] 25)).alloc (.cells #[.slice none 0 0] 25)).alloc (.cells #[.slice none 0 0] 25):=⟨_,rfl⟩;have b':Below w.heap.size w ah:=by rw[aN];exact ((Zb _ _).alloc (by simp) _).alloc (by simp;omega) _
 have dl:ah.heap.size=f+3:=by rw[aN];simp[a6]
 have br:Cm w ah f a n c 0 none 0 ts (fun _ _=>.slice none 0 0):=by have l:=nm w (.cells #[.slice a n c] 25) (.cells #[.slice none 0 0] 25) (.cells #[.slice none 0 0] 25);rw[<-aN,a6] at l;exact⟨l.1,l.2.1,l.2.2,by simpa using cj.nil ah (f+3) _,by rw[<-a6];exact b'⟩
 have cC:Hid (∀ wr,Below f w wr->aw wr A B a n c ts):=fun wr cD=>bq.below (cD.mono (by omega));have a7:=hidI bq.1;have cE:=hidI b8;have dm:=cB;obtain⟨cF,cG,cH,cI,cJ⟩:=info_parts vi;clear bq b8 b';go_enter func25,ntmps25;go_upto_region 2 with fail
 rw[<-aN];clear aN;have V:ah.cell? ⟨f,0,none⟩=some (.slice a n c):=by simp[World.cell?,br.b0]
 have cK:f<ah.heap.size:=by omega
 go_wp2_with fail
 clear V cK;go_loopw [9] (fun bs wr=>∃ (d:Nat) (F:Option Addr) (G:Nat) (ag:Nat->Nat->Value),d<=n∧bs=.int .i64 d∧Cm w wr f a n c d F G ts ag) (fun bs _=>n - (intOf bs).toNat)
 case atStart=>exact⟨0,none,0,_,En _,rfl,br⟩
 case round =>
  clear br;obtain⟨d,F,G,ag,dn,rfl,O⟩:=hrel;by_cases cL:d<n
  ·obtain⟨cM,cN,rfl,dp,aJ,h,aK,aC,i,aD,ai,j,al,W,k,X,bu⟩:=(cC.out wr O.bel).at cL;have a8:Hid _:=bu;obtain⟨bv,bw,ca,cO,cb,cP,_,_,_,_,_⟩:=bu;obtain⟨D,bx⟩:=Zn ((ts.getD d dT).leaf);obtain⟨E,bz⟩:=Zn ((ts.getD d dT).page);have cc:Hid ((ts.getD d dT).leaf=D∧(ts.getD d dT).page=E):=⟨bx,bz⟩;rw[bx] at bv;rw[bz] at bw;clear bx bz;have dq:=aO bv;have a9:Hid (be (ts.getD d dT)):=cE.out _ (by have a':d<ts.length:=(by have:=a7.out;omega);have:ts.getD d dT=ts[d]:=(by simp[List.getD,a']);rw[this];exact E4 _);obtain⟨e,bA⟩:=Zn wr.heap.size;have dr:f+3<=e:=(by have:=Za O.b2;omega);have aP:(wr.alloc (.cells (Zs D E aJ h aK aC i aD ai j al W k X) 44)).heap[e]?=some (.cells (Zs D E aJ h aK aC i aD ai j al W k X) 44):=(by rw[<-bA];exact Ej wr _);have bB:Below e wr (wr.alloc (.cells (Zs D E aJ h aK aC i aD ai j al W k X) 44)):=(by rw[<-bA];exact Zb _ _);have bC:=LL.nil (wr.alloc (.cells (Zs D E aJ h aK aC i aD ai j al W k X) 44)) (e+1);obtain⟨ba,bD⟩:∃ I:Nat->Value,I=fun _=>.slice none 0 0:=⟨_,rfl⟩;obtain⟨bb,bE⟩:∃ I:Nat->List Value,I=fun _=>[]:=⟨_,rfl⟩;rw[<-bD,<-bE] at bC;have cQ:Hid (ba=(fun _=>.slice none 0 0)∧bb=fun _=>[]):=⟨bD,bE⟩;have cR:=hidI O;clear O bD bE;go_upto_region 5 with fail
   generalize wr.alloc (.cells (Zs D E aJ h aK aC i aD ai j al W k X) 44)=cd at *;clear bv bw ca cO cb cP;obtain⟨am,an,ap,au,av,ax⟩:=aq aP;have cS:=ar aP;have ds:=Za aP;have aQ:=gM jb (a8.out.keys.keep (.of_below (bB.mono (by omega)))) (show B<=cd.heap.size by omega);have ce:=mQ aJ h aK (aa ae (ts.getD d dT).keys) cd aQ.1 (by rw[<-aQ.1,ay jb];have:=a9.out;unfold be at this;omega) aQ.2.1 (eW _) aQ.2.2;clear aQ;go_wp2_with fail
   refine ce.mono ?_;rintro H Z0 ⟨dt,rfl,aR,aS⟩;obtain⟨m,o,rfl⟩:=ao aR;have du:=aS.size;have bc:=(aS.block e (by omega)).trans aP;obtain⟨V,Y,aE,aF,aG,aH⟩:=aq bc;have cT:=ar bc;have dv:e<Z0.heap.size:=(by omega);have bF:=af Z0 e 2 (.slice m h o);have aT:(Z0.setCell ⟨e,2,none⟩ (.slice m h o)).heap[e]?=some (.cells (Zs D E m h o aC i aD ai j al W k X) 44):=(by simpa using aj bc 2 (.slice m h o));have bG:LL (Z0.setCell ⟨e,2,none⟩ (.slice m h o)) (e+1) (fun b=>if b=0 then .slice m h o else ba b) (fun b=>if b=0 then aa ae (ts.getD d dT).keys else bb b):=(by have aI:Z0.ownsRow (e+1) (oP 0) 1 (.slice m h o) (aa ae (ts.getD d dT).keys).length (aa ae (ts.getD d dT).keys):=(by have T:=aR.1;rw[Fv] at T;rw[T];exact bt aR (by omega));refine (bC.app (q:=0) (by omega) aI (sR (g:=0) aS _) (.inr (fun p J=>(aR.lt p J).1))).fr bF (fun p bH bI H=>by omega));have bJ:=(bB.trans (aS.mono (by omega))).trans (bF.below (by omega) (fun p H=>by omega));have cU:(Z0.setCell ⟨e,2,none⟩ (.slice m h o)).heap.size=Z0.heap.size:=(by simp[World.setCell]);have dw:Z0.heap.size<=(Z0.setCell ⟨e,2,none⟩ (.slice m h o)).heap.size∧(Z0.setCell ⟨e,2,none⟩ (.slice m h o)).heap.size<=Z0.heap.size:=(by omega);clear cU;go_upto_region 6 with fail
   generalize Z0.setCell ⟨e,2,none⟩ (.slice m h o)=cf at *;obtain⟨bd,bK⟩:∃ I,I=(fun b=>if b=0 then Value.slice m h o else ba b):=⟨_,rfl⟩;obtain⟨bf,bL⟩:∃ I,I=(fun b=>if b=0 then aa ae (ts.getD d dT).keys else bb b):=⟨_,rfl⟩;rw[<-bK,<-bL] at bG;have cV:Hid (bd=(fun b=>if b=0 then Value.slice m h o else ba b)∧bf=(fun b=>if b=0 then aa ae (ts.getD d dT).keys else bb b)):=⟨bK,bL⟩;clear bK bL ce aR aS bc bF bC aP bB cS cT am an ap au av ax V Y aE aF aG aH;obtain⟨am,an,ap,au,av,ax⟩:=aq aT;have cW:=ar aT;have dx:=Za aT;have aU:=gM jb (a8.out.vals.keep (.of_below (bJ.mono (by omega)))) (show B<=cf.heap.size by omega);have cg:=mQ aC i aD (aa ae (ts.getD d dT).vals) cf aU.1 (by rw[<-aU.1,ay jb];have:=a9.out;unfold be at this;omega) aU.2.1 (eW _) aU.2.2;clear aU;go_wp2_with fail
   refine cg.mono ?_;rintro H P ⟨dy,rfl,aV,aW⟩;obtain⟨r,s,rfl⟩:=ao aV;have dz:=aW.size;have bg:=(aW.block e (by omega)).trans aT;obtain⟨V,Y,aE,aF,aG,aH⟩:=aq bg;have cX:=ar bg;have dA:e<P.heap.size:=(by omega);have bM:=af P e 3 (.slice r i s);have aX:(P.setCell ⟨e,3,none⟩ (.slice r i s)).heap[e]?=some (.cells (Zs D E m h o r i s ai j al W k X) 44):=(by simpa using aj bg 3 (.slice r i s));have bN:LL (P.setCell ⟨e,3,none⟩ (.slice r i s)) (e+1) (fun b=>if b=1 then .slice r i s else bd b) (fun b=>if b=1 then aa ae (ts.getD d dT).vals else bf b):=(by have aI:P.ownsRow (e+1) (oP 1) 1 (.slice r i s) (aa ae (ts.getD d dT).vals).length (aa ae (ts.getD d dT).vals):=(by have T:=aV.1;rw[Fv] at T;rw[T];exact bt aV (by omega));refine (bG.app (q:=1) (by omega) aI (sR (g:=0) aW _) (.inr (fun p J=>(aV.lt p J).1))).fr bM (fun p bH bI H=>by omega));have bO:=(bJ.trans (aW.mono (by omega))).trans (bM.below (by omega) (fun p H=>by omega));have cY:(P.setCell ⟨e,3,none⟩ (.slice r i s)).heap.size=P.heap.size:=(by simp[World.setCell]);have dB:P.heap.size<=(P.setCell ⟨e,3,none⟩ (.slice r i s)).heap.size∧(P.setCell ⟨e,3,none⟩ (.slice r i s)).heap.size<=P.heap.size:=(by omega);clear cY;go_upto_region 7 with fail
   generalize P.setCell ⟨e,3,none⟩ (.slice r i s)=ch at *;obtain⟨bh,bP⟩:∃ I,I=(fun b=>if b=1 then Value.slice r i s else bd b):=⟨_,rfl⟩;obtain⟨bi,bQ⟩:∃ I,I=(fun b=>if b=1 then aa ae (ts.getD d dT).vals else bf b):=⟨_,rfl⟩;rw[<-bP,<-bQ] at bN;have cZ:Hid (bh=(fun b=>if b=1 then Value.slice r i s else bd b)∧bi=(fun b=>if b=1 then aa ae (ts.getD d dT).vals else bf b)):=⟨bP,bQ⟩;clear bP bQ cg aV aW bg bM bG aT bJ cW cX am an ap au av ax V Y aE aF aG aH;obtain⟨am,an,ap,au,av,ax⟩:=aq aX;have c0:=ar aX;have dC:=Za aX;have aY:=gM lh (a8.out.over.keep (.of_below (bO.mono (by omega)))) (show B<=ch.heap.size by omega);have ci:=mR ai j al (aa ac (ts.getD d dT).over) ch aY.1 (by rw[<-aY.1,ay lh];have:=a9.out;unfold be at this;omega) aY.2.1 (gX _) aY.2.2;clear aY;go_wp2_with fail
   refine ci.mono ?_;rintro H Q ⟨dD,rfl,aZ,a0⟩;obtain⟨t,y,rfl⟩:=ao aZ;have dE:=a0.size;have bj:=(a0.block e (by omega)).trans aX;obtain⟨V,Y,aE,aF,aG,aH⟩:=aq bj;have c1:=ar bj;have dF:e<Q.heap.size:=(by omega);have bR:=af Q e 4 (.slice t j y);have a1:(Q.setCell ⟨e,4,none⟩ (.slice t j y)).heap[e]?=some (.cells (Zs D E m h o r i s t j y W k X) 44):=(by simpa using aj bj 4 (.slice t j y));have bS:LL (Q.setCell ⟨e,4,none⟩ (.slice t j y)) (e+1) (fun b=>if b=2 then .slice t j y else bh b) (fun b=>if b=2 then aa ac (ts.getD d dT).over else bi b):=(by have aI:Q.ownsRow (e+1) (oP 2) 1 (.slice t j y) (aa ac (ts.getD d dT).over).length (aa ac (ts.getD d dT).over):=(by have T:=aZ.1;rw[Fv] at T;rw[T];exact bt aZ (by omega));refine (bN.app (q:=2) (by omega) aI (sR (g:=0) a0 _) (.inr (fun p J=>(aZ.lt p J).1))).fr bR (fun p bH bI H=>by omega));have bT:=(bO.trans (a0.mono (by omega))).trans (bR.below (by omega) (fun p H=>by omega));have c2:(Q.setCell ⟨e,4,none⟩ (.slice t j y)).heap.size=Q.heap.size:=(by simp[World.setCell]);have dG:Q.heap.size<=(Q.setCell ⟨e,4,none⟩ (.slice t j y)).heap.size∧(Q.setCell ⟨e,4,none⟩ (.slice t j y)).heap.size<=Q.heap.size:=(by omega);clear c2;go_upto_region 8 with fail
   generalize Q.setCell ⟨e,4,none⟩ (.slice t j y)=ck at *;obtain⟨bk,bU⟩:∃ I,I=(fun b=>if b=2 then Value.slice t j y else bh b):=⟨_,rfl⟩;obtain⟨bl,bV⟩:∃ I,I=(fun b=>if b=2 then aa ac (ts.getD d dT).over else bi b):=⟨_,rfl⟩;rw[<-bU,<-bV] at bS;have c3:Hid (bk=(fun b=>if b=2 then Value.slice t j y else bh b)∧bl=(fun b=>if b=2 then aa ac (ts.getD d dT).over else bi b)):=⟨bU,bV⟩;clear bU bV ci aZ a0 bj bR bN aX bO c0 c1 am an ap au av ax V Y aE aF aG aH;obtain⟨am,an,ap,au,av,ax⟩:=aq a1;have c4:=ar a1;have dH:=Za a1;have a2:=gM lh (a8.out.kids.keep (.of_below (bT.mono (by omega)))) (show B<=ck.heap.size by omega);have cl:=mR W k X (aa ac (ts.getD d dT).kids) ck a2.1 (by rw[<-a2.1,ay lh];have:=a9.out;unfold be at this;omega) a2.2.1 (gX _) a2.2.2;clear a2;go_wp2_with fail
   refine cl.mono ?_;rintro H R ⟨dI,rfl,a3,a4⟩;obtain⟨l,z,rfl⟩:=ao a3;have dJ:=a4.size;have bm:=(a4.block e (by omega)).trans a1;obtain⟨V,Y,aE,aF,aG,aH⟩:=aq bm;have c5:=ar bm;have dK:e<R.heap.size:=(by omega);have bW:=af R e 5 (.slice l k z);have bX:(R.setCell ⟨e,5,none⟩ (.slice l k z)).heap[e]?=some (.cells (Zs D E m h o r i s t j y l k z) 44):=(by simpa using aj bm 5 (.slice l k z));have bY:LL (R.setCell ⟨e,5,none⟩ (.slice l k z)) (e+1) (fun b=>if b=3 then .slice l k z else bk b) (fun b=>if b=3 then aa ac (ts.getD d dT).kids else bl b):=(by have aI:R.ownsRow (e+1) (oP 3) 1 (.slice l k z) (aa ac (ts.getD d dT).kids).length (aa ac (ts.getD d dT).kids):=(by have T:=a3.1;rw[Fv] at T;rw[T];exact bt a3 (by omega));refine (bS.app (q:=3) (by omega) aI (sR (g:=0) a4 _) (.inr (fun p J=>(a3.lt p J).1))).fr bW (fun p bH bI H=>by omega));have L:=(bT.trans (a4.mono (by omega))).trans (bW.below (by omega) (fun p H=>by omega));have c6:(R.setCell ⟨e,5,none⟩ (.slice l k z)).heap.size=R.heap.size:=(by simp[World.setCell]);have dL:R.heap.size<=(R.setCell ⟨e,5,none⟩ (.slice l k z)).heap.size∧(R.setCell ⟨e,5,none⟩ (.slice l k z)).heap.size<=R.heap.size:=(by omega);clear c6;go_upto_region 9 with fail
   generalize R.setCell ⟨e,5,none⟩ (.slice l k z)=K at *;obtain⟨aA,bZ⟩:∃ I,I=(fun b=>if b=3 then Value.slice l k z else bk b):=⟨_,rfl⟩;obtain⟨cm,b0⟩:∃ I,I=(fun b=>if b=3 then aa ac (ts.getD d dT).kids else bl b):=⟨_,rfl⟩;rw[<-bZ,<-b0] at bY;have c7:Hid (aA=(fun b=>if b=3 then Value.slice l k z else bk b)∧cm=(fun b=>if b=3 then aa ac (ts.getD d dT).kids else bl b)):=⟨bZ,b0⟩;clear bZ b0 cl a3 a4 bm bW bS a1 bT c4 c5 am an ap au av ax V Y aE aF aG aH;have Z:=cR.out;have dM:=Za bX;obtain⟨am,an,ap,au,av,ax⟩:=aq bX;have bn:=(L.block (f+2) (by omega)).trans Z.b2;have dO:K.cell? ⟨f+2,0,none⟩=some (.slice F d G):=(by simp[World.cell?,bn]);obtain⟨bo,cn⟩:=Zn K.heap.size;have S:Below K.heap.size K (K.alloc (.cells (Zs D E m h o r i s t j y l k z) 44)):=Zb _ _;have co:=Ej K (.cells (Zs D E m h o r i s t j y l k z) 44);rw[cn] at co;have dP:(K.alloc (.cells (Zs D E m h o r i s t j y l k z) 44)).heap.size=bo+1:=(by simp[cn]);have c8:∀ C b1,[Value.bool D,.int .i64 E,.slice m h o,.slice r i s,.slice t j y,.slice l k z][C]?=some b1->(K.alloc (.cells (Zs D E m h o r i s t j y l k z) 44)).cell? ((⟨bo,0,none⟩:Addr).add C)=some b1:=fun C b1 aL=>(by rw[gy bo 0 C,EK];simp only[World.cell?,co];simpa using aL);have b2:=bY.below S;have cp:((ts.take d).map TN.nd).length=d:=(by rw[EZ,Eu];have:=a7.out;omega);have cq:=(Z.own.below (by rw[bA];exact L)).below S;have cr:=cq.row;rw[cp] at cr;have c9:=(S.block (f+2) (by omega)).trans bn;have c':Hid (∀ aM N,N.ownsRow (f+3) 44 6 aM (d+1) (az (fun a5=>iI (((ts.take d).map TN.nd).getD a5 dN) (ag a5)) d++[.bool D,.int .i64 E,.slice m h o,.slice r i s,.slice t j y,.slice l k z])->(K.alloc (.cells (Zs D E m h o r i s t j y l k z) 44)).grownBy N (Value.slice F d G).ownBlock->∃ ab ad b3,aM=.slice ab (d+1) ad∧N.heap[f+2]?=some (.cells #[.slice F d G] 25)∧Cm w (N.setCell ⟨f+2,0,none⟩ aM) f (some ⟨cM,cN,none⟩) n c (d+1) ab ad ts b3):=by
    intro aM N bp aB;obtain⟨ab,ad,rfl⟩:=ao bp;have cs:=c7.out;have ct:=c3.out;have cu:=cZ.out;have cv:=cV.out;have da:=cQ.out;have db:∀ p,(Value.slice F d G).ownBlock=some p->f+3<=p∧p<e:=fun p J=>(by have:=Z.own.row.lt p J;omega);have cw:∀ C,C<f+3->N.heap[C]?=K.heap[C]?:=fun C aL=>(aB.block C (by omega) (fun H=>by have:=db C H.symm;omega)).trans (S.block C (by omega));have b4:∀ C,C<f+3->N.heap[C]?=wr.heap[C]?:=fun C aL=>(cw C aL).trans (L.block C (by omega));have dQ:=aB.size;have U:=af N (f+2) 0 (.slice ab (d+1) ad);have dc:Fr (fun p=>e<=p) wr (K.alloc (.cells (Zs D E m h o r i s t j y l k z) 44)):=⟨(S.os.trans L.os),(S.tape.trans L.tape),(S.output.trans L.output),by have:=L.size;omega,fun C aL bu=>(S.block C (by have:=L.size;omega)).trans (L.block C (by omega))⟩;have dd:∀ b,b<4->(TN.nd (ts.getD d dT)).l b=cm b:=fun b b5=>(by rw[cs.2,ct.2,cu.2,cv.2,da.2];have de:b=0∨b=1∨b=2∨b=3:=(by omega);rcases de with rfl | rfl | rfl | rfl<;>simp[TN.nd]);have cx:=Z.own.push (M:=e) (w2:=K.alloc (.cells (Zs D E m h o r i s t j y l k z) 44)) (w3:=N) (v':=.slice ab (d+1) ad) (nd:=TN.nd (ts.getD d dT)) (u:=aA) (fun p J=>by have:=(Z.own.blk J).2;omega) (by omega) dc (fun b b5=>by rw[dd b b5];exact bt (b2.row b b5) (by omega)) b2.apart (by rw[cp];have H:iI (TN.nd (ts.getD d dT)) aA=[.bool D,.int .i64 E,.slice m h o,.slice r i s,.slice t j y,.slice l k z]:=(by show [Value.bool (ts.getD d dT).leaf,.int .i64 (ts.getD d dT).page,aA 0,aA 1,aA 2,aA 3]=_;rw[cc.out.1,cc.out.2,cs.1,ct.1,cu.1,cv.1];simp);rw[H];exact bp) aB;have cy:N.heap[f+2]?=some (.cells #[.slice F d G] 25):=(cw (f+2) (by omega)).trans bn;refine⟨ab,ad,(fun a5=>if a5=((ts.take d).map TN.nd).length then aA else ag a5),rfl,cy,⟨(U.block f (by omega) (by omega)).trans ((b4 f (by omega)).trans Z.b0),(U.block (f+1) (by omega) (by omega)).trans ((b4 (f+1) (by omega)).trans Z.b1),by simpa using aj cy 0 (.slice ab (d+1) ad),?_,?_⟩⟩;·have a':d<ts.length:=(by have:=a7.out;omega);have df:ts.take (d+1)=ts.take d++[ts.getD d dT]:=(by rw[ER a'];simp[List.getD,a']);rw[df,E5];exact cx.fr U (fun p J H=>by have:=(cx.blk J).1;omega)
    ·refine Z.bel.trans ⟨(U.os.trans (aB.os.trans (S.os.trans L.os))),(U.tape.trans (aB.tape.trans (S.tape.trans L.tape))),(U.output.trans (aB.output.trans (S.output.trans L.output))),by have:=U.size;have:=L.size;omega,fun C aL=>(U.block C (by omega) (by omega)).trans (b4 C (by omega))⟩
   have dg:f+3<=(K.alloc (.cells (Zs D E m h o r i s t j y l k z) 44)).heap.size:=(by omega);have dh:f+2<K.heap.size:=(by omega);clear Z b2 cq c9 bY bn bX S;go_wp2_with (at_builtin;refine ak _ rfl _ _ 23 rfl (f+3) 44 cF _ 6 112 underlying23 cG cH cI cJ rfl (by decide) (.slice F d G) d _ rfl cr ⟨bo,0,none⟩ 1 1 [.bool D,.int .i64 E,.slice m h o,.slice r i s,.slice t j y,.slice l k z] rfl rfl c8 (by simp[Value.oneCell']) (by unfold maxLen;omega) (by omega) dg ?_;intro aM N bp aB dR;obtain⟨ab,ad,b3,rfl,b6,di⟩:=c'.out aM N bp aB;have dS:=ar b6;have dU:=Za b6;have cb:N.cell? ⟨f+2,0,none⟩=some (.slice F d G):=by simp[World.cell?,b6])
   go_roundw
   case rel=>exact⟨d+1,ab,ad,b3,by omega,by go_num,di⟩
   case measure=>simp[intOf];omega
  ·have dj:d=n:=(by omega);subst dj;have cz:(ts.take d).map TN.nd=ts.map TN.nd:=(by rw[Ey (by have:=a7.out;omega)]);have dh:=Za O.b2;have ca:wr.cell? ⟨f+2,0,none⟩=some (.slice F d G):=(by simp[World.cell?,O.b2]);have bw:wr.cell? ⟨f+1,0,none⟩=some (.slice none 0 0):=(by simp[World.cell?,O.b1]);have dV:=ar O.b1;have cA:Hid (cj (wr.setCell ⟨f+1,0,none⟩ (.slice F d G)) f (.slice F d G) (ts.map TN.nd) ag∧Below f w (wr.setCell ⟨f+1,0,none⟩ (.slice F d G))):=(by have U:=af wr (f+1) 0 (.slice F d G);have b7:=O.own;rw[cz] at b7;exact⟨(b7.fr U (fun p J H=>by have:=(b7.blk J).1;omega)).lower (by omega),O.bel.trans (U.below (by omega) (fun p H=>by omega))⟩);have Y:(wr.setCell ⟨f+1,0,none⟩ (.slice F d G)).cell? ⟨f+1,0,none⟩=some (.slice F d G):=(by simp[World.cell?,World.setCell,Array.getElem?_modify,O.b1]);have dW:f+1<wr.heap.size:=(by omega);clear O cz;go_wp2_with fail
   refine bodyPost_ret (v:=.agg #[.slice F d G]) (by simp[results,results25,go_sem,Y]) rfl ?_;rw[a6];exact⟨F,G,ag,rfl,cA.out.1,cA.out.2⟩
def gY (ts:List TN):Option T:=match gr ts (ts.length+1) 0 (fun _=>false) with
 | some (t,nx,_)=>if ts.length<=1000∧nx=ts.length∧t.slots.all (fun s=>cy s.1)=true∧it (t.slots.map (fun s=>s.1))=true then some t else none
 | none=>none
theorem j9 (h:¬ cF ts):gY ts=none:=by
 unfold gY;split
 ·rename_i a i b c;split;·rename_i d;obtain⟨e,rfl,f,g⟩:=d;exact absurd ⟨e,a,b,c,f,g⟩ h
  ·rfl
 ·rfl
theorem iZ {t:T} {c:Int->Bool} (h:cF ts) (b:gr ts (ts.length+1) 0 (fun _=>false)=some (t,ts.length,c)):gY ts=some t:=by
 obtain⟨d,g,i,a,e,f⟩:=h;rw[b] at a;simp only[Option.some.injEq,Prod.mk.injEq] at a;obtain⟨rfl,_,rfl⟩:=a;unfold gY;rw[b];simp only[d,e,f,and_self,if_true]
theorem bE {t:T} (h:gY ts=some t):cF ts∧(∃ g,gr ts (ts.length+1) 0 (fun _=>false)=some (t,ts.length,g))∧t.good true=true∧cg t∧0<=t.ht∧t.nodes<=1000∧bl t.slots∧t.slots.all (fun i=>cy i.1)=true:=by
 by_cases e:cF ts;·obtain⟨f,j,b,a,c,d⟩:=e;have:=iZ ⟨f,j,b,a,c,d⟩ a;rw[h] at this;simp only[Option.some.injEq] at this;subst this;obtain⟨o,p,k,l,m,n,q,r⟩:=iw ts _ 0 _ t _ _ (En _) a;exact⟨⟨f,t,b,a,c,d⟩,⟨b,a⟩,m,k,n,by have:=l.1;omega,oq d,c⟩
 ·rw[j9 e] at h;cases h
def dx (ts:List TN) (key val:ByteArray):Bool × List TN:=match gY ts with
 | none=>(false,ts)
 | some t=>if cy key=true∧val.size<=400∧(bu key val t).nodes<=1000 then (true,(bu key val t).flat 0) else (false,ts)
def fF (w:World) (r:Bool × List TN) (e:Ending) (w':World):Prop:=∃ oa oc us,e=.returned (.agg #[.bool r.1,.slice oa r.2.length oc])∧cj w' w.heap.size (.slice oa r.2.length oc) (r.2.map TN.nd) us∧Below w.heap.size w w'
theorem aI {N:Nat} {a b:Value} {t:TypeId} (h:w.heap[N]?=some (.cells #[a,b] t)):w.cell? ⟨N,0,none⟩=some a∧w.cell? ⟨N,1,none⟩=some b:=by
 simp[World.cell?,h]
theorem dr {a:World} {R b m:Nat} {d:Option Addr} {f:List ND} {us:Nat->Nat->Value} {k l:Value} (u:w.heap.size<=R) (g:a.heap[R]?=some (.cells #[k,l] 34)) (h:cj a b (.slice d m c) f us) (v:R<b) (i:Below w.heap.size w a) (e:Bool) :
  cj ((a.setCell ⟨R,0,none⟩ (.bool e)).setCell ⟨R,1,none⟩ (.slice d m c)) w.heap.size (.slice d m c) f us∧Below w.heap.size w ((a.setCell ⟨R,0,none⟩ (.bool e)).setCell ⟨R,1,none⟩ (.slice d m c))∧((a.setCell ⟨R,0,none⟩ (.bool e)).setCell ⟨R,1,none⟩ (.slice d m c)).heap[R]?=some (.cells #[.bool e,.slice d m c] 34):=by
 have n:=af a R 0 (.bool e);have o:=af (a.setCell ⟨R,0,none⟩ (.bool e)) R 1 (.slice d m c);have x:=Za g;have j:=n.trans o;refine⟨(h.fr j (fun p q r=>by have:=(h.blk q).1;omega)).lower (by omega),i.trans (j.below i.size (fun p r=>by omega)),?_⟩;have s:=aj g 0 (.bool e);have t:=aj s 1 (.slice d m c);simpa using t
theorem ot (ts:List TN) (a:Option Addr) (n c A B:Nat) (w:World) (ce:B<=w.heap.size) (aO:aw w A B a n c ts) (bS:n<=1048576) (r:∀ e ∈ ts,be e) (key val:ByteArray) (cf:val.size<=1048576) :
  Calls prog 6 #[.agg #[.slice a n c],.string key,.string val] w fun d o=>fF w (dx ts key val) d o:=by
 obtain⟨b,J⟩:=Zn w.heap.size;obtain⟨f,K⟩:∃ f,f=(w.alloc (.cells #[.slice a n c] 25)).alloc (.cells #[.bool false,.slice none 0 0] 34):=⟨_,rfl⟩;have aP:Below w.heap.size w f:=by rw[K];exact (Zb _ _).alloc (by simp) _
 have ch:f.heap.size=b+2:=by rw[K];simp[J]
 have aQ:f.heap[b]?=some (.cells #[.slice a n c] 25):=by rw[K,<-J];exact ((Zb (w.alloc (.cells #[.slice a n c] 25)) _).block w.heap.size (by simp)).trans (Ej w _)
 have bf:f.heap[b+1]?=some (.cells #[.bool false,.slice none 0 0] 34):=by
  rw[K];have:=Ej (w.alloc (.cells #[.slice a n c] 25)) (.cells #[.bool false,.slice none 0 0] 34)
  rwa [show (w.alloc (.cells #[.slice a n c] 25)).heap.size=b+1 by simp[J]] at this
 have bg:Hid (∀ g,Below b w g->aw g A B a n c ts):=fun g p=>aO.below (p.mono (by omega));have bh:=hidI aO.1;have ci:=hidI r;rw[J] at aP;have bi:=jG ts a n c A B f (by omega) (bg.out f aP);have D:=j3 key;have au:f.cell? ⟨b,0,none⟩=some (.slice a n c):=by simp[World.cell?,aQ]
 have bj:b<f.heap.size:=by omega
 have av:Hid (∀ g,Below b w g->Calls prog 25 #[.agg #[.slice a n c]] g fun d o=>∃ h i aR,d=.returned (.agg #[.slice h n i])∧cj o g.heap.size (.slice h n i) (ts.map TN.nd) aR∧Below g.heap.size g o):=fun g p=>mS ts a n c A B g (by have:=p.size;omega) (bg.out g p) bS r;clear aO r;go_enter func6,ntmps6;go_upto_region 1 with fail
 rw[<-K];clear K;go_wp2_with fail
 refine bi.mono ?_;rintro d l ⟨bk,aS,ae⟩;have ck:=ae.size;have aT:=(ae.block b (by omega)).trans aQ;have af:=(ae.block (b+1) (by omega)).trans bf;have ax:=aP.trans (ae.mono (by omega));clear bi au aQ bf;have au:l.cell? ⟨b,0,none⟩=some (.slice a n c):=by simp[World.cell?,aT]
 have bj:b<l.heap.size:=by omega
 by_cases y:cF ts;rotate_left
 focus
  obtain rfl:=bk y;have ay:Hid (dx ts key val=(false,ts)):=(by show _=_;unfold dx;rw[j9 y]);clear aS D y;have z:=ax;have az:=af;have ag:=av.out l z
 rotate_left;obtain⟨j,cl,cm,aA,aU,aV,rfl,ah⟩:=aS y;have C:=iZ y aA;obtain⟨_,_,L,N,aB,aX,aC,aD⟩:=bE C;obtain⟨E,F,rfl⟩:=ah.shape;clear bk aS;by_cases s:cy key=true;rotate_left
 focus
  have bl:cy key=false:=(by simpa using s);have ay:Hid (dx ts key val=(false,ts)):=(by show _=_;unfold dx;rw[C];simp only[];rw[if_neg (fun p=>s p.1)]);have O:Calls prog 24 #[.string key] l fun d o=>d=.returned (.bool false)∧o=l:=(by have:=D l;rw[bl] at this;exact this);clear D C aA aU aV ah L N aB aX aC aD y s bl;go_wp2_with fail
  refine O.mono ?_;rintro d aE ⟨rfl,rfl⟩;have z:=ax;have az:=af;have ag:=av.out aE z
 rotate_right;by_cases G:val.size<=400;rotate_left
 focus
  have bT:(400:Int)<(val.size:Int):=(by omega);have ay:Hid (dx ts key val=(false,ts)):=(by show _=_;unfold dx;rw[C];simp only[];rw[if_neg (fun p=>G p.2.1)]);have O:Calls prog 24 #[.string key] l fun d o=>d=.returned (.bool true)∧o=l:=(by have:=D l;rw[s] at this;exact this);clear D C aA aU aV ah L N aB aX aC aD y s G;go_wp2_with fail
  refine O.mono ?_;rintro d aE ⟨rfl,rfl⟩;have z:=ax;have az:=af;have ag:=av.out aE z
 rotate_right;have bT:¬ ((400:Int)<(val.size:Int)):=by omega
 have cn:=hidI C;obtain⟨bU,co,cp,bV,bm,bn⟩:=yO key val G j true (by omega) L aB N aC l _ E F ah (fun P r=>r.2);have bW:=bm (.agg #[.string key,.string val,.int .i64 0]);obtain⟨bX,bo,bp,bY,bZ⟩:=mN (key:=key) (val:=val) G s L N aD;have Q:Hid ((bu key val j).whole=true∧(bu key val j).nodes<=2001∧cg (bu key val j)):=⟨bp,by omega,bo⟩;have b0:=(iV key val G j true L N).size.2;have bq:Hid (cy key=true∧val.size<=400):=⟨s,G⟩;have b1:Hid (∀ f,Calls prog 24 #[.string key] f fun d o=>d=.returned (.bool true)∧o=f):=fun f=>by have:=D f;rw[s] at this;exact this
 have br:Hid (bu key val j=if (aW key val j).size<=4 then aW key val j else ⟨false,0,[],[],[],cR (aW key val j)⟩):=rfl;have bs:Hid (dx ts key val=if cy key=true∧val.size<=400∧(bu key val j).nodes<=1000 then (true,(bu key val j).flat 0) else (false,ts)):=by show _=_;unfold dx;rw[C]
 clear D bm C aA aU aV ah L N aB aX aC aD bX bo bp bY bZ y s G;have O:=b1.out l;generalize bu key val j=q at *;generalize aW key val j=S at *;go_wp2_with fail
 refine O.mono ?_;rintro d aE ⟨rfl,rfl⟩;go_wp2_with fail
 refine bn.mono ?_;rintro d g ⟨rfl,⟨b2,T,aF⟩,ai⟩;have b3:=ai.size;have aY:=ax.trans (ai.below (by omega) (fun bt d=>by have:=d.1;omega));have aZ:=(ai.block b (by omega) (fun d=>by have:=d.1;omega)).trans aT;have a0:=(ai.block (b+1) (by omega) (fun d=>by have:=d.1;omega)).trans af;obtain⟨bv,cq,cr,bw,bx,aG⟩:=T.size;obtain⟨a1,a2⟩:=Zn S.size;have aj:=hidI a2;rw[a2] at aG b0;clear bn bU bV bW ai a2 aT af au bj O ae;go_wp2_with fail
 refine aG.mono ?_;rintro d bz ⟨rfl,rfl⟩;by_cases a3:a1<=4
 focus
  have b4:¬ ((4:Int)<(a1:Int)):=(by omega);have ak:q=S:=(by rw[br.out,if_pos (by rw[aj.out];exact a3)]);rw[<-ak] at T;have a4:=pA bz Q.out.1 (GM.see _ _ _ T) (fun P r=>(aF P r).2) (by have:=Q.out.2.1;omega);clear ak T aG bw bv bx;have bA:=aY;have bB:=aZ;have bC:=a0;have b5:=b3;generalize bz=u at *
 rotate_left
 focus
  have b4:(4:Int)<(a1:Int):=(by omega);have bD:=pB T 3 (by omega) (by rw[aj.out];omega) (by rw[aj.out];omega) (fun e m=>(aF e m).2);clear aG bw bv bx;go_wp2_with fail
  refine bD.mono ?_;rintro d x ⟨cs,rfl,⟨ct,cu,bF,a5,b6,al⟩,am⟩;obtain⟨U,V,rfl⟩:=a5.shape;have b5:=am.size;have aH:∀ e,b2 e->b+2<=e:=fun e m=>by
   rcases (aF e m).1 with d | d;·omega
   ·omega
  have bG:=aY.trans (am.below (by omega) (fun bt d=>by have:=aH bt d;omega));have bH:=(am.block b (by omega) (fun d=>by have:=aH _ d;omega)).trans aZ;have bI:=(am.block (b+1) (by omega) (fun d=>by have:=aH _ d;omega)).trans a0;obtain⟨M,a6⟩:=Zn x.heap.size;obtain⟨u,W⟩:∃ u,u=(x.alloc (.cells #[.iface E F,.iface U V] 68)).alloc (.cells #[.int .i64 0,.slice (some ⟨M,0,none⟩) 2 2] 83):=⟨_,rfl⟩;have X:Below x.heap.size x u:=(by rw[W];exact (Zb _ _).alloc (by simp) _);have cv:u.heap.size=M+2:=(by rw[W];simp[a6]);have bJ:u.heap[M]?=some (.cells #[.iface E F,.iface U V] 68):=(by rw[W,<-a6];exact ((Zb (x.alloc (.cells #[.iface E F,.iface U V] 68)) _).block x.heap.size (by simp)).trans (Ej x _));have bK:u.heap[M+1]?=some (.cells #[.int .i64 0,.slice (some ⟨M,0,none⟩) 2 2] 83):=by
   rw[W];have:=Ej (x.alloc (.cells #[.iface E F,.iface U V] 68)) (.cells #[.int .i64 0,.slice (some ⟨M,0,none⟩) 2 2] 83)
   rwa [show (x.alloc (.cells #[.iface E F,.iface U V] 68)).heap.size=M+1 by simp[a6]] at this
  have ak:q=⟨false,0,[],[],[],[S.fore 3,S.rest 3]⟩:=(by rw[br.out,if_neg (by rw[aj.out];exact a3)];unfold cR;rw[if_neg (by rw[aj.out];exact a3)]);have bL:gf u (fun P=>P<M+2) q (.iface 77 (.pointer (some ⟨M+1,0,none⟩))):=by
   rw[ak];refine eM.is (t:=⟨false,0,[],[],[],[S.fore 3,S.rest 3]⟩) (a:=some ⟨M,0,none⟩) (n:=2) (c:=2) (us:=fun H=>if H=0 then .iface E F else .iface U V) ⟨by show M+1<M+2;omega,bK,⟨rfl,Ek _,by unfold maxLen;omega⟩,fun _=>⟨M,rfl,by show M<M+2;omega,fun H Y=>?_⟩,fun H cw a7 Y=>?_⟩ rfl;·have a8:H=0∨H=1:=(by omega);rcases a8 with rfl | rfl<;>simp[World.cell?,bJ]
   ·have a8:H=0∨H=1:=(by have:=Zc Y;simp at this;omega);rcases a8 with rfl | rfl;·simp at Y;subst Y;exact gf.keep (fun e m=>X.block e (al e (.inl m)).2) (fun e m=>by have:=(al e (.inl m)).2;show e<M+2;omega) _ _ (GM.see _ _ _ bF)
    ·simp at Y;subst Y;exact gf.keep (fun e m=>X.block e (al e (.inr m)).2) (fun e m=>by have:=(al e (.inr m)).2;show e<M+2;omega) _ _ (GM.see _ _ _ a5)
  have a4:=pA u Q.out.1 bL (fun P r=>by have:P<M+2:=r;omega) (by have:=Q.out.2.1;omega);have bA:=bG.trans (X.mono (by omega));have bB:=(X.block b (by omega)).trans bH;have bC:=(X.block (b+1) (by omega)).trans bI;clear bL ak bF a5 b6 al am bD T aF aH bJ bK X bH bI aZ a0 aY bG;go_upto_region 7 with fail
  rw[<-W];clear W
 rotate_right
 iterate 2
  focus
   go_wp2_with fail
   refine a4.mono ?_;rintro d Z ⟨h,i,aR,rfl,bM,an⟩;have cx:=an.size;have I:Below Z.heap.size Z (Z.alloc (.cells #[.slice h q.nodes i] 25)):=Zb _ _;have aJ:=Ej Z (.cells #[.slice h q.nodes i] 25);have a9:=(I.block b (by omega)).trans ((an.block b (by omega)).trans bB);have aa:=(I.block (b+1) (by omega)).trans ((an.block (b+1) (by omega)).trans bC);have aK:=bM.below I;have aL:=(bA.trans (an.mono (by omega))).trans (I.mono (by omega));have bN:=I.size;have b7:Hid (∃ k,q.nodes=k):=⟨_,rfl⟩;obtain⟨k,a7⟩:=b7.out;have a':=hidI a7;have cz:k<=2001:=(by have:=Q.out.2.1;omega);rw[a7] at aJ aK a9 aa aL I bN ⊢;obtain⟨b8,b9⟩:=Zn Z.heap.size;rw[b9] at aJ bN;go_upto_region 8 with fail
   generalize Z.alloc (.cells #[.slice h k i] 25)=ab at *;have cA:ab.cell? ⟨b8,0,none⟩=some (.slice h k i):=(by simp[World.cell?,aJ]);have au:ab.cell? ⟨b,0,none⟩=some (.slice a n c):=(by simp[World.cell?,a9]);have cB:=Za aJ;have cC:b<ab.heap.size:=(by omega);clear a4 bM an I;by_cases bO:k<=1000
   ·have b':¬ ((1000:Int)<(k:Int)):=(by omega);obtain⟨ca,q1⟩:=aI aa;have cb:=ar aa;have cc:b+1<ab.heap.size:=(by omega);obtain⟨ao,ap,aq⟩:=dr (w:=w) (R:=b+1) (by omega) aa aK (by omega) (by rw[J];exact aL) true;obtain⟨ba,bb⟩:=aI aq;have bc:Hid (fF w (dx ts key val) (.returned (.agg #[.bool true,.slice h k i])) ((ab.setCell ⟨b+1,0,none⟩ (.bool true)).setCell ⟨b+1,1,none⟩ (.slice h k i))):=by
     rw[bs.out,if_pos ⟨bq.out.1,bq.out.2,by rw[a'.out];exact bO⟩];have bP:(q.flat 0).length=k:=(by rw[dq q Q.out.2.2,a'.out]);refine⟨h,i,aR,?_,?_,ap⟩;·show _=Ending.returned (.agg #[.bool true,.slice h (q.flat 0).length i]);rw[bP]
     ·show cj _ _ (.slice h (q.flat 0).length i) _ _;rw[bP];exact ao
    clear ao ap aq aK aa a9 aL;(go_wp2_with fail);exact bodyPost_ret (v:=.agg #[.bool true,.slice h k i]) (by simp[results,results6,go_sem,ba,bb]) rfl bc.out
   have b':(1000:Int)<(k:Int):=(by omega);have ay:Hid (dx ts key val=(false,ts)):=(by show _=_;rw[bs.out,if_neg (fun p=>bO (by rw[<-a'.out];exact p.2.2))]);clear aK;have z:=aL;have az:=aa;have ag:=av.out ab z
  rotate_left
 all_goals
  go_wp2_with fail
  refine ag.mono ?_;rintro d bd ⟨ac,ad,cd,rfl,bQ,aM⟩;have cD:=aM.size;have aN:=(aM.block (b+1) (by omega)).trans az;obtain⟨ca,q1⟩:=aI aN;have cb:=ar aN;have cc:b+1<bd.heap.size:=(by omega);have bR:Below w.heap.size w bd:=(by rw[J];exact z.trans (aM.mono (by omega)));obtain⟨ao,ap,aq⟩:=dr (w:=w) (R:=b+1) (by omega) aN bQ (by omega) bR false;obtain⟨ba,bb⟩:=aI aq;have bc:Hid (fF w (dx ts key val) (.returned (.agg #[.bool false,.slice ac n ad])) ((bd.setCell ⟨b+1,0,none⟩ (.bool false)).setCell ⟨b+1,1,none⟩ (.slice ac n ad))):=by
   rw[ay.out];refine⟨ac,ad,cd,?_,?_,ap⟩;·show _=Ending.returned (.agg #[.bool false,.slice ac ts.length ad]);rw[bh.out]
   ·show cj _ _ (.slice ac ts.length ad) _ _;rw[bh.out];exact ao
  clear ag bQ ao ap aq aM bR aN;go_wp2_with fail
  exact bodyPost_ret (v:=.agg #[.bool false,.slice ac n ad]) (by simp[results,results6,go_sem,ba,bb]) rfl bc.out
def gE (j:Nat):TypeId:=if j<2 then 9 else if j=2 then 2 else 57
def gS (j:Nat):Nat:=if j<3 then 1 else 6
theorem ke (a:Act) (d t:Nat) (v:Value) (h:t≠d):(a.put (some d) v).eval (.tmp t)=a.eval (.tmp t):=by
 simp only[Act.put,Act.eval,Array.getD_eq_getD_getElem?];rw[Fd (Ne.symm h)]
theorem jk (a:Act) (d:Nat) (v:Value) (h:d<a.tmps.size):(a.put (some d) v).eval (.tmp d)=v:=by
 simp only[Act.put,Act.eval,Array.getD_eq_getD_getElem?];rw[Array.getElem?_setIfInBounds_self_of_lt h];rfl
structure JG (SZ:Nat) (Wd:World) (M:Nat) (da:Nat->Nat->Nat) (con:Nat->Nat->List Value) (len:Nat->Nat->Nat) (keep:List (Nat × Value)) (p:Nat->Nat) (a:Act) (w:World):Prop where
 sz:a.tmps.size=SZ
 df:a.defers=[]
 kp:∀ x ∈ keep,a.eval (.tmp x.1)=x.2
 cur:∀ j,j<4->0<p j->w.ownsRow M (gE j) (gS j) (a.eval (.tmp (da j (p j)))) (len j (p j)) (con j (p j))
 apart:∀ i j,i<4->j<4->i≠j->0<p i->0<p j->∀ g,(a.eval (.tmp (da i (p i)))).ownBlock=some g->(a.eval (.tmp (da j (p j)))).ownBlock≠some g
 fr:Fr (fun g=>M<=g) Wd w
def rI (p:Nat->Nat) (j q:Nat):Nat->Nat:=fun i=>if i=j then q else p i
theorem JG.move {e:Nat->Nat->Nat} {y:Nat->Nat->List Value} {z:Nat->Nat->Nat} {A:List (Nat × Value)} {p:Nat->Nat} {w':World} (h:JG SZ Wd M e y z A p a w) {j q mx:Nat} (t:j<4) (I:0<q) (J:q<=mx) (K:∀ b,b<4->p b<=mx) (L:∀ b r l s,b<4->l<4->0<r->r<=mx->0<s->s<=mx->b≠l->e b r≠e l s) (N:∀ u ∈ A,u.1≠e j q) (O:e j q<SZ) (R:M<=w.heap.size)
  {v:Value} (P:w'.ownsRow M (gE j) (gS j) v (z j q) (y j q)) (E:Fr (fun c=>0<p j∧(a.eval (.tmp (e j (p j)))).ownBlock=some c) w w') (Q:∀ c,v.ownBlock=some c->(0<p j∧(a.eval (.tmp (e j (p j)))).ownBlock=some c)∨w.heap.size<=c) :
  JG SZ Wd M e y z A (rI p j q) (a.put (some (e j q)) v) w':=by
 have B:e j q<a.tmps.size:=by rw[h.sz];exact O
 have o:∀ b,b<4->b≠j->0<p b->(a.put (some (e j q)) v).eval (.tmp (e b (p b)))=a.eval (.tmp (e b (p b))):=fun b f n d=>ke a _ _ v (L b (p b) j q f t d (K b f) I J n);have F:∀ b,b<4->b≠j->0<p b->∀ c,(a.eval (.tmp (e b (p b)))).ownBlock=some c->v.ownBlock≠some c:=fun b f n d c g i=>by
  rcases Q c i with ⟨m,G⟩ | G;·exact h.apart b j f t n d m c g G
  ·have:=((h.cur b f d).lt c g).2;omega
 refine⟨by simp[Act.put,h.sz],by simp[Act.put,h.df],fun u H=>by rw[ke a _ _ v (N u H)];exact h.kp u H,fun b f d=>?_,fun b l f x n d m c g=>?_,?_⟩
 ·by_cases k:b=j;·subst k;simp only[rI,if_true] at d ⊢;rw[jk a _ v B];exact P
  ·simp only[rI,if_neg k] at d ⊢;rw[o b f k d];exact am (h.cur b f d) E (fun c g i=>h.apart b j f t k d i.1 c g i.2)
 ·by_cases k:b=j;·subst k;have C:l≠b:=fun i=>n i.symm;simp only[rI,if_true,if_neg C] at d m g ⊢;rw[jk a _ v B] at g;rw[o l x C m];exact fun i=>F l x C m c i g
  ·by_cases D:l=j;·subst D;simp only[rI,if_true,if_neg k] at d m g ⊢;rw[jk a _ v B];rw[o b f k d] at g;exact F b f k d c g
   ·simp only[rI,if_neg k,if_neg D] at d m g ⊢;rw[o b f k d] at g;rw[o l x D m];exact h.apart b l f x n d m c g
 ·refine h.fr.trans (E.weak (fun c i=>((h.cur j t i.1).lt c i.2).1))
theorem eC {ops:Array Oper} {o:Oper} {K:Act->World->Prop} {E:Prop} (b:o.guard=none) (t e:TypeId) (c:o.op=.buildSlice t 0 #[]) (d:(Instr.buildSlice t 0 #[]).run P w=.ok (.slice (some ⟨w.heap.size,0,none⟩) 0 0) (w.alloc (.cells #[] e)))
  (h:K (a.put o.dst (.slice (some ⟨w.heap.size,0,none⟩) 0 0)) (w.alloc (.cells #[] e))):if Region.wanted o (yielded ops a.tmps)=true then Oper.wp P o a w K Q else E:=by
 rw[if_pos (by simp[Region.wanted,b])];unfold Oper.wp execOp;simp only[c,Sem.run_bind,Sem.run_pure,Result.andThen_ok,List.map_toArray,E6,d];exact h
theorem jl (w:World):(Instr.buildSlice 42 0 #[]).run prog w=.ok (.slice (some ⟨w.heap.size,0,none⟩) 0 0) (w.alloc (.cells #[] 9)):=by kernel_rfl
theorem lZ (w:World):(Instr.buildSlice 29 0 #[]).run prog w=.ok (.slice (some ⟨w.heap.size,0,none⟩) 0 0) (w.alloc (.cells #[] 2)):=by kernel_rfl
theorem wS (w:World):(Instr.buildSlice 55 0 #[]).run prog w=.ok (.slice (some ⟨w.heap.size,0,none⟩) 0 0) (w.alloc (.cells #[] 57)):=by kernel_rfl
theorem dp (w:World) (e size M:Nat) (h:M<=w.heap.size):(w.alloc (.cells #[] e)).ownsRow M e size (.slice (some ⟨w.heap.size,0,none⟩) 0 0) 0 []:=by
 have:=World.ownsRow_made w #[] (base:=w.heap.size) (e:=e) (size:=size) 0 (by simp) (by unfold maxLen;omega) (by simp);have a:(w.alloc (.cells #[] e)).ownsRow w.heap.size e size (.slice (some ⟨w.heap.size,0,none⟩) 0 0) 0 []:=by simpa using this
 exact bt a h
theorem nG (base:Nat) (t ty e:TypeId) (i:TypeInfo) (size c:Nat) (ht:P.underlying t=some (.slice e)) (a:P.info? e=some i) (v:Value) (n:Nat) (xs:List Value) (b:w.ownsRow base e size v n xs):(Builtin.append_ #[t,t] ty #[v,.slice none 0 c]).run P w=.ok v w:=by
 rcases b.2 with ⟨rfl,rfl⟩ | ⟨f,g,h,rfl,_,_,d,_⟩;·simp[Builtin.append_,run_underlying ht,sizeOf,typeInfo,a,Builtin.lenOf,Builtin.firstCells]
 ·simp[Builtin.append_,run_underlying ht,sizeOf,typeInfo,a,Builtin.lenOf,Builtin.firstCells,d,storeCells]
def bi (w:World) (B size m:Nat) (v:Value) (xs:List Value):Prop:=xs.length=m*size∧m<=1048576∧(∀ u ∈ xs,u.oneCell'=true)∧∃ ad c,v=.slice ad m c∧(ad=none->m=0)∧(0<xs.length->∃ b off,ad=some ⟨b,off,none⟩)∧∀ x,ad=some x->∀ j u,xs[j]?=some u->(x.add j).block<B∧w.cell? (x.add j)=some u
theorem bi.below {w':World} {size m:Nat} {v:Value} (h:bi w B size m v xs) (i:Below B w w'):bi w' B size m v xs:=by
 obtain⟨j,k,l,n,c,o,q,r,d⟩:=h;exact⟨j,k,l,n,c,o,q,r,fun a e b f g=>⟨(d a e b f g).1,(i.cell (p:=a.add b) (d a e b f g).1).trans (d a e b f g).2⟩⟩
theorem aN {ops:Array Oper} {o:Oper} {K:Act->World->Prop} {E:Prop}
  (j:o.guard=none) (s x:Operand) (t:TypeId) (k:o.op=.call { callee:=.builtin .append,args:=#[s,x],argTypes:=#[t,t] })
  (base:Nat) (e:TypeId) (i:TypeInfo) (z:Value) (size b:Nat) (ht:P.underlying t=some (.slice e)) (l:P.info? e=some i) (A:i.zero=some z)
  (C:i.size=size) (D:i.bytes=b) (F:z.cells.size=size) (G:0<size) (H:b<=1000)
  (v:Value) (n:Nat) (xs:List Value) (p:a.eval s=v) (f:w.ownsRow base e size v n xs) (W:n<=1048576)
  (u:Value) (B m:Nat) (d:List Value) (q:a.eval x=u) (I:bi w B size m u d) (J:base<=w.heap.size)
  (h:∀ v' w',w'.ownsRow base e size v' (n+m) (xs++d)->w.grownBy w' v.ownBlock->(v'.ownBlock=v.ownBlock∨∀ g,v'.ownBlock=some g->w.heap.size<=g)->K (a.put o.dst v') w') :
  if Region.wanted o (yielded ops a.tmps)=true then Oper.wp P o a w K Q else E:=by
 obtain⟨r,X,L,M,c,rfl,N,Y,O⟩:=I;have R:(n+m)*b<=140737488355328:=Eo (Nat.mul_le_mul_left _ H) (by omega);cases M with
 | some y=>exact li j s x t k base e i z size b ht l A C D F G v n xs p f y m c d q r (fun S u T=>(O y rfl S u T).2) L (by unfold maxLen;omega) R J h
 |none=>have U:=N rfl;subst U;obtain rfl:d=[]:=List.length_eq_zero_iff.1 (by rw[r];simp);rw[if_pos (by simp[Region.wanted,j])];have V:=nG (P:=P) base t o.type e i size c ht l v n xs f;unfold Oper.wp execOp;simp only[k,resolve,invoke,builtin,Sem.run_bind,Sem.run_pure,Result.andThen_ok,List.map_toArray,Ex,E6,p,q,V];exact h v w (by simpa using f) ⟨rfl,rfl,rfl,Ek _,fun _ _ _=>rfl⟩ (.inl rfl)
theorem aJ (w:World) {ops:Array Oper} {rest:List Oper} {o:Oper} {a:Act} {Q:Exit->Act->World->Prop} (d:o.guard=none) (s x:Operand) (t:TypeId)
  (l:o.op=.call { callee:=.builtin .append,args:=#[s,x],argTypes:=#[t,t] })
  (base:Nat) (e:TypeId) (i:TypeInfo) (z:Value) (size f:Nat) (ht:P.underlying t=some (.slice e)) (p:P.info? e=some i) (q:i.zero=some z)
  (r:i.size=size) (y:i.bytes=f) (A:z.cells.size=size) (C:0<size) (D:f<=1000)
  (v:Value) (n:Nat) (xs:List Value) (F:a.eval s=v) (G:w.ownsRow base e size v n xs) (H:n<=1048576)
  (u:Value) (B m:Nat) (j:List Value) (I:a.eval x=u) (J:bi w B size m u j) (L:base<=w.heap.size)
  (h:∀ b c,c.ownsRow base e size b (n+m) (xs++j)->w.grownBy c v.ownBlock->(b.ownBlock=v.ownBlock∨∀ g,b.ownBlock=some g->w.heap.size<=g)->wpList P ops Q rest (a.put o.dst b) c):wpList P ops Q (o::rest) a w:=by
 refine wpList_plain d fun M N=>?_;have k:=aN (P:=P) (ops:=ops) (o:=o) (a:=a) (w:=w) (K:=M) (Q:=Q) (E:=True) d s x t l base e i z size f ht p q r y A C D v n xs F G H u B m j I J L (fun b c O R S=>N _ _ (h b c O R S));rw[if_pos (by simp[Region.wanted,d])] at k;exact k
theorem bi.fore {s k:Nat} {a:Option Addr} (h:bi w B s n (.slice a n c) xs) (f:k<=n):bi w B s k (.slice a k c) (xs.take (k*s)):=by
 obtain⟨t,u,g,v,x,b,i,j,l⟩:=h;simp only[Value.slice.injEq] at b;obtain⟨rfl,_,rfl⟩:=b;have y:=Nat.mul_le_mul_right s f;refine⟨by rw[Eu];omega,by omega,fun e m=>g e (EI m),a,c,rfl,fun b=>by have:=i b;omega,fun o=>j (by rw[Eu] at o;omega),fun p q r e d=>l p q r e ?_⟩;rw[E9] at d;split at d;·exact d
 ·cases d
theorem bi.rest {s k:Nat} {a:Option Addr} (h:bi w B s n (.slice a n c) xs) (A:k<=n) (C:n<=c):bi w B s (n - k) (.slice (if c=k then a else a.map (fun m=>m.add (k*s))) (n - k) (c - k)) (xs.drop (k*s)):=by
 obtain⟨r,D,t,E,F,b,u,o,v⟩:=h;simp only[Value.slice.injEq] at b;obtain⟨rfl,_,rfl⟩:=b;have p:(xs.drop (k*s)).length=(n - k)*s:=by rw[ET,r,Nat.sub_mul]
 refine⟨p,by omega,fun e x=>t e (EF x),_,_,rfl,fun b=>?_,fun y=>?_,fun m d z e f=>?_⟩
 ·split at b;·omega
  ·cases a with
   | none=>have:=u rfl;omega
   | some G=>cases b
 ·have g:0<xs.length:=(by rw[ET] at y;omega);obtain⟨i,j,rfl⟩:=o g;split;·exact⟨i,j,rfl⟩
  ·exact⟨i,j+k*s,by rw[Option.map_some,gy]⟩
 ·have l:=Zc f;have g:0<xs.length:=(by rw[ET] at l;omega);obtain⟨i,j,rfl⟩:=o g;rw[E2] at f;have q:=v _ rfl (k*s+z) e f;split at d;·have:n - k=0:=(by omega);rw[p,this] at l;simp at l
  ·rw[Option.map_some,gy] at d;simp only[Option.some.injEq] at d;subst d;rw[gy,Fx];rw[gy] at q;exact q
def cT:Array Oper:=#[
 ⟨some 5,Op.fieldAddr 57 (.tmp 2) 0,0,"l3_tree.go:271",#[],none⟩,
 ⟨some 6,Op.load 4 (.tmp 5),4,"l3_tree.go:271",#[⟨0,.data⟩],none⟩,
 ⟨some 7,Op.buildSlice 42 0 #[],42,"l3_tree.go:271",#[],none⟩,
 ⟨some 8,Op.fieldAddr 57 (.tmp 2) 2,0,"l3_tree.go:271",#[],none⟩,
 ⟨some 9,Op.load 42 (.tmp 8),42,"l3_tree.go:271",#[⟨3,.data⟩],none⟩,
 ⟨some 10,Op.call { callee:=Callee.builtin Builtin.append,args:=#[Operand.tmp 7,Operand.tmp 9],argTypes:=#[42,42] },42,"l3_tree.go:271",#[⟨2,.data⟩,⟨4,.data⟩],none⟩,
 ⟨some 11,Op.fieldAddr 57 (.tmp 3) 2,0,"l3_tree.go:271",#[],none⟩,
 ⟨some 12,Op.load 42 (.tmp 11),42,"l3_tree.go:271",#[⟨6,.data⟩],none⟩,
 ⟨some 13,Op.call { callee:=Callee.builtin Builtin.append,args:=#[Operand.tmp 10,Operand.tmp 12],argTypes:=#[42,42] },42,"l3_tree.go:271",#[⟨5,.data⟩,⟨7,.data⟩,⟨5,.chain⟩],none⟩,
 ⟨some 14,Op.buildSlice 42 0 #[],42,"l3_tree.go:271",#[],none⟩,
 ⟨some 15,Op.fieldAddr 57 (.tmp 2) 3,0,"l3_tree.go:271",#[],none⟩,
 ⟨some 16,Op.load 42 (.tmp 15),42,"l3_tree.go:271",#[⟨10,.data⟩],none⟩,
 ⟨some 17,Op.call { callee:=Callee.builtin Builtin.append,args:=#[Operand.tmp 14,Operand.tmp 16],argTypes:=#[42,42] },42,"l3_tree.go:271",#[⟨9,.data⟩,⟨11,.data⟩,⟨8,.chain⟩],none⟩,
 ⟨some 18,Op.fieldAddr 57 (.tmp 3) 3,0,"l3_tree.go:271",#[],none⟩,
 ⟨some 19,Op.load 42 (.tmp 18),42,"l3_tree.go:271",#[⟨13,.data⟩],none⟩,
 ⟨some 20,Op.call { callee:=Callee.builtin Builtin.append,args:=#[Operand.tmp 17,Operand.tmp 19],argTypes:=#[42,42] },42,"l3_tree.go:271",#[⟨12,.data⟩,⟨14,.data⟩,⟨12,.chain⟩],none⟩,
 ⟨some 21,Op.buildSlice 29 0 #[],29,"l3_tree.go:271",#[],none⟩,
 ⟨some 22,Op.fieldAddr 57 (.tmp 2) 4,0,"l3_tree.go:271",#[],none⟩,
 ⟨some 23,Op.load 29 (.tmp 22),29,"l3_tree.go:271",#[⟨17,.data⟩],none⟩,
 ⟨some 24,Op.call { callee:=Callee.builtin Builtin.append,args:=#[Operand.tmp 21,Operand.tmp 23],argTypes:=#[29,29] },29,"l3_tree.go:271",#[⟨16,.data⟩,⟨18,.data⟩,⟨15,.chain⟩],none⟩,
 ⟨some 25,Op.fieldAddr 57 (.tmp 3) 4,0,"l3_tree.go:271",#[],none⟩,
 ⟨some 26,Op.load 29 (.tmp 25),29,"l3_tree.go:271",#[⟨20,.data⟩],none⟩,
 ⟨some 27,Op.call { callee:=Callee.builtin Builtin.append,args:=#[Operand.tmp 24,Operand.tmp 26],argTypes:=#[29,29] },29,"l3_tree.go:271",#[⟨19,.data⟩,⟨21,.data⟩,⟨19,.chain⟩],none⟩,
 ⟨some 28,Op.buildSlice 55 0 #[],55,"l3_tree.go:271",#[],none⟩,
 ⟨some 29,Op.fieldAddr 57 (.tmp 2) 5,0,"l3_tree.go:271",#[],none⟩,
 ⟨some 30,Op.load 55 (.tmp 29),55,"l3_tree.go:271",#[⟨24,.data⟩],none⟩,
 ⟨some 31,Op.call { callee:=Callee.builtin Builtin.append,args:=#[Operand.tmp 28,Operand.tmp 30],argTypes:=#[55,55] },55,"l3_tree.go:271",#[⟨23,.data⟩,⟨25,.data⟩,⟨22,.chain⟩],none⟩,
 ⟨some 32,Op.fieldAddr 57 (.tmp 3) 5,0,"l3_tree.go:271",#[],none⟩,
 ⟨some 33,Op.load 55 (.tmp 32),55,"l3_tree.go:271",#[⟨27,.data⟩],none⟩,
 ⟨some 34,Op.call { callee:=Callee.builtin Builtin.append,args:=#[Operand.tmp 31,Operand.tmp 33],argTypes:=#[55,55] },55,"l3_tree.go:271",#[⟨26,.data⟩,⟨28,.data⟩,⟨26,.chain⟩],none⟩,
 ⟨some 35,Op.build 57 #[(0,Operand.tmp 6),(2,Operand.tmp 13),(3,Operand.tmp 20),(4,Operand.tmp 27),(5,Operand.tmp 34)],57,"l3_tree.go:271",#[⟨1,.data⟩,⟨8,.data⟩,⟨15,.data⟩,⟨22,.data⟩,⟨29,.data⟩],none⟩,
 ⟨none,Op.store 57 (.tmp 4) (.tmp 35),0,"l3_tree.go:271",#[⟨30,.data⟩,⟨29,.chain⟩,⟨0,.phase⟩,⟨1,.phase⟩,⟨2,.phase⟩,⟨3,.phase⟩,⟨4,.phase⟩,⟨5,.phase⟩,⟨6,.phase⟩,⟨7,.phase⟩,⟨8,.phase⟩,⟨9,.phase⟩,⟨10,.phase⟩,⟨11,.phase⟩,⟨12,.phase⟩,⟨13,.phase⟩,⟨14,.phase⟩,⟨15,.phase⟩,⟨16,.phase⟩,⟨17,.phase⟩,⟨18,.phase⟩,⟨19,.phase⟩,⟨20,.phase⟩,⟨21,.phase⟩,⟨22,.phase⟩,⟨23,.phase⟩,⟨24,.phase⟩,⟨25,.phase⟩,⟨26,.phase⟩,⟨27,.phase⟩,⟨28,.phase⟩,⟨29,.phase⟩,⟨30,.phase⟩],none⟩]
def pG (p0 p1 p2 p3:Nat):Array Bool:=#[true,true,decide (1<=p0),true,true,decide (2<=p0),true,true,decide (3<=p0),decide (1<=p1),true,true,decide (2<=p1),true,true,decide (3<=p1),decide (1<=p2),true,true,decide (2<=p2),true,true,decide (3<=p2),decide (1<=p3),true,true,decide (2<=p3),true,true,decide (3<=p3),false,false]
def gZ (p0 p1 p2 p3:Nat):Bool:=(decide (p1<=1) || decide (p0=3)) && (decide (p2<=1) || decide (p1=3)) && (decide (p3<=1) || decide (p2=3))
def An (p0 p1 p2 p3 i:Nat):Bool:=(i == 2 && p0 == 0) || (i == 9 && p1 == 0) || (i == 16 && p2 == 0) || (i == 23 && p3 == 0) || (i == 5 && p0 == 1) || (i == 8 && p0 == 2) || (i == 12 && p1 == 1 && p0 == 3) || (i == 15 && p1 == 2) || (i == 19 && p2 == 1 && p1 == 3) || (i == 22 && p2 == 2) || (i == 26 && p3 == 1 && p2 == 3) || (i == 29 && p3 == 2)
def xR:Bool:=(List.range 4).all fun p0=>(List.range 4).all fun p1=>(List.range 4).all fun p2=>(List.range 4).all fun p3=>!(gZ p0 p1 p2 p3) || (p0 == 3 && p1 == 3 && p2 == 3 && p3 == 3) || (!((Region.ready .any cT (pG p0 p1 p2 p3)).isEmpty) && (Region.ready .any cT (pG p0 p1 p2 p3)).all (fun i=>An p0 p1 p2 p3 i))
theorem tE:xR=true:=by kernel_rfl
theorem wT (b:Nat) (f:b<4) (c:Nat) (g:c<4) (d:Nat) (h:d<4) (e:Nat) (i:e<4) (j:gZ b c d e=true) (k:¬ (b=3∧c=3∧d=3∧e=3)):Region.ready .any cT (pG b c d e)≠[]∧(Region.ready .any cT (pG b c d e)).all (fun l=>An b c d e l)=true:=by
 have a:=tE;unfold xR at a;have a:=Ez.1 a b (List.mem_range.2 f);have a:=Ez.1 a c (List.mem_range.2 g);have a:=Ez.1 a d (List.mem_range.2 h);have a:=Ez.1 a e (List.mem_range.2 i);rw[j] at a;simp only[Fg,E8,Bool.or_eq_true,Em,beq_iff_eq] at a;rcases a with a | a;·exact absurd ⟨a.1.1.1,a.1.1.2,a.1.2,a.2⟩ k
 ·exact⟨fun m=>by rw[m] at a;simp at a,a.2⟩
def wi (j q:Nat):Nat:=4+3*q+7*j
theorem xS (i r k s:Nat) (a:i<4) (b:k<4) (c:0<r) (d:r<=3) (e:0<s) (f:s<=3) (g:i≠k):wi i r≠wi k s:=by unfold wi;omega
def mT (xA xB:Nat->List Value) (j q:Nat):List Value:=if q=1 then [] else if q=2 then xA j else xA j++xB j
def k7 (nA nB:Nat->Nat) (j q:Nat):Nat:=if q=1 then 0 else if q=2 then nA j else nA j+nB j
def p4 (p0 p1 p2 p3:Nat):Nat->Nat:=fun j=>if j=0 then p0 else if j=1 then p1 else if j=2 then p2 else p3
theorem vj (e b c d q:Nat):∀ a,a<4->p4 q b c d a=rI (p4 e b c d) 0 q a:=fun a g=>by
 have f:a=0∨a=1∨a=2∨a=3:=by omega
 rcases f with rfl | rfl | rfl | rfl<;>rfl
theorem vk (b e c d q:Nat):∀ a,a<4->p4 b q c d a=rI (p4 b e c d) 1 q a:=fun a g=>by
 have f:a=0∨a=1∨a=2∨a=3:=by omega
 rcases f with rfl | rfl | rfl | rfl<;>rfl
theorem vp (b c e d q:Nat):∀ a,a<4->p4 b c q d a=rI (p4 b c e d) 2 q a:=fun a g=>by
 have f:a=0∨a=1∨a=2∨a=3:=by omega
 rcases f with rfl | rfl | rfl | rfl<;>rfl
theorem vq (b c d e q:Nat):∀ a,a<4->p4 b c d q a=rI (p4 b c d e) 3 q a:=fun a g=>by
 have f:a=0∨a=1∨a=2∨a=3:=by omega
 rcases f with rfl | rfl | rfl | rfl<;>rfl
theorem iD {a b:Nat->Nat} {j q:Nat} (h:a j<=1048576) (c:0<q) (d:q<3):k7 a b j q<=1048576:=by
 unfold k7;split;·omega
 ·split;·exact h
  ·omega
theorem JG.re {f:Nat->Nat->Nat} {g:Nat->Nat->List Value} {i:Nat->Nat->Nat} {j:List (Nat × Value)} {p k:Nat->Nat} (h:JG SZ Wd M f g i j p a w) (e:∀ b,b<4->k b=p b):JG SZ Wd M f g i j k a w :=
 ⟨h.sz,h.df,h.kp,fun b c d=>by rw[e b c] at d ⊢;exact h.cur b c d,fun l b m c o d n=>by rw[e l m] at d ⊢;rw[e b c] at n ⊢;exact h.apart l b m c o d n,h.fr⟩
theorem yT {S:World->Prop} (an:M<=Wd.heap.size) (z:∀ w,Fr (fun I=>M<=I) Wd w->S w) (aq:35<=SZ) (af ag:Nat->Value) (C D:Nat->List Value) (E F:Nat->Nat) (O:List (Nat × Value)) (ah:∀ T ∈ O,∀ b,b<4->∀ j,0<j->j<=3->T.1≠wi b j) (W:∀ b,b<4->(9+7*b,af b) ∈ O) (X:∀ b,b<4->(12+7*b,ag b) ∈ O)
  (A:∀ b,b<4->bi Wd M (gS b) (E b) (af b) (C b)) (Y:∀ b,b<4->bi Wd M (gS b) (F b) (ag b) (D b))
  (ao:∀ a w,JG SZ Wd M wi (mT C D) (k7 E F) O (fun _=>3) a w->wpAnyH prog .any cT Q S 2 (pG 3 3 3 3) a w) :
  ∀ U e f g d a w,e<4->f<4->g<4->d<4->gZ e f g d=true->e+f+g+d+U=12->JG SZ Wd M wi (mT C D) (k7 E F) O (p4 e f g d) a w->wpAnyH prog .any cT Q S (U+2) (pG e f g d) a w:=by
 intro U
 induction U with
 |zero=>intro e f g d a w ai R aa aj y ap m;obtain rfl:e=3:=(by omega);obtain rfl:f=3:=(by omega);obtain rfl:g=3:=(by omega);obtain rfl:d=3:=(by omega);exact ao a w (m.re (fun b J=>by unfold p4;split;rfl;split;rfl;split;rfl;rfl))
 |succ U B=>
  intro e f g d a w ai R aa aj y ap m;obtain⟨ak,al⟩:=wT e ai f R g aa d aj y (by omega);have G:=Eo an m.fr.size;have K:Below M Wd w:=⟨m.fr.os,m.fr.tape,m.fr.output,m.fr.size,fun ab c=>m.fr.block ab (by omega) (by omega)⟩;have am:∀ n,n<4->p4 e f g d n<=3:=fun n ac=>(by unfold p4;split;omega;split;omega;split;omega;omega);have Z:∀ b,b<4->p4 e f g d b=0->JG SZ Wd M wi (mT C D) (k7 E F) O (rI (p4 e f g d) b 1) (a.put (some (wi b 1)) (.slice (some ⟨w.heap.size,0,none⟩) 0 0)) (w.alloc (.cells #[] (gE b))):=fun b J V =>m.move (mx:=3) J (by omega) (by omega) am xS (fun T ad=>ah T ad b J 1 (by omega) (by omega)) (by unfold wi;omega) G (dp w (gE b) (gS b) M G) ⟨rfl,rfl,rfl,by simp,fun ab c _=>(Zb w _).block ab c⟩ (fun I P=>.inr (by have:=cC P;omega));have L:∀ b j,b<4->0<j->j<3->p4 e f g d b=j->∀ k l,l.ownsRow M (gE b) (gS b) k (k7 E F b (j+1)) (mT C D b (j+1))->w.grownBy l (a.eval (.tmp (wi b j))).ownBlock->(k.ownBlock=(a.eval (.tmp (wi b j))).ownBlock∨∀ I,k.ownBlock=some I->w.heap.size<=I)->JG SZ Wd M wi (mT C D) (k7 E F) O (rI (p4 e f g d) b (j+1)) (a.put (some (wi b (j+1))) k) l:=fun b j J R aa V k l p q r =>
   m.move (mx:=3) J (by omega) (by omega) am xS (fun T ad=>ah T ad b J (j+1) (by omega) (by omega)) (by unfold wi;omega) G p (Fr.of_grown q (fun I P=>by rw[V];exact⟨R,P⟩)) (fun I P=>by
    rcases r with ae | ae;·rw[ae] at P;exact .inl (by rw[V];exact⟨R,P⟩)
    ·exact .inr (ae I P))
  have N:∀ b j,b<4->0<j->p4 e f g d b=j->w.ownsRow M (gE b) (gS b) (a.eval (.tmp (wi b j))) (k7 E F b j) (mT C D b j):=fun b j J R V=>(by have:=m.cur b J (by omega);rw[V] at this;exact this);refine wpAnyH_all rfl ak (fun n ac=>?_);have c:=Ez.1 al n ac;clear al ak ac;simp only[An,Bool.or_eq_true,Em,beq_iff_eq] at c;rcases c with (((((((((((c | c) | c) | c) | c) | c) | c) | c) | c) | c) | c) | c);·obtain rfl:n=2:=c.1;obtain rfl:e=0:=c.2;refine wpOp_step (ops:=cT) (o:=⟨some 7,Op.buildSlice 42 0 #[],42,"l3_tree.go:271",#[],none⟩) rfl (fun H i=>?_);refine eC rfl 42 9 rfl (jl w) ?_;have h:=((Z 0 (by omega) rfl).re (vj 0 f g d 1));exact i _ _ ⟨z _ h.fr,B 1 f g d _ _ (by omega) (by omega) (by omega) (by omega) (by revert y;unfold gZ;simp<;>omega) (by omega) h⟩
  ·obtain rfl:n=9:=c.1;obtain rfl:f=0:=c.2;refine wpOp_step (ops:=cT) (o:=⟨some 14,Op.buildSlice 42 0 #[],42,"l3_tree.go:271",#[],none⟩) rfl (fun H i=>?_);refine eC rfl 42 9 rfl (jl w) ?_;have h:=((Z 1 (by omega) rfl).re (vk e 0 g d 1));exact i _ _ ⟨z _ h.fr,B e 1 g d _ _ (by omega) (by omega) (by omega) (by omega) (by revert y;unfold gZ;simp<;>omega) (by omega) h⟩
  ·obtain rfl:n=16:=c.1;obtain rfl:g=0:=c.2;refine wpOp_step (ops:=cT) (o:=⟨some 21,Op.buildSlice 29 0 #[],29,"l3_tree.go:271",#[],none⟩) rfl (fun H i=>?_);refine eC rfl 29 2 rfl (lZ w) ?_;have h:=((Z 2 (by omega) rfl).re (vp e f 0 d 1));exact i _ _ ⟨z _ h.fr,B e f 1 d _ _ (by omega) (by omega) (by omega) (by omega) (by revert y;unfold gZ;simp<;>omega) (by omega) h⟩
  ·obtain rfl:n=23:=c.1;obtain rfl:d=0:=c.2;refine wpOp_step (ops:=cT) (o:=⟨some 28,Op.buildSlice 55 0 #[],55,"l3_tree.go:271",#[],none⟩) rfl (fun H i=>?_);refine eC rfl 55 57 rfl (wS w) ?_;have h:=((Z 3 (by omega) rfl).re (vq e f g 0 1));exact i _ _ ⟨z _ h.fr,B e f g 1 _ _ (by omega) (by omega) (by omega) (by omega) (by revert y;unfold gZ;simp<;>omega) (by omega) h⟩
  ·obtain rfl:n=5:=c.1;obtain rfl:e=1:=c.2;refine wpOp_step (ops:=cT) (o:=⟨some 10,Op.call { callee:=Callee.builtin Builtin.append,args:=#[Operand.tmp 7,Operand.tmp 9],argTypes:=#[42,42] },42,"l3_tree.go:271",#[⟨2,.data⟩,⟨4,.data⟩],none⟩) rfl (fun H i=>?_);obtain⟨s,t,u,v,x⟩:=info_parts fi;refine aN rfl _ _ 42 rfl M 9 s _ 1 16 underlying42 t u v x rfl (by decide) (by decide) _ _ _ rfl (N 0 1 (by omega) (by omega) rfl) (iD (A 0 (by omega)).2.1 (by omega) (by omega)) _ M (E 0) (C 0) (m.kp _ (W 0 (by omega))) ((A 0 (by omega)).below K) G ?_;intro k l p q r;have h:=((L 0 1 (by omega) (by omega) (by omega) rfl k l (by have:=p;simpa[k7,mT,gE,gS] using this) q r).re (vj 1 f g d 2));exact i _ _ ⟨z _ h.fr,B 2 f g d _ _ (by omega) (by omega) (by omega) (by omega) (by revert y;unfold gZ;simp<;>omega) (by omega) h⟩
  ·obtain rfl:n=8:=c.1;obtain rfl:e=2:=c.2;refine wpOp_step (ops:=cT) (o:=⟨some 13,Op.call { callee:=Callee.builtin Builtin.append,args:=#[Operand.tmp 10,Operand.tmp 12],argTypes:=#[42,42] },42,"l3_tree.go:271",#[⟨5,.data⟩,⟨7,.data⟩,⟨5,.chain⟩],none⟩) rfl (fun H i=>?_);obtain⟨s,t,u,v,x⟩:=info_parts fi;refine aN rfl _ _ 42 rfl M 9 s _ 1 16 underlying42 t u v x rfl (by decide) (by decide) _ _ _ rfl (N 0 2 (by omega) (by omega) rfl) (iD (A 0 (by omega)).2.1 (by omega) (by omega)) _ M (F 0) (D 0) (m.kp _ (X 0 (by omega))) ((Y 0 (by omega)).below K) G ?_;intro k l p q r;have h:=((L 0 2 (by omega) (by omega) (by omega) rfl k l (by have:=p;simpa[k7,mT,gE,gS] using this) q r).re (vj 2 f g d 3));exact i _ _ ⟨z _ h.fr,B 3 f g d _ _ (by omega) (by omega) (by omega) (by omega) (by revert y;unfold gZ;simp<;>omega) (by omega) h⟩
  ·obtain rfl:n=12:=c.1.1;obtain rfl:f=1:=c.1.2;obtain rfl:e=3:=c.2;refine wpOp_step (ops:=cT) (o:=⟨some 17,Op.call { callee:=Callee.builtin Builtin.append,args:=#[Operand.tmp 14,Operand.tmp 16],argTypes:=#[42,42] },42,"l3_tree.go:271",#[⟨9,.data⟩,⟨11,.data⟩,⟨8,.chain⟩],none⟩) rfl (fun H i=>?_);obtain⟨s,t,u,v,x⟩:=info_parts fi;refine aN rfl _ _ 42 rfl M 9 s _ 1 16 underlying42 t u v x rfl (by decide) (by decide) _ _ _ rfl (N 1 1 (by omega) (by omega) rfl) (iD (A 1 (by omega)).2.1 (by omega) (by omega)) _ M (E 1) (C 1) (m.kp _ (W 1 (by omega))) ((A 1 (by omega)).below K) G ?_;intro k l p q r;have h:=((L 1 1 (by omega) (by omega) (by omega) rfl k l (by have:=p;simpa[k7,mT,gE,gS] using this) q r).re (vk 3 1 g d 2));exact i _ _ ⟨z _ h.fr,B 3 2 g d _ _ (by omega) (by omega) (by omega) (by omega) (by revert y;unfold gZ;simp<;>omega) (by omega) h⟩
  ·obtain rfl:n=15:=c.1;obtain rfl:f=2:=c.2;refine wpOp_step (ops:=cT) (o:=⟨some 20,Op.call { callee:=Callee.builtin Builtin.append,args:=#[Operand.tmp 17,Operand.tmp 19],argTypes:=#[42,42] },42,"l3_tree.go:271",#[⟨12,.data⟩,⟨14,.data⟩,⟨12,.chain⟩],none⟩) rfl (fun H i=>?_);obtain⟨s,t,u,v,x⟩:=info_parts fi;refine aN rfl _ _ 42 rfl M 9 s _ 1 16 underlying42 t u v x rfl (by decide) (by decide) _ _ _ rfl (N 1 2 (by omega) (by omega) rfl) (iD (A 1 (by omega)).2.1 (by omega) (by omega)) _ M (F 1) (D 1) (m.kp _ (X 1 (by omega))) ((Y 1 (by omega)).below K) G ?_;intro k l p q r;have h:=((L 1 2 (by omega) (by omega) (by omega) rfl k l (by have:=p;simpa[k7,mT,gE,gS] using this) q r).re (vk e 2 g d 3));exact i _ _ ⟨z _ h.fr,B e 3 g d _ _ (by omega) (by omega) (by omega) (by omega) (by revert y;unfold gZ;simp<;>omega) (by omega) h⟩
  ·obtain rfl:n=19:=c.1.1;obtain rfl:g=1:=c.1.2;obtain rfl:f=3:=c.2;refine wpOp_step (ops:=cT) (o:=⟨some 24,Op.call { callee:=Callee.builtin Builtin.append,args:=#[Operand.tmp 21,Operand.tmp 23],argTypes:=#[29,29] },29,"l3_tree.go:271",#[⟨16,.data⟩,⟨18,.data⟩,⟨15,.chain⟩],none⟩) rfl (fun H i=>?_);obtain⟨s,t,u,v,x⟩:=info_parts gR;refine aN rfl _ _ 29 rfl M 2 s _ 1 8 underlying29 t u v x rfl (by decide) (by decide) _ _ _ rfl (N 2 1 (by omega) (by omega) rfl) (iD (A 2 (by omega)).2.1 (by omega) (by omega)) _ M (E 2) (C 2) (m.kp _ (W 2 (by omega))) ((A 2 (by omega)).below K) G ?_;intro k l p q r;have h:=((L 2 1 (by omega) (by omega) (by omega) rfl k l (by have:=p;simpa[k7,mT,gE,gS] using this) q r).re (vp e 3 1 d 2));exact i _ _ ⟨z _ h.fr,B e 3 2 d _ _ (by omega) (by omega) (by omega) (by omega) (by revert y;unfold gZ;simp<;>omega) (by omega) h⟩
  ·obtain rfl:n=22:=c.1;obtain rfl:g=2:=c.2;refine wpOp_step (ops:=cT) (o:=⟨some 27,Op.call { callee:=Callee.builtin Builtin.append,args:=#[Operand.tmp 24,Operand.tmp 26],argTypes:=#[29,29] },29,"l3_tree.go:271",#[⟨19,.data⟩,⟨21,.data⟩,⟨19,.chain⟩],none⟩) rfl (fun H i=>?_);obtain⟨s,t,u,v,x⟩:=info_parts gR;refine aN rfl _ _ 29 rfl M 2 s _ 1 8 underlying29 t u v x rfl (by decide) (by decide) _ _ _ rfl (N 2 2 (by omega) (by omega) rfl) (iD (A 2 (by omega)).2.1 (by omega) (by omega)) _ M (F 2) (D 2) (m.kp _ (X 2 (by omega))) ((Y 2 (by omega)).below K) G ?_;intro k l p q r;have h:=((L 2 2 (by omega) (by omega) (by omega) rfl k l (by have:=p;simpa[k7,mT,gE,gS] using this) q r).re (vp e f 2 d 3));exact i _ _ ⟨z _ h.fr,B e f 3 d _ _ (by omega) (by omega) (by omega) (by omega) (by revert y;unfold gZ;simp<;>omega) (by omega) h⟩
  ·obtain rfl:n=26:=c.1.1;obtain rfl:d=1:=c.1.2;obtain rfl:g=3:=c.2;refine wpOp_step (ops:=cT) (o:=⟨some 31,Op.call { callee:=Callee.builtin Builtin.append,args:=#[Operand.tmp 28,Operand.tmp 30],argTypes:=#[55,55] },55,"l3_tree.go:271",#[⟨23,.data⟩,⟨25,.data⟩,⟨22,.chain⟩],none⟩) rfl (fun H i=>?_);obtain⟨s,t,u,v,x⟩:=info_parts gm;refine aN rfl _ _ 55 rfl M 57 s _ 6 112 underlying55 t u v x rfl (by decide) (by decide) _ _ _ rfl (N 3 1 (by omega) (by omega) rfl) (iD (A 3 (by omega)).2.1 (by omega) (by omega)) _ M (E 3) (C 3) (m.kp _ (W 3 (by omega))) ((A 3 (by omega)).below K) G ?_;intro k l p q r;have h:=((L 3 1 (by omega) (by omega) (by omega) rfl k l (by have:=p;simpa[k7,mT,gE,gS] using this) q r).re (vq e f 3 1 2));exact i _ _ ⟨z _ h.fr,B e f 3 2 _ _ (by omega) (by omega) (by omega) (by omega) (by revert y;unfold gZ;simp<;>omega) (by omega) h⟩
  ·obtain rfl:n=29:=c.1;obtain rfl:d=2:=c.2;refine wpOp_step (ops:=cT) (o:=⟨some 34,Op.call { callee:=Callee.builtin Builtin.append,args:=#[Operand.tmp 31,Operand.tmp 33],argTypes:=#[55,55] },55,"l3_tree.go:271",#[⟨26,.data⟩,⟨28,.data⟩,⟨26,.chain⟩],none⟩) rfl (fun H i=>?_);obtain⟨s,t,u,v,x⟩:=info_parts gm;refine aN rfl _ _ 55 rfl M 57 s _ 6 112 underlying55 t u v x rfl (by decide) (by decide) _ _ _ rfl (N 3 2 (by omega) (by omega) rfl) (iD (A 3 (by omega)).2.1 (by omega) (by omega)) _ M (F 3) (D 3) (m.kp _ (X 3 (by omega))) ((Y 3 (by omega)).below K) G ?_;intro k l p q r;have h:=((L 3 2 (by omega) (by omega) (by omega) rfl k l (by have:=p;simpa[k7,mT,gE,gS] using this) q r).re (vq e f g 2 3));exact i _ _ ⟨z _ h.fr,B e f g 3 _ _ (by omega) (by omega) (by omega) (by omega) (by revert y;unfold gZ;simp<;>omega) (by omega) h⟩
end Go.Proofs.YtggmghkcdfjdoaaGreat
