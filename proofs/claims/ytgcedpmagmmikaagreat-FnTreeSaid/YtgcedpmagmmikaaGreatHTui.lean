import Derived.Test.YtgcedpmagmmikaaGreatHTks
import Derived.Test.YtgcedpmagmmikaaGreatHTpw
import Derived.Test.YtgcedpmagmmikaaGreatHTli
import Derived.Test.YtgcedpmagmmikaaGreatHTlq
import Derived.Test.YtgcedpmagmmikaaGreatHTgg
import Derived.Test.YtgcedpmagmmikaaGreatHTfa
import Derived.Test.YtgcedpmagmmikaaGreatHTsa
import Derived.Deep.QuietTactic
import Derived.BigQuiet
namespace Go.Proofs.YtgcedpmagmmikaaGreat
set_option maxHeartbeats 4000000
open Go.RowKit Tryz
set_option linter.unusedVariables false
set_option linter.unusedSimpArgs false
set_option maxRecDepth 100000
variable {L c n:Nat} {P:Nat->Prop} {a:Option Addr} {t:T} {w:World}
def Cr (t:T):Prop:=t.slots.all (fun s=>cy s.1)=true
structure DF (ts:List T):Prop where
 all:∀ t ∈ ts,t.good true=true∧Cr t
 two:2<=ts.length->∀ t ∈ ts,t.good false=true
def rU {α:Type} (w:World) (P:Nat->Prop) (m:Nat) (cs:α->List Value) (fit:α->Prop) (d:α) (a:Option Addr) (n c:Nat) (xs:List α):Prop :=
 xs.length=n∧n<=c∧c<=maxLen∧(∀ i,i<n->fit (xs.getD i d))∧(0<n->∃ b off,a=some ⟨b,off,none⟩∧P b∧∀ i,i<n->∀ j,j<m->w.cell? ⟨b,off+i*m+j,none⟩=(cs (xs.getD i d))[j]?)
def Dp (w:World) (P:Nat->Prop):T->List Value->Prop
 | ⟨l,p,k,v,o,y⟩,cs=>∃ (ka:Option Addr) (kn kc:Nat) (va:Option Addr) (vn vc:Nat) (oa:Option Addr) (on oc:Nat) (ya:Option Addr) (yc:Nat) (css:Nat->List Value),cs=[.bool l,.int .i64 p,.slice ka kn kc,.slice va vn vc,.slice oa on oc,.slice ya y.length yc]∧ga p∧rU w P 1 ae dm ByteArray.empty ka kn kc k∧rU w P 1 ae dm ByteArray.empty va vn vc v∧rU w P 1 ac ga 0 oa on oc o∧(y.length<=yc∧yc<=maxLen) ∧
  (0<y.length->∃ b off,ya=some ⟨b,off,none⟩∧P b∧∀ i,i<y.length->∀ j,j<6->w.cell? ⟨b,off+i*6+j,none⟩=(css i)[j]?)∧∀ i,∀ t ∈ y,y[i]?=some t->Dp w P t (css i)
structure SX (w:World) (P:Nat->Prop) (t:T) (ka:Option Addr) (kn kc:Nat) (va:Option Addr) (vn vc:Nat) (oa:Option Addr) (on oc:Nat) (ya:Option Addr) (yc:Nat) (css:Nat->List Value):Prop where
 page:ga t.page
 keys:rU w P 1 ae dm ByteArray.empty ka kn kc t.keys
 vals:rU w P 1 ae dm ByteArray.empty va vn vc t.vals
 over:rU w P 1 ac ga 0 oa on oc t.over
 cap:t.kids.length<=yc∧yc<=maxLen
 cell:0<t.kids.length->∃ b off,ya=some ⟨b,off,none⟩∧P b∧∀ i,i<t.kids.length->∀ j,j<6->w.cell? ⟨b,off+i*6+j,none⟩=(css i)[j]?
 kid:∀ i,∀ k ∈ t.kids,t.kids[i]?=some k->Dp w P k (css i)
structure DO (w0 wr:World) (lo m c:Nat) (a:Option Addr) (ts:List T) (css:Nat->List Value):Prop where
 row:wr.ownsRow lo 55 6 (.slice a m c) m (az css m)
 len:ts.length=m
 node:∀ (i:Nat) (t:T),ts[i]?=some t->(css i).length=6∧Dp wr (fun b=>lo<=b∧b<wr.heap.size∧(Value.slice a m c).ownBlock≠some b) t (css i)
 bel:Below lo w0 wr
structure DP (w' wr:World) (N:Nat) (u:Nat->Value) (l:Nat->List Value):Prop where
 box:wr.heap[N]?=some (.cells #[.bool true,.int .i64 0,u 0,u 1,u 2,u 3] 55)
 ll:LL wr (N+1) u l
 fr:Fr (fun g=>N<=g) w' wr
def dS:ByteArray × ByteArray × Int:=(ByteArray.empty,ByteArray.empty,0)
abbrev Db (w:World) (A B:Nat) (a:Option Addr) (n c:Nat) (zs:List (ByteArray × ByteArray × Int)):Prop:=aR w A B 2 aG (fun _=>True) dS a n c zs
def DG (k n:Nat):List (ByteArray × ByteArray × Int):=(List.range n).map fun j=>(Di (k+2*j),Di (k+2*j+1),0)
theorem xu (s:Option (ByteArray × ByteArray × Int)):∃ a b c,xK s=.agg #[.string a,.string b,.int .i64 c]:=by
 cases s with
 | none=>exact⟨_,_,_,rfl⟩
 | some s=>exact⟨_,_,_,rfl⟩
theorem eM.keep {w':World} {us:Nat->Value} (h:eM w P t L a n c us) (e:∀ b,P b->w'.heap[b]?=w.heap[b]?):eM w' P t L a n c us :=
 ⟨h.at',(e L h.at').trans h.box,h.len,fun j=>by
  obtain⟨b,k,g,l⟩:=h.row j
  exact⟨b,k,g,fun d f=>(DZ (w:=w) (a:=⟨b,d,none⟩) (e b g)).trans (l d f)⟩,fun d i m f=>gf.keep e (fun _ h=>h) i _ (h.kid d i m f)⟩
theorem vQ {base:Nat} {us:Nat->Value} (h:eM w P t L a n c us) (O:∀ b,P b->b<base) (aa:t.leaf=false) (ab:∃ r,t.good r=true) (ac:bl t.slots) (ad:0<n) (ay:n<=1000) (key:ByteArray)
  (ae:∀ e:World,(∀ b,P b->e.heap[b]?=w.heap[b]?)->∀ f g,t.kids[f]?=some g->∃ s u,us f=.iface s u∧xF e s u "loop.example/s02098/impl.least" (.string g.low)) (af:∀ f g,t.kids[f]?=some g->∃ s u,us f=.iface s u∧CO base w key (ch key g.slots) s u) (w':World) (G:Below base w w') (az:base<=w'.heap.size) :
  Calls prog 94 #[.pointer (some ⟨L,0,none⟩),.string key] w' fun j i=>mJ (ch key t.slots) w' j i:=by
 obtain⟨o,ag⟩:=Zn w'.heap.size;have Q:=Zb w' (.cells #[.string ⟨#[]⟩,.string ⟨#[]⟩,.int .i64 0] 73);have R:=DS w' (.cells #[.string ⟨#[]⟩,.string ⟨#[]⟩,.int .i64 0] 73);have aW:(w'.alloc (.cells #[.string ⟨#[]⟩,.string ⟨#[]⟩,.int .i64 0] 73)).heap.size=o+1:=by simp[ag]
 rw[ag] at R;have S:=G.trans (Q.mono az);have H:Hid (∀ e:World,(∀ b,P b->e.heap[b]?=(w'.alloc (.cells #[.string ⟨#[]⟩,.string ⟨#[]⟩,.int .i64 0] 73)).heap[b]?)->∀ b,P b->e.heap[b]?=w.heap[b]?):=fun e T b I=>(T b I).trans (S.block b (O b I));obtain⟨b,j,I,ah⟩:=h.row ad;subst j;obtain⟨ai,aj⟩:=Zn t.page;have J:Hid (∀ e:World,(∀ b,P b->e.heap[b]?=(w'.alloc (.cells #[.string ⟨#[]⟩,.string ⟨#[]⟩,.int .i64 0] 73)).heap[b]?)->(fun e:World=>e.heap[L]?=some (.cells #[.int .i64 ai,.slice (some ⟨b,0,none⟩) n c] 81)∧∀ f,f<n->e.cell? ⟨b,f,none⟩=some (us f)) e):=fun e T=>by have ak:=H.out e T;refine⟨by rw[<-aj];exact (ak L h.at').trans h.box,fun f aA=>(DZ (w:=w) (a:=⟨b,f,none⟩) (ak b I)).trans (ah f aA)⟩
 have aB:Hid (Calls prog 103 #[.pointer (some ⟨L,0,none⟩),.string key] (w'.alloc (.cells #[.string ⟨#[]⟩,.string ⟨#[]⟩,.int .i64 0] 73)).drew fun j i=>∃ k:Nat,j=.returned (.int .i64 k)∧ew t key k∧i=(w'.alloc (.cells #[.string ⟨#[]⟩,.string ⟨#[]⟩,.int .i64 0] 73)).drew) :=
  lJ (w:=(w'.alloc (.cells #[.string ⟨#[]⟩,.string ⟨#[]⟩,.int .i64 0] 73)).drew) (h.keep (H.out (w'.alloc (.cells #[.string ⟨#[]⟩,.string ⟨#[]⟩,.int .i64 0] 73)).drew (fun _ _=>rfl))) ad ay (ae _ (H.out (w'.alloc (.cells #[.string ⟨#[]⟩,.string ⟨#[]⟩,.int .i64 0] 73)).drew (fun _ _=>rfl))) key
 have aC:=hidI af;have aD:=hidI h.len.1;have aE:=hidI aa;have aF:=hidI ab;have aG:=hidI ac;have aH:=hidI S;have aI:Hid (base<=(w'.alloc (.cells #[.string ⟨#[]⟩,.string ⟨#[]⟩,.int .i64 0] 73)).heap.size):=by show _<=_;omega
 have U:=hidI Q;have K:Hid (∀ d,P d->d<(w'.alloc (.cells #[.string ⟨#[]⟩,.string ⟨#[]⟩,.int .i64 0] 73)).heap.size):=fun d p=>by have:=O d p;omega
 have aJ:Hid (∀ d,P d->d<o):=fun d p=>by have:=O d p;omega
 have aK:=hidI R;have aX:=K.out L h.at';clear h ae af aa ab ac S Q R G ah H aj;go_enter func94,ntmps94;go_upto_region 1 with fail
 generalize (w'.alloc (.cells #[.string ⟨#[]⟩,.string ⟨#[]⟩,.int .i64 0] 73))=l at *;have aL:o<l.heap.size:=by omega
 refine Zg (fun e:World=>e.heap[L]?=some (.cells #[.int .i64 ai,.slice (some ⟨b,0,none⟩) n c] 81)∧∀ f,f<n->e.cell? ⟨b,f,none⟩=some (us f)) (J.out l (fun _ _=>rfl)) (fun V=>?_);refine Zx .a0 ?_;refine Zx .a1 ?_;refine Zx .a2 ?_;refine Zy .a3 (fun al x=>by (try dsimp only at x);obtain⟨E,q1⟩:=au x.1;go_simp;rfl) ?_;try simp only[Zq]
 refine Zx .a4 ?_;refine Zx .a5 ?_;refine Zx .a9 ?_;try simp only[Zq]
 refine Zr [6] ?_;refine rdA .a6 (fun y m=>?_) DR;go_simp;refine (aB.out).mono ?_;rintro j aY ⟨k,rfl,M,rfl⟩;go_wp2_with fail
 refine m.out _ _ (J.out l.drew (fun _ _=>rfl)) (fun V=>?_);clear m y;try simp only[Zq]
 have aM:k<n:=by have:=aD.out;have:=M.1;omega
 obtain⟨g,W⟩:∃ g,t.kids[k]?=some g:=⟨_,DQ M.1⟩;obtain⟨s,u,aN,aZ,a0,a1,a2,a3,am⟩:=aC.out k g W;have an:=hidI ((fh aE.out aF.out aG.out M W).1);have z:=am l.drew aH.out.drew (by have:=aI.out;exact this);obtain⟨N,ao⟩:=Zn (ch key g.slots);rw[ao] at z an;clear am ao M W;obtain⟨A,C,D,X⟩:=xu N;unfold mJ at z;rw[X] at z;obtain⟨ap,Y⟩:=Zn N.isSome;rw[Y] at z;have aq:Hid (xK N=.agg #[.string A,.string C,.int .i64 D]∧N.isSome=ap):=⟨X,Y⟩;have av:=z;clear z X Y;refine Zw (.pointer (some ⟨b,k,none⟩)) .a7 ?_ ?_;·intro al x;go_simp;(try (intro a4;exfalso;omega))
 refine Zy .a8 (fun al x=>by (try dsimp only at x);have E:=x.2 k aM;rw[aN] at E;have a5:=aO E;go_simp;rfl) ?_;try simp only[Zq]
 refine Zr [10] ?_;refine rdA (.t .a0) (fun y m=>?_) DR;go_simp;refine av.mono ?_;rintro j i ⟨rfl,aw⟩;have q:Below l.heap.size l i:=((D2 _ l).drew).trans aw;clear aw av;go_wp2_with fail
 refine m.out _ _ (J.out i (fun b G=>q.block b (K.out b G))) (fun V=>?_);clear m y;refine Zx (.t .a1) ?_;refine Zx (.t .a2) ?_;try simp only[Zq]
 have F:=(q.block o aL).trans aK.out;have a6:=Za F;have aP:=ar F;obtain⟨E,q1,q2⟩:=dI F;have ax:=nz F (.string A) (.string C) (.int .i64 D);have Z:=pw i o (.string A) (.string C) (.int .i64 D);have aQ:=(U.out.trans (q.mono U.out.size)).trans (Z.below (B:=w'.heap.size) (DX U.out.size q.size) (fun a7 j=>by omega));have aR:Hid (∀ d,P d->(pu i o (.string A) (.string C) (.int .i64 D)).heap[d]?=l.heap[d]?):=fun d p=>(Z.block d (DY (K.out d p) q.size) (by have:=aJ.out d p;omega)).trans (q.block d (K.out d p));have aS:Hid _:=ax;clear ax Z F q;refine Zr [13] ?_;refine rdA (.t .a3) (fun y m=>?_) DR;go_simp;clear E q1 q2 aP;show y _ (pu i o (.string A) (.string C) (.int .i64 D));refine m.out _ _ (J.out _ aR.out) (fun V=>?_);clear m y;refine Zx (.t .a4) ?_;try simp only[Zq]
 refine Zd ?_;go_wp2_with fail
 obtain⟨aT,aU,aV⟩:=dI aS.out;refine bodyPost_ret (v:=.tuple #[.agg #[.string A,.string C,.int .i64 D],.bool ap]) (by simp[results,results94,go_sem,aT,aU,aV]) rfl ?_;exact⟨by rw[an.out,aq.out.1,aq.out.2],aQ⟩
theorem gI.keep {w':World} (h:gI w P t L a n c) (d:∀ b,P b->w'.heap[b]?=w.heap[b]?):gI w' P t L a n c:=⟨h.at',(d L h.at').trans h.box,h.row.keep d (fun _ h=>h),h.len⟩
theorem AP {k:T} (b:t.leaf=false) (a:bl t.slots) (c:k ∈ t.kids):bl k.slots:=by
 have d:t.slots=(t.kids.map T.slots).flatten:=by rw[T.slots_eq,if_neg (by simp[b]),D7]
 rw[d] at a;unfold bl at a ⊢;rw[List.pairwise_flatten] at a;exact a.1 _ (Ew.2 ⟨k,c,rfl⟩)
theorem gf.find {base:Nat} (B:∀ j,P j->j<base) (key:ByteArray):∀ (t:T) (u:TypeId) (v:Value),t.nodes<=100000->(∃ x,t.good x=true)->0<=t.ht->cg t->bl t.slots->gf w P t (.iface u v)->CO base w key (ch key t.slots) u v:=by
 intro t
 induction t using T.ind with
 |h t I=>
  rintro u v U ⟨x,k⟩ J y r s;have V:t.size<=4:=(by have e:=k;rw[T.good_eq] at e;simp only[DW,D1] at e;exact e.1.1.1.1.2);rw[bj] at y;cases f:t.leaf
  ·obtain⟨L,a,n,c,W,l,g⟩:=s.inner f;cases l;have C:t.size=n:=(by rw[g.len.1];simp[T.size,f]);have K:0<n:=(by have e:=k;rw[T.good_eq] at e;simp only[DW,D1,f,Bool.and_false,C] at e;have:=e.1.1.1.1.1;simp at this;omega);obtain⟨X,D,M⟩:∃ b D,t.kids=b::D:=Ep (by intro l;have:=g.len.1;rw[l] at this;simp at this;omega);obtain⟨Y,E⟩:=oZ f M J;refine⟨fun w=>by kernel_rfl,94,.pointer (some ⟨L,0,none⟩),fun w=>by kernel_rfl,fun w=>by kernel_rfl,fun F z G=>?_⟩;refine vQ g B f ⟨x,k⟩ r K (by omega) key (fun Z N A b m=>?_) (fun A b m=>?_) F z G;·have d:b ∈ t.kids:=D5 m;have i:=gf.keep N (fun _ s=>s) b _ (g.kid A b d m);obtain⟨o,p,q⟩:=i.shape;rw[q] at i;have O:=el d;have H:=dX k d;have Q:0<b.size:=(by have e:=H;rw[T.good_eq] at e;simp only[DW,D1] at e;have:=e.1.1.1.1.1;simp at this;omega);exact⟨o,p,q,(gf.obj b o p (by omega) ⟨false,H⟩ (E b d).1 i).least Q⟩
   ·have d:b ∈ t.kids:=D5 m;have i:=g.kid A b d m;obtain⟨o,p,q⟩:=i.shape;rw[q] at i;have O:=el d;exact⟨o,p,q,I b d o p (by omega) ⟨false,dX k d⟩ (E b d).1 (y.2 b d) (AP f r d) i⟩
  ·obtain⟨L,a,n,c,l,g⟩:=s.leaf f;cases l;have C:t.size=n:=(by rw[g.len];simp[T.size,f]);have R:t.slots=t.keys.zip (t.vals.zip t.over):=(by rw[T.slots_eq,if_pos f,y.1 f];simp);rw[R] at r ⊢;refine⟨fun w=>by kernel_rfl,115,.pointer (some ⟨L,0,none⟩),fun w=>by kernel_rfl,fun w=>by kernel_rfl,fun F z G=>?_⟩;exact th (g.keep (fun j S=>z.block j (B j S))) r (by omega) key
def tW:Option (ByteArray × ByteArray × Int)->ByteArray
 | some s=>s.2.1
 | none=>ByteArray.empty
def AQ (s:Option (ByteArray × ByteArray × Int)) (w:World) (e:Ending) (w':World):Prop:=e=.returned (.agg #[.bool s.isSome,.string (tW s)])∧Below w.heap.size w w'
def Bz (ts:List TN) (key:ByteArray) (s:Option (ByteArray × ByteArray × Int)):Prop:=(¬ cF ts->s=none)∧(cF ts->∃ t met,gr ts (ts.length+1) 0 (fun _=>false)=some (t,ts.length,met)∧s=ch key t.slots)
def BA (ts:List TN) (key:ByteArray) (s:Option (ByteArray × ByteArray × Int)):Prop:=(¬ aZ ts->s=none)∧(aZ ts->s=ch key (rd ts (ts.length+1) 0).1.slots)
theorem zw (s:Option (ByteArray × ByteArray × Int)):∃ a b,xK s=.agg #[.string a,.string (tW s),.int .i64 b]:=by
 cases s with
 | none=>exact⟨_,_,rfl⟩
 | some s=>exact⟨_,_,rfl⟩
def lD (w:World) (N:Nat) (u0 u1:Value):World:=(w.setCell ⟨N,0,none⟩ u0).setCell ⟨N,1,none⟩ u1
theorem nS {N t:Nat} {c d:Value} (h:w.heap[N]?=some (.cells #[c,d] t)) (a b:Value):(lD w N a b).heap[N]?=some (.cells #[a,b] t):=by
 have e:=aj (aj h 0 a) 1 b;unfold lD;simpa using e
theorem qa (w:World) (N:Nat) (a b:Value):Fr (fun c=>c=N) w (lD w N a b):=(af w N 0 a).trans (af _ N 1 b)
theorem vR (ts:List TN) (key:ByteArray) (a:Option Addr) (n c A B:Nat) (w:World) (aj:B<=w.heap.size) (N:aw w A B a n c ts) :
  Calls prog 9 #[.agg #[.slice a n c],.string key] w fun j ak=>∃ e,Bz ts key e∧AQ e w j ak:=by
 obtain⟨b,u⟩:=Zn w.heap.size;have al:=Zb w (.cells #[.slice a n c] 25);have O:=Zb (w.alloc (.cells #[.slice a n c] 25)) (.cells #[.bool false,.string ⟨#[]⟩] 38);have x:=DS (w.alloc (.cells #[.slice a n c] 25)) (.cells #[.bool false,.string ⟨#[]⟩] 38);have am:(w.alloc (.cells #[.slice a n c] 25)).heap.size=b+1:=by simp[u]
 have an:((w.alloc (.cells #[.slice a n c] 25)).alloc (.cells #[.bool false,.string ⟨#[]⟩] 38)).heap.size=b+2:=by simp[u]
 have Q:=(O.block b (by omega)).trans (u ▸ DS w (.cells #[.slice a n c] 25));rw[am] at x;have R:=al.trans (O.mono (by omega));have S:=jG ts a n c A B _ (by rw[an];omega) (N.below (R.mono aj));have ao:=ah Q;clear N;go_enter func9,ntmps9;go_upto_region 1 with fail
 generalize (w.alloc (.cells #[.slice a n c] 25)).alloc (.cells #[.bool false,.string ⟨#[]⟩] 38)=T at *;have aJ:b<T.heap.size:=by omega
 go_wp2_with fail
 refine S.mono ?_;rintro j g ⟨y,z,h⟩;have C:=R.trans (h.mono (by omega));have k:=(h.block (b+1) (by omega)).trans x;have aK:=h.size;have ap:b+1<g.heap.size:=by omega
 clear S ao Q x;by_cases d:cF ts
 ·obtain⟨t,U,aL,D,aq,V,rfl,E⟩:=z d;obtain⟨av,ax,rfl⟩:=E.shape;obtain⟨ay,az,W,X,Y,Z,aA,aB⟩:=iw ts _ 0 _ t _ _ (D0 _) D;have aa:Hid (cF ts∧gr ts (ts.length+1) 0 (fun _=>false)=some (t,ts.length,U)):=⟨d,D⟩;have aC:=d.1;obtain⟨aM,aN,aO,aP,aQ,ab⟩:=gf.find (base:=g.heap.size) (P:=fun F=>T.heap.size<=F∧F<g.heap.size) (fun F h=>h.2) key t av ax (by have:=X.1;omega) ⟨true,Y⟩ Z W (oq V) (GM.see _ _ _ E);have i:=ab g (D2 _ g) (DU _);obtain⟨e,G⟩:=Zn (ch key t.slots);have aD:=hidI G;rw[G] at i;unfold mJ at i;obtain⟨p,q,ac⟩:=zw e;rw[ac] at i;obtain⟨l,H⟩:=Zn e.isSome;obtain⟨f,I⟩:=Zn (tW e);rw[H,I] at i;have ad:Hid (e.isSome=l∧tW e=f):=⟨H,I⟩;have ae:=i;clear y z d D aq V E ay az W X Y Z aA aB ab i G ac H I aC;go_wp2_with fail
  refine ae.mono ?_;rintro j r ⟨rfl,m⟩;have af:=Zb r (.cells #[.string p,.string f,.int .i64 q] 73);have ag:=DS r (.cells #[.string p,.string f,.int .i64 q] 73);have s:=(af.block (b+1) (by have:=m.size;omega)).trans ((m.block (b+1) ap).trans k);have ai:=(C.trans (m.mono (by omega))).trans (af.mono (by have:=m.size;omega));have aR:=Za s;have aS:=Za ag;obtain⟨aT,q1,q2⟩:=dI ag;obtain⟨aE,aF⟩:=au s;have aG:=ar s;have J:=nS s (.bool l) (.string f);have o:=qa (r.alloc (.cells #[.string p,.string f,.int .i64 q] 73)) (b+1) (.bool l) (.string f);have K:=ai.trans (o.below (B:=w.heap.size) ai.size (fun aH j=>by omega));clear ae m k o;go_wp2_with fail
  show bodyPost _ _ _ _ _ (lD (r.alloc (.cells #[.string p,.string f,.int .i64 q] 73)) (b+1) (.bool l) (.string f));obtain⟨L,M⟩:=au J;refine bodyPost_ret (v:=.agg #[.bool l,.string f]) (by simp[results,results9,go_sem,L,M]) rfl ?_;exact⟨e,⟨fun d=>absurd aa.out.1 d,fun _=>⟨t,U,aa.out.2,aD.out.symm⟩⟩,by rw[ad.out.1,ad.out.2],K⟩
 ·obtain rfl:=y d;have aI:=hidI d;obtain⟨aE,aF⟩:=au k;have aG:=ar k;have J:=nS k (.bool false) (.string ⟨#[]⟩);have o:=qa g (b+1) (.bool false) (.string ⟨#[]⟩);have K:=C.trans (o.below (B:=w.heap.size) C.size (fun aH j=>by omega));clear y z d h o;go_wp2_with fail
  show bodyPost _ _ _ _ _ (lD g (b+1) (.bool false) (.string ⟨#[]⟩));obtain⟨L,M⟩:=au J;refine bodyPost_ret (v:=.agg #[.bool false,.string ⟨#[]⟩]) (by simp[results,results9,go_sem,L,M]) rfl ?_;exact⟨none,⟨fun _=>rfl,fun d=>absurd d aI.out⟩,rfl,K⟩
theorem xv {key:ByteArray} {zs:List (ByteArray × ByteArray × Int)} {j:Nat} (h:∀ a,a<j->(zs.getD a (ByteArray.empty,ByteArray.empty,0)).1≠key) (b:j<zs.length) (c:(zs.getD j (ByteArray.empty,ByteArray.empty,0)).1=key):ch key zs=some (zs.getD j (ByteArray.empty,ByteArray.empty,0)):=by
 have d:zs.getD j (ByteArray.empty,ByteArray.empty,0)=zs[j]:=by simp[List.getD,b]
 rw[d] at c ⊢;unfold ch;rw[List.find?_eq_some_iff_getElem];refine⟨by simpa using c,j,b,rfl,fun a e=>?_⟩;have:=h a e;simp only[List.getD,DQ (show a<zs.length by omega),ET] at this;simpa using this
theorem vS (ts:List TN) (key:ByteArray) (a:Option Addr) (n c A B:Nat) (w:World) (a5:B<=w.heap.size) (aB:aw w A B a n c ts) :
  Calls prog 68 #[.agg #[.slice a n c],.string key] w fun k a6=>∃ I,BA ts key I∧AQ I w k a6:=by
 obtain⟨e,Z⟩:=Zn w.heap.size;have aC:=Zb w (.cells #[.slice a n c] 25);have aa:=Zb (w.alloc (.cells #[.slice a n c] 25)) (.cells #[.bool false,.string ⟨#[]⟩] 38);have ab:=DS (w.alloc (.cells #[.slice a n c] 25)) (.cells #[.bool false,.string ⟨#[]⟩] 38);have a7:(w.alloc (.cells #[.slice a n c] 25)).heap.size=e+1:=by simp[Z]
 have bq:((w.alloc (.cells #[.slice a n c] 25)).alloc (.cells #[.bool false,.string ⟨#[]⟩] 38)).heap.size=e+2:=by simp[Z]
 have ac:=(aa.block e (by omega)).trans (Z ▸ DS w (.cells #[.slice a n c] 25));rw[a7] at ab;have aD:=aC.trans (aa.mono (by omega));have ad:=aB.below (aD.mono a5);have ae:=ah ac;clear aB aC aa;go_enter func68,ntmps68;go_upto_region 1 with fail
 generalize (w.alloc (.cells #[.slice a n c] 25)).alloc (.cells #[.bool false,.string ⟨#[]⟩] 38)=aE at *;have a8:e<aE.heap.size:=by omega
 have aF:=dZ ts a n c A B aE (by omega) ad;go_wp2_with fail
 refine aF.mono ?_;rintro k m ⟨i,rfl,o,p⟩;have af:=aD.trans (p.mono (by omega));have a9:=(p.block (e+1) (by omega)).trans ab;have aH:=(p.block e a8).trans ac;have aI:=ad.below (p.mono (by omega));have br:=p.size;clear aF ae ab ac ad p;have ag:Hid (∀ q:World,Below m.heap.size m q->∀ P Q,(lD q (e+1) (.bool P) (.string Q)).heap[e+1]?=some (.cells #[.bool P,.string Q] 38)∧Below w.heap.size w (lD q (e+1) (.bool P) (.string Q))∧q.heap[e+1]?=some (.cells #[.bool false,.string ⟨#[]⟩] 38)):=fun q ai P Q=>by have f:=(ai.block (e+1) (by omega)).trans a9;exact⟨nS f _ _,(af.trans (ai.mono af.size)).trans ((qa q (e+1) _ _).below (by have:=ai.size;have:=af.size;omega) (fun bs k=>by omega)),f⟩
 cases i
 ·have aj:Hid (¬ aZ ts):=fun l=>(by simpa using o.2 l);obtain⟨J,K,f⟩:=ag.out m (D2 _ _) false ⟨#[]⟩;obtain⟨aJ,aK⟩:=au f;have aL:=ar f;have a':=Za f;clear o;go_wp2_with fail
  show bodyPost _ _ _ _ _ (lD m (e+1) (.bool false) (.string ⟨#[]⟩));obtain⟨L,M⟩:=au J;refine bodyPost_ret (v:=.agg #[.bool false,.string ⟨#[]⟩]) (by simp[results,results68,go_sem,L,M]) rfl ?_;exact⟨none,⟨fun _=>rfl,fun l=>absurd l aj.out⟩,rfl,K⟩
 ·have R:Hid (aZ ts):=o.1 rfl;clear o;have ae:=ah aH;have a':e<m.heap.size:=(by omega);have aM:=R.out.1.2;have aN:=fW ts aM a n c A B m (by omega) aI;go_upto_region 4 with (go_at_call 22;refine aN.mono ?_;rintro k r ⟨s,u,x,y,z,C,D,on,E,F,G,aO,rfl,ak,al⟩)
  clear aN ae aH aI;obtain⟨t,ht⟩:=Zn ((rd ts (ts.length+1) 0).1);have am:=hidI ht;rw[ht] at ak ⊢;clear ht;generalize (!(rd ts (ts.length+1) 0).2.2 && decide ((rd ts (ts.length+1) 0).2.1=n))=bt;obtain⟨_,d,an,ao,ba,_,bb,_⟩:=R.out;have bc:d=t:=(by have:=am.out;rw[an] at this;exact this);subst bc;obtain⟨aP,_,_⟩:=iy ts _ _ _ _ an;have N:=dY d ⟨true,ao⟩;have ap:=jD r.heap.size d aP ⟨true,ao⟩ (by omega);have aq:Hid (d.slots.length<=4000):=(by show _<=_;omega);obtain⟨aQ,aR⟩:=Zn r.heap.size;have O:=Zb r (.cells (Zs d.leaf d.page s u x y z C D on E F d.kids.length G) 55);have S:=DS r (.cells (Zs d.leaf d.page s u x y z C D on E F d.kids.length G) 55);rw[aR] at S ap;have bd:=al.size
  have aT:bz (r.alloc (.cells (Zs d.leaf d.page s u x y z C D on E F d.kids.length G) 55)) 0 aQ (fun T=>T<aQ) d s u x y z C D on E F G aO :=
   ak.wide (fun g bu bv=>O.block g (by omega)) (fun T aU=>O.block T aU.2) (fun T aU=>by omega) (D0 _) (by omega)
  have av:=al.trans (O.mono bd);have U:=ap _ s u x y z C D on E F G aO (by rw[<-aR];exact O.size) aT;obtain⟨be,q1,q2,q3,bf,bg⟩:=aS S;have bw:=Za S;obtain⟨h,ax⟩:=Zn d.slots;have aV:=hidI ax;unfold iP at U;rw[ax] at U aq;clear ap ak aT N ax ao ba aP an bb aM;generalize (r.alloc (.cells (Zs d.leaf d.page s u x y z C D on E F d.kids.length G) 55))=bx at *;go_wp2_with fail
  refine U.mono ?_;rintro k V ⟨W,bA,rfl,ay,aW⟩;have aX:=hidI (av.trans (aW.mono av.size));obtain⟨X,N⟩:=Zn h.length;have aY:=hidI N;have bh:Hid (∀ b,b<X->V.cell? ⟨W,b*2,none⟩=some (.string (h.getD b (ByteArray.empty,ByteArray.empty,0)).1)∧V.cell? ⟨W,b*2+1,none⟩=some (.string (h.getD b (ByteArray.empty,ByteArray.empty,0)).2.1)):=fun b bi=>(by have a0:∀ i,i<2->V.cell? ⟨W,b*2+i,none⟩=(aG (h.getD b (ByteArray.empty,ByteArray.empty,0)))[i]?:=fun i o=>(by rw[ay.cellAt (b*2+i) (by omega)];exact bI Cf _ h b i (by omega) o);exact⟨by simpa[aG] using a0 0 (by omega),by simpa[aG] using a0 1 (by omega)⟩);have bB:=(ay.lt W rfl).2;rw[N] at aq ⊢;have bC:=aq.out;clear U be q1 q2 q3 bf bg ay aW av O S al N;go_wp2_with fail
  go_loopw [8] (fun az wr=>∃ b:Nat,b<=X∧az=.int .i64 b∧Hid (∀ g,g<b->(h.getD g (ByteArray.empty,ByteArray.empty,0)).1≠key)∧wr=V) (fun az _=>X - (intOf az).toNat)
  case atStart=>exact⟨0,D0 _,rfl,fun g aA=>by omega,rfl⟩
  case round =>
   obtain⟨b,bi,rfl,H,rfl⟩:=hrel;by_cases bj:b<X
   ·obtain⟨a1,a2⟩:=bh.out b bj;by_cases j:(h.getD b (ByteArray.empty,ByteArray.empty,0)).1=key;·have bk:Hid (ch key h=some (h.getD b (ByteArray.empty,ByteArray.empty,0))):=xv H.out (by have:=aY.out;omega) j;rw[j] at a1;have a3:(key.toList == key.toList)=true:=(by simp);generalize h.getD b (ByteArray.empty,ByteArray.empty,0)=I at *;obtain⟨a4,Y,bl⟩:=I;simp only at a2 j;obtain⟨J,K,f⟩:=ag.out wr aX.out true Y;obtain⟨aJ,aK⟩:=au f;have aL:=ar f;have bm:=Za f;clear j H;(go_wp2_with fail);show bodyPost _ _ _ _ _ (lD wr (e+1) (.bool true) (.string Y));obtain⟨L,M⟩:=au J;refine bodyPost_ret (v:=.agg #[.bool true,.string Y]) (by simp[results,results68,go_sem,L,M]) rfl ?_;exact⟨some (a4,Y,bl),⟨fun l=>absurd R.out l,fun _=>by rw[am.out,aV.out,bk.out]⟩,rfl,K⟩
    ·have a3:=mw j;have bn:Hid (∀ g,g<b+1->(h.getD g (ByteArray.empty,ByteArray.empty,0)).1≠key):=fun g aA=>by
      by_cases bo:g=b;·rw[bo];exact j
      ·exact H.out g (by omega)
     generalize (h.getD b (ByteArray.empty,ByteArray.empty,0)).1=a4 at a1 a3 j;clear j H a2;(go_wp2_with fail);go_roundw
     case rel=>exact⟨b+1,by omega,by go_num,bn,trivial⟩
     case measure=>simp[intOf];omega
   ·have aj:Hid (ch key h=none):=j4 (fun I bp=>by obtain⟨g,aA,k⟩:=List.mem_iff_getElem.1 bp;have:=H.out g (by have:=aY.out;omega);simpa[List.getD,aA,k] using this);obtain⟨J,K,f⟩:=ag.out wr aX.out false ⟨#[]⟩;obtain⟨aJ,aK⟩:=au f;have aL:=ar f;have bm:=Za f;clear H;(go_wp2_with fail);show bodyPost _ _ _ _ _ (lD wr (e+1) (.bool false) (.string ⟨#[]⟩));obtain⟨L,M⟩:=au J;refine bodyPost_ret (v:=.agg #[.bool false,.string ⟨#[]⟩]) (by simp[results,results68,go_sem,L,M]) rfl ?_;exact⟨none,⟨fun l=>absurd R.out l,fun _=>by rw[am.out,aV.out,aj.out]⟩,rfl,K⟩
end Go.Proofs.YtgcedpmagmmikaaGreat
