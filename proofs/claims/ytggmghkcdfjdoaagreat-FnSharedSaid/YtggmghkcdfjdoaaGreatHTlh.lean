import Derived.Test.YtggmghkcdfjdoaaGreatHTks
import Derived.Test.YtggmghkcdfjdoaaGreatHTlg
import Derived.Test.YtggmghkcdfjdoaaGreatHTtc
namespace Go.Proofs.YtggmghkcdfjdoaaGreat
set_option maxHeartbeats 2000000
open Go.RowKit Tryz
set_option linter.unusedVariables false
set_option linter.unusedSimpArgs false
set_option maxRecDepth 100000
theorem fW (ts:List TN) (aW:ts.length<=1000) (a:Option Addr) (n c A B:Nat) (w:World) (aX:B<=w.heap.size) (R:aw w A B a n c ts) :
  Calls prog 19 #[.agg #[.slice a n c]] w fun M r=>∃ d e f g h i j on k l m T,M=.returned (.tuple #[.agg (Zs (rd ts (ts.length+1) 0).1.leaf (rd ts (ts.length+1) 0).1.page d e f g h i j on k l (rd ts (ts.length+1) 0).1.kids.length m),.bool (!(rd ts (ts.length+1) 0).2.2 && decide ((rd ts (ts.length+1) 0).2.1=n))])∧bz r A B (fun C=>w.heap.size<=C∧C<r.heap.size) (rd ts (ts.length+1) 0).1 d e f g h i j on k l m T∧Below w.heap.size w r:=by
 obtain⟨b,ai⟩:=Zn w.heap.size;have I:=nm w (.cells #[.slice a n c] 25) (.cells (Z0 false 0) 57) (.cells #[.slice a n c,.int .i64 0,.bool false] 97);have U:Below w.heap.size w (((w.alloc (.cells #[.slice a n c] 25)).alloc (.cells (Z0 false 0) 57)).alloc (.cells #[.slice a n c,.int .i64 0,.bool false] 97)):=((Zb _ _).alloc (by simp) _).alloc (by simp;omega) _;have aY:(((w.alloc (.cells #[.slice a n c] 25)).alloc (.cells (Z0 false 0) 57)).alloc (.cells #[.slice a n c,.int .i64 0,.bool false] 97)).heap.size=b+3:=by simp[ai]
 rw[ai] at I;have aj:=R.1;have ak:=hidI aj;have bx:n<=1000:=by omega
 clear aj;go_enter func19,ntmps19;go_wp2_with fail
 generalize (((w.alloc (.cells #[.slice a n c] 25)).alloc (.cells (Z0 false 0) 57)).alloc (.cells #[.slice a n c,.int .i64 0,.bool false] 97))=aZ at I U aY ⊢;have al:=pi ts aW a n c A B (b+1+1) (ts.length+1) 0 aZ (En _) (by omega) (by omega) (R.below (U.mono aX)) (by omega) (by simpa using I.2.2);refine al.mono ?_;rintro M y N;obtain⟨d,e,f,g,h,i,j,on,k,l,m,T,rfl,E⟩:=N.ex;have am:=N.wk;have O:=N.fr;have bA:=O.size;have a0:=(O.block b (by omega) (by omega)).trans I.1;have a1:=(O.block (b+1) (by omega) (by omega)).trans I.2.1;have an:=hidI E;obtain⟨z,ht⟩:∃ z,z=(rd ts (ts.length+1) 0).1:=⟨_,rfl⟩;obtain⟨D,V⟩:∃ W,W=(rd ts (ts.length+1) 0).2.1:=⟨_,rfl⟩;obtain⟨X,Y⟩:∃ W,W=(rd ts (ts.length+1) 0).2.2:=⟨_,rfl⟩;have Z:Hid (z=(rd ts (ts.length+1) 0).1∧D=(rd ts (ts.length+1) 0).2.1∧X=(rd ts (ts.length+1) 0).2.2):=⟨ht,V,Y⟩;rw[<-ht];rw[<-ht] at an;rw[<-V,<-Y] at am;clear E N al ht V Y R;generalize ao:z.leaf=o;generalize ap:z.page=p;generalize aq:z.kids.length=q;have a2:Hid (z.leaf=o∧z.page=p∧z.kids.length=q):=⟨ao,ap,aq⟩;clear ao ap aq;have F:=Zb y (.cells (Zs o p d e f g h i j on k l q m) 57);have J:=Ej y (.cells (Zs o p d e f g h i j on k l q m) 57);have au:(y.alloc (.cells (Zs o p d e f g h i j on k l q m) 57)).heap.size=y.heap.size+1:=by simp
 have av:=(F.block b (by omega)).trans a0;have G:=(F.block (b+1) (by omega)).trans a1;have P:=(F.block (b+1+1) (by omega)).trans am;go_upto_region 3 with fail
 generalize y.alloc (.cells (Zs o p d e f g h i j on k l q m) 57)=t at F J au av G P ⊢;obtain⟨u,ax⟩:=Zn y.heap.size;rw[ax] at J au;obtain⟨a3,a4,a5,a6,a7,a8⟩:=aS J;obtain⟨ay,az,aA,aB,aC,aD⟩:=aS G;obtain⟨a9,a',ba⟩:=iC P;have bb:t.cell? ⟨b,0,none⟩=some (.slice a n c):=by simp[World.cell?,av]
 have bB:=ar G;have bC:b<t.heap.size:=by omega
 have bD:b+1<t.heap.size:=by omega
 have bc:b+1+1<t.heap.size:=by omega
 have bd:u<t.heap.size:=by omega
 rw[ax];have be:u≠b+1:=by omega
 have bE:b+1≠u:=by omega
 have aa:=bk t.drew (b+1) (.bool o) (.int .i64 p) (.slice d e f) (.slice g h i) (.slice j on k) (.slice l q m);have ab:=bk t (b+1) (.bool o) (.int .i64 p) (.slice d e f) (.slice g h i) (.slice j on k) (.slice l q m);have bf:Hid _:=aV (w:=t.drew) G (.bool o) (.int .i64 p) (.slice d e f) (.slice g h i) (.slice j on k) (.slice l q m);have Q:Hid _:=aV G (.bool o) (.int .i64 p) (.slice d e f) (.slice g h i) (.slice j on k) (.slice l q m);have aE:Hid (∀ H,Fr (fun x=>x=b+1) t H->∀ ac,ac=(!X && decide (D=n))->∃ aF aG aH aI aJ aK aL aM aN aO aP bh,Ending.returned (.tuple #[.agg (Zs o p d e f g h i j on k l q m),.bool ac])=.returned (.tuple #[.agg (Zs (rd ts (ts.length+1) 0).1.leaf (rd ts (ts.length+1) 0).1.page aF aG aH aI aJ aK aL aM aN aO (rd ts (ts.length+1) 0).1.kids.length aP),.bool (!(rd ts (ts.length+1) 0).2.2 && decide ((rd ts (ts.length+1) 0).2.1=n))])∧bz H A B (fun C=>w.heap.size<=C∧C<H.heap.size) (rd ts (ts.length+1) 0).1 aF aG aH aI aJ aK aL aM aN aO aP bh∧Below w.heap.size w H):=by
  intro H E ac bi;obtain⟨q1,q2,q3⟩:=Z.out;obtain⟨bj,bl,bm⟩:=a2.out;refine⟨d,e,f,g,h,i,j,on,k,l,m,T,?_,?_,?_⟩;·rw[<-q1,<-q2,<-q3,bj,bl,bm,bi]
  ·rw[<-q1];have aQ:∀ x,x<y.heap.size->x≠b+1->H.heap[x]?=y.heap[x]?:=fun x bn bo=>(E.block x (by omega) bo).trans (F.block x bn);have bF:=E.size;exact an.out.weaken (fun x bG bH=>aQ x (by omega) (by omega)) (fun C aR=>aQ C aR.2 (by omega)) (fun C aR=>⟨by omega,by omega⟩)
  ·have bp:Below w.heap.size w y:=U.trans (O.below (by omega) (fun bq M=>by omega));have br:=bp.trans (F.mono (by omega));exact br.trans (E.below (by omega) (fun bq M=>by omega))
 have bs:Hid _:=aa;have s:Hid _:=ab;cases X
 ·go_region_held3 (fun r=>r.cell? ⟨b+1+1,2,none⟩=some (.bool false)∧r.cell? ⟨b+1+1,1,none⟩=some (.int .i64 D)∧r.cell? ⟨b,0,none⟩=some (.slice a n c)∧r.cell? ⟨u,0,none⟩=some (.bool o)∧r.cell? ⟨u,1,none⟩=some (.int .i64 p)∧r.cell? ⟨u,2,none⟩=some (.slice d e f)∧r.cell? ⟨u,3,none⟩=some (.slice g h i)∧r.cell? ⟨u,4,none⟩=some (.slice j on k)∧r.cell? ⟨u,5,none⟩=some (.slice l q m)) (go_keep) (fail)
  clear aa ab;go_wp2_with fail
  show bodyPost _ _ _ _ _ (bg t (b+1) (.bool o) (.int .i64 p) (.slice d e f) (.slice g h i) (.slice j on k) (.slice l q m)).drew;generalize bg t (b+1) (.bool o) (.int .i64 p) (.slice d e f) (.slice g h i) (.slice j on k) (.slice l q m)=K at Q s ⊢;obtain⟨ad,ae,af,ag,p4,ah⟩:=aS (w:=K.drew) Q.out;refine bodyPost_ret (v:=.tuple #[.agg (Zs o p d e f g h i j on k l q m),.bool ((D:Int) == (n:Int))]) (by simp[results,results19,go_sem,ad,ae,af,ag,p4,ah]) rfl ?_;exact aE.out K.drew ⟨s.out.os,s.out.tape,s.out.output,s.out.size,s.out.block⟩ ((D:Int) == (n:Int)) (by have:=Z.out;have:=ak.out;simp;by_cases bt:D=n<;>simp[bt];omega)
 ·clear a3 a4 a5 a6 a7 a8 ay az aA aB aC aD a9 a' ba bb;obtain⟨ay,az,aA,aB,aC,aD⟩:=aS G;refine wp_region_noPanic ?_;refine wp_region_held_drew (S:=(fun r=>r.heap[u]?=some (.cells (Zs o p d e f g h i j on k l q m) 57)∧r.heap[b+1+1]?=some (.cells #[.slice a n c,.int .i64 D,.bool true] 97))) (by kernel_rfl) ⟨J,P⟩ (fun bu=>?_);refine Zy .a0 (fun bv L=>by (try dsimp only at L);obtain⟨bw,q1,q2,q3,bI,bJ⟩:=aS L.1;go_simp;rfl) ?_;refine Zx .a1 ?_;refine Zx .a2 ?_;refine Zx .a3 ?_;try simp only[Zq]
  refine Zy .a4 (fun bv L=>by (try dsimp only at L);obtain⟨bw,q1,q2⟩:=iC L.2;go_simp;rfl) ?_;refine Zx .a5 ?_;refine Zx .a6 ?_;refine Zu .a7 ?_;try simp only[Zq]
  refine Zu .a8 ?_;refine Zu .a9 ?_;refine Zu (.t .a0) ?_;refine Zu (.t .a1) ?_;try simp only[Zq]
  refine Zu (.t .a2) ?_;refine Zu (.t .a3) ?_;refine Zu (.t .a4) ?_;refine Zx (.t .a5) ?_;try simp only[Zq]
  refine Zr [16] ?_;refine rdA (.t .a6) (fun aT aU=>?_) Ei;go_simp;go_wp2_with fail
  show aT _ (bg t (b+1) (.bool o) (.int .i64 p) (.slice d e f) (.slice g h i) (.slice j on k) (.slice l q m)).drew;clear aa ab bf bs;generalize bg t (b+1) (.bool o) (.int .i64 p) (.slice d e f) (.slice g h i) (.slice j on k) (.slice l q m)=K at Q s ⊢;refine aU.out _ _ ⟨(s.out.block u bd be).trans J,(s.out.block (b+1+1) bc (by omega)).trans P⟩ (fun bu=>?_);clear aU aT;refine Zx (.t .a7) ?_;try simp only[Zq]
  refine Zd ?_;go_wp2_with fail
  obtain⟨ad,ae,af,ag,p4,ah⟩:=aS (w:=K.drew) Q.out;refine bodyPost_ret (v:=.tuple #[.agg (Zs o p d e f g h i j on k l q m),.bool false]) (by simp[results,results19,go_sem,ad,ae,af,ag,p4,ah]) rfl ?_;exact aE.out K.drew ⟨s.out.os,s.out.tape,s.out.output,s.out.size,s.out.block⟩ false (by have:=Z.out;have:=ak.out;rfl)
def tu (n:Nat):Nat:=if n=5 then 3 else min n 4
def xN:Nat->Nat->List Int
 | 0,_=>[]
 | f+1,n=>if n=0 then [] else (tu n:Int)::xN f (n - tu n)
def C9 (n:Nat):List Int:=xN n n
def xO {α:Type}:Nat->List α->List (List α)
 | 0,_=>[]
 | f+1,l=>if l=[] then [] else l.take (tu l.length)::xO f (l.drop (tu l.length))
def Ag {α:Type} (l:List α):List (List α):=xO l.length l
def BR (zs:List (ByteArray × ByteArray)):T:=⟨true,0,zs.map (fun z=>z.1),zs.map (fun z=>z.2),zs.map (fun _=>0),[]⟩
def ms (zs:List (ByteArray × ByteArray)):List (ByteArray × ByteArray × Int):=zs.map (fun z=>(z.1,z.2,0))
def tv (w:World) (B:Nat) (a:Option Addr) (n c:Nat) (zs:List (ByteArray × ByteArray)):Prop:=zs.length=n∧n<=c∧c<=maxLen∧(0<n->∃ b off,a=some ⟨b,off,none⟩∧b<B∧∀ i,i<n->w.cell? ⟨b,off+i*2,none⟩=some (.string (zs.getD i (ByteArray.empty,ByteArray.empty)).1)∧w.cell? ⟨b,off+i*2+1,none⟩=some (.string (zs.getD i (ByteArray.empty,ByteArray.empty)).2))
structure DA (W wr:World) (L j:Nat) (ha:Option Addr) (hc:Nat) (zs:List (ByteArray × ByteArray × Int)):Prop where
 box:wr.heap[L]?=some (.cells #[.int .i64 0,.slice ha j hc] 125)
 row:wr.ownsRow (L+1) 75 3 (.slice ha j hc) j (aa aB zs)
 len:zs.length=j
 bel:Below L W wr
theorem wO:(prog.info? 68).map (fun a=>(a.zero,a.size,a.bytes))=some (some .nilIface,1,16):=by kernel_rfl
structure DB (w0 wr:World) (lo m c:Nat) (a:Option Addr) (ts:List T) (us:List Value):Prop where
 row:wr.ownsRow lo 68 1 (.slice a m c) m us
 len:ts.length=m
 node:∀ (i:Nat) (t:T),ts[i]?=some t->∃ u,us[i]?=some u∧gf wr (fun b=>lo<=b∧b<wr.heap.size∧(Value.slice a m c).ownBlock≠some b) t u
 bel:Below lo w0 wr
def DC (W:World) (sa:Option Addr) (xs:List Int):Prop:=∀ k,k<xs.length->∃ g,sa=some ⟨g,0,none⟩∧g<W.heap.size∧W.cell? ⟨g,k,none⟩=some (.int .i64 (xs.getD k 0))
def Dk (ks:List T):T:=⟨false,0,[],[],[],ks⟩
theorem Cj (w:World):(w.alloc (.cells #[] 68)).ownsRow w.heap.size 68 1 (.slice (some ⟨w.heap.size,0,none⟩) 0 0) 0 []:=by
 have:=World.ownsRow_made w #[] (base:=w.heap.size) (e:=68) (size:=1) 0 (by simp) (by unfold maxLen;omega) (by simp);simpa using this
theorem wP (b g n c:Nat) (e:List Value) (w:World) (H:e.length=n) (I:0<n) (J:n<=1048576) (s:b<w.heap.size) (t:∀ a ∈ e,a.oneCell'=true) (u:∀ d a,e[d]?=some a->w.cell? ((⟨b,g,none⟩:Addr).add d)=some a) :
  Calls prog 49 #[.slice (some ⟨b,g,none⟩) n c] w fun k o=>∃ h q,k=.returned (.slice (some ⟨h,0,none⟩) n q)∧o.ownsRow w.heap.size 68 1 (.slice (some ⟨h,0,none⟩) n q) n e∧Below w.heap.size w o:=by
 have K:∀ (w:World) (i:Option Addr) (n c f l:Nat),(binOp .eql 79 (.slice i n c) (.slice none f l)).run prog w=.ok (.bool i.isNone) w:=fun w i n c f l=>Lib.run_eql_slice_nil w _ _ i n c f l underlying79;obtain⟨v,x,y,z,A⟩:=info_parts wO;have j:Below w.heap.size w (w.alloc (.cells #[] 68)):=Zb _ _;have r:=Cj w;have B:∀ d a,e[d]?=some a->(w.alloc (.cells #[] 68)).cell? ((⟨b,g,none⟩:Addr).add d)=some a:=fun d a C=>(j.cell (p:=(⟨b,g,none⟩:Addr).add d) (by unfold Addr.add;split<;>exact s)).trans (u d a C);go_enter func49,ntmps49;go_wp2_with (at_builtin;refine ak _ rfl _ _ 79 rfl w.heap.size 68 v _ 1 16 underlying79 x y z A rfl (by decide) _ _ _ rfl r ⟨b,g,none⟩ n c e rfl (by omega) B t (by unfold maxLen;omega) (by omega) j.size ?_;intro L M m D N;obtain⟨f,rfl⟩:∃ f,n=f+1:=⟨n - 1,by omega⟩;rw[EK,ED] at m;obtain⟨E,F,rfl⟩:=fD m)
 have G:=j.grown D j.size (fun h k=>(r.lt h k).1);go_ret;exact⟨E,F,rfl,m,G⟩
def DD (ts:List T):List T:=(Ag ts).map Dk
def CV:Nat->List T->List T
 | 0,ts=>ts
 | f+1,ts=>if 1<ts.length then CV f (DD ts) else ts
def Dl (zs:List (ByteArray × ByteArray)):List T:=(Ag zs).map BR
def BS (zs:List (ByteArray × ByteArray)):T:=(CV zs.length (Dl zs)).headD (BR [])
def Dm (ts:List T):Nat:=(ts.map T.nodes).sum
structure DE (n:Nat) (ts:List T):Prop where
 pos:0<ts.length
 le:ts.length<=n
 sum:Dm ts+ts.length<=2*n
 all:∀ t ∈ ts,t.whole=true∧0<t.size
theorem pA {t:T} {ty:TypeId} {v:Value} {P:Nat->Prop} (w:World) (C:t.whole=true) (p:gf w P t (.iface ty v)) (q:∀ a,P a->a<w.heap.size) (J:t.nodes<=10000000) :
  Calls prog 27 #[.iface ty v] w fun i r=>∃ b c e,i=.returned (.agg #[.slice b t.nodes c])∧cj r w.heap.size (.slice b t.nodes c) ((t.flat 0).map TN.nd) e∧Below w.heap.size w r:=by
 obtain⟨d,f⟩:∃ d,d=w.alloc (.cells #[.slice none 0 0] 25):=⟨_,rfl⟩;have s:Below w.heap.size w d:=by rw[f];exact Zb _ _
 have u:d.heap.size=w.heap.size+1:=by rw[f];simp
 have x:d.heap[w.heap.size]?=some (.cells #[.slice none 0 0] 25):=by rw[f];exact Ej w _
 have y:=gf.keep (fun a k=>s.block a (q a k)) q t _ p;obtain⟨K,L,M,N,z,A⟩:=gf.tell (base:=d.heap.size) (P:=fun a=>a<w.heap.size) (fun a k=>by have:a<w.heap.size:=k;omega) t ty v C y;have D:=A d (Ev _ _) none 0 0 [] (fun _ _=>.slice none 0 0) (cj.nil _ _ _) rfl (by omega) (Ek _);have O:=z (.slice none 0 0);clear A z y p;go_enter func27,ntmps27;go_upto_region 1 with fail
 rw[<-f];have j:=hidI u;clear f u;go_wp2_with fail
 refine D.mono ?_;rintro Q g ⟨b,c,e,rfl,l,m⟩;have n:cj g (w.heap.size+1) (.slice b t.nodes c) ((t.flat 0).map TN.nd) e:=by rw[j.out,EK,ED] at l;exact l
 rw[EK];have h:=fB x m (by have:=j.out;omega);have R:=Za h;have S:g.cell? ⟨w.heap.size,0,none⟩=some (.slice none 0 0):=by simp[World.cell?,h]
 have U:=Y9 h 0;have E:=s.trans (m.below (by have:=j.out;omega) (fun a i=>by have:=j.out;omega));have o:=af g w.heap.size 0 (.slice b t.nodes c);have B:cj (g.setCell ⟨w.heap.size,0,none⟩ (.slice b t.nodes c)) w.heap.size (.slice b t.nodes c) ((t.flat 0).map TN.nd) e:=(n.fr o (fun V F i=>by have:=(n.blk F).1;omega)).lower (by omega);have G:=E.trans (o.below (by omega) (fun a i=>by omega));have H:=hidI B;have I:(g.setCell ⟨w.heap.size,0,none⟩ (.slice b t.nodes c)).cell? ⟨w.heap.size,0,none⟩=some (.slice b t.nodes c):=by simp[World.cell?,World.setCell,Array.getElem?_modify,h]
 clear l n B m x o h;go_wp2_with fail
 exact bodyPost_ret (v:=.agg #[.slice b t.nodes c]) (by simp[results,results27,go_sem,I]) rfl ⟨b,c,e,rfl,H.out,G⟩
end Go.Proofs.YtggmghkcdfjdoaaGreat
