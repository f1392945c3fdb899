import Derived.Test.YtggmghkcdfjdoaaGreatHTks
import Derived.Test.YtggmghkcdfjdoaaGreatHTlr
import Derived.Test.YtggmghkcdfjdoaaGreatHTgf
namespace Go.Proofs.YtggmghkcdfjdoaaGreat
set_option maxHeartbeats 4000000
open Go.RowKit Tryz
set_option linter.unusedVariables false
set_option linter.unusedSimpArgs false
set_option maxRecDepth 100000
theorem j3 (s:ByteArray) (w:World):Calls prog 24 #[.string s] w fun b c=>b=.returned (.bool (cy s))∧c=w:=by
 by_cases e:1<=s.size
 ·by_cases f:s.size<=8
  ·have a:Hid (cy s=true):=(by show _=_;simp[cy];omega);have d:decide ((s.size:Int)<=8)=true:=(by simp;omega);go_enter func24,ntmps24;go_wp2
   go_ret;exact⟨by rw[a.out];rfl,rfl⟩
  ·have a:Hid (cy s=false):=(by show _=_;simp[cy];omega);have d:decide ((s.size:Int)<=8)=false:=(by simp;omega);go_enter func24,ntmps24;go_wp2
   go_ret;exact⟨by rw[a.out];rfl,rfl⟩
 ·have a:Hid (cy s=false):=(by show _=_;simp[cy];omega);go_enter func24,ntmps24;go_wp2
  go_ret;exact⟨by rw[a.out];rfl,rfl⟩
theorem Aa {zs:List (ByteArray × ByteArray × Int)} {j:Nat} (b:j<zs.length) (h:(zs.take j).all (fun a=>cy a.1)=true) (c:cy (zs.getD j (ByteArray.empty,ByteArray.empty,0)).1=true):(zs.take (j+1)).all (fun a=>cy a.1)=true:=by
 rw[ER b,List.all_append,h];simp[List.getD,b] at c;simp[c]
theorem wD {base:Nat} (zs:List (ByteArray × ByteArray × Int)) (K:Option Addr) (m af:Nat) (w:World) (E:w.ownsRow base 75 3 (.slice K m af) m (aa aB zs)) (az:m<=100000) (ag:zs.length=m):Calls prog 45 #[.slice K m af] w fun k l=>eU (zs.all (fun b=>cy b.1)=true∧it (zs.map (fun b=>b.1))=true) w k l:=by
 have u:=hidI ag;have ah:Hid (∀ wr,Below w.heap.size w wr->∀ c,c<m->∃ i,K=some ⟨i,0,none⟩∧i<wr.heap.size∧wr.cell? ⟨i,c*3,none⟩=some (.string (zs.getD c (ByteArray.empty,ByteArray.empty,0)).1)∧wr.cell? ⟨i,c*3+1,none⟩=some (.string (zs.getD c (ByteArray.empty,ByteArray.empty,0)).2.1)∧wr.cell? ⟨i,c*3+2,none⟩=some (.int .i64 (zs.getD c (ByteArray.empty,ByteArray.empty,0)).2.2)):=fun wr v c aq=>by
  rcases E.2 with ⟨k,aA⟩ | ⟨i,aC,aD,k,_⟩;·omega
  ·simp only[Value.slice.injEq] at k;obtain⟨rfl,_,rfl⟩:=k;have L:=E.lt i rfl;have M:∀ g,g<3->wr.cell? ⟨i,c*3+g,none⟩=(aB (zs.getD c (ByteArray.empty,ByteArray.empty,0)))[g]?:=fun g F=>(by rw[Ep (w:=w) (a:=⟨i,c*3+g,none⟩) (v.block i L.2),E.cellAt (c*3+g) (by omega)];exact bI uo _ zs c g (by omega) F);exact⟨i,rfl,Er L.2 v.size,by simpa[aB] using M 0 (by omega),by simpa[aB] using M 1 (by omega),by simpa[aB] using M 2 (by omega)⟩
 clear E ag;go_enter func45,ntmps45;go_wp2_with fail
 go_loopw [7] (fun d wr=>∃ c:Nat,c<=m∧d=.int .i64 c∧Hid ((zs.take c).all (fun b=>cy b.1)=true∧jw (zs.map (fun b=>b.1)) c)∧Below w.heap.size w wr) (fun d _=>m - (intOf d).toNat)
 case atStart=>exact⟨0,En _,rfl,⟨by simp,fun d x=>by omega⟩,Ev _ _⟩
 case round =>
  obtain⟨c,aq,rfl,o,y⟩:=hrel;by_cases ar:c<m
  ·obtain⟨ai,rfl,aE,aj,ak,al⟩:=ah.out wr y c ar;obtain⟨N,O⟩:=Zn wr.heap.size;have P:Hid (∀ G,cy (zs.getD c (ByteArray.empty,ByteArray.empty,0)).1=G->(G=true->(zs.take (c+1)).all (fun b=>cy b.1)=true)∧(G=false->¬ zs.all (fun b=>cy b.1)=true)):=fun G v=>(by refine⟨fun z=>Aa (by have:=u.out;omega) o.out.1 (by rw[v,z]),fun z q=>?_⟩;have:=Ez.1 q (zs.getD c (ByteArray.empty,ByteArray.empty,0)) (by have:=u.out;simp[List.getD,show c<zs.length by omega]);rw[v,z] at this;cases this);have A:Hid (∀ d,d<m->(zs.map (fun b=>b.1)).getD d .empty=(zs.getD d (ByteArray.empty,ByteArray.empty,0)).1):=fun d x=>(by have:=u.out;simp[List.getD,show d<zs.length by omega]);obtain⟨h,Q⟩:=Zn ((zs.getD c (ByteArray.empty,ByteArray.empty,0)).1);have R:=hidI Q;rw[Q] at aj P;generalize (zs.getD c (ByteArray.empty,ByteArray.empty,0)).2.1=r at ak;generalize (zs.getD c (ByteArray.empty,ByteArray.empty,0)).2.2=s at al;clear Q;have S:=Zb wr (.cells #[.string h,.string r,.int .i64 s] 75);have j:=Ej wr (.cells #[.string h,.string r,.int .i64 s] 75);rw[O] at j;have t:=y.trans (S.mono y.size);go_upto_region 4 with fail
   try rw[O]
   generalize wr.alloc (.cells #[.string h,.string r,.int .i64 s] 75)=H at S j t ⊢;have aF:=Za j;clear aj ak al S y O;obtain⟨am,T⟩:=Zn (cy h);obtain⟨U,V⟩:=P.out am T;have W:=hidI T;clear T P;cases am;·have X:Hid (¬ (zs.all (fun b=>cy b.1)=true∧it (zs.map (fun b=>b.1))=true)):=fun z=>V rfl z.1;clear U V;refine Zg (fun l:World=>l.heap[N]?=some (.cells #[.string h,.string r,.int .i64 s] 75)) (j) (fun B=>?_);refine Zx .a0 ?_;refine Zy .a1 (fun p e=>by (try dsimp only at e);obtain⟨Y,q1,q2⟩:=gU e;go_simp;rfl) ?_;(try simp only[Zq]);refine Zr [2] ?_;refine rdA .a2 (fun C n=>?_) Ei;go_simp;refine (j3 h H.drew).mono ?_;rintro k an ⟨rfl,rfl⟩;(go_wp2_with fail);rw[W.out];refine n.out _ _ (j) (fun B=>?_);clear n C;refine Zx .a3 ?_;refine Zx .a4 ?_;refine Zu .a5 ?_;(try simp only[Zq]);refine Zu .a6 ?_;refine Zu .a7 ?_;refine Zu .a8 ?_;refine Zu .a9 ?_;(try simp only[Zq]);refine Zu (.t .a0) ?_;refine Zu (.t .a1) ?_;refine Zu (.t .a2) ?_;refine Zu (.t .a3) ?_;(try simp only[Zq]);refine Zu (.t .a4) ?_;refine Zu (.t .a5) ?_;refine Zu (.t .a6) ?_;refine Zu (.t .a7) ?_;(try simp only[Zq]);refine Zx (.t .a8) ?_;(try simp only[Zq]);refine Zd ?_;(go_wp2_with fail);go_ret;exact eU.no X.out t.drew
   ·have q:=U rfl;clear U V;by_cases au:c=0
    ·subst au;have Z:Hid ((zs.take (0+1)).all (fun b=>cy b.1)=true∧jw (zs.map (fun b=>b.1)) (0+1)):=⟨q,fun d x=>by omega⟩;clear o q;refine Zg (fun l:World=>l.heap[N]?=some (.cells #[.string h,.string r,.int .i64 s] 75)) (j) (fun B=>?_);refine Zx .a0 ?_;refine Zy .a1 (fun p e=>by (try dsimp only at e);obtain⟨Y,q1,q2⟩:=gU e;go_simp;rfl) ?_;(try simp only[Zq]);refine Zr [2] ?_;refine rdA .a2 (fun C n=>?_) Ei;go_simp;refine (j3 h H.drew).mono ?_;rintro k an ⟨rfl,rfl⟩;(go_wp2_with fail);rw[W.out];refine n.out _ _ (j) (fun B=>?_);clear n C;refine Zx .a3 ?_;refine Zx .a4 ?_;refine Zx .a5 ?_;(try simp only[Zq]);refine Zx .a6 ?_;refine Zx .a7 ?_;refine Zu .a8 ?_;refine Zu .a9 ?_;(try simp only[Zq]);refine Zu (.t .a0) ?_;refine Zu (.t .a1) ?_;refine Zu (.t .a2) ?_;refine Zu (.t .a3) ?_;(try simp only[Zq]);refine Zu (.t .a4) ?_;refine Zu (.t .a5) ?_;refine Zu (.t .a6) ?_;refine Zx (.t .a7) ?_;(try simp only[Zq]);refine Zx (.t .a8) ?_;(try simp only[Zq]);refine Zd ?_;have ab:=t.drew;(go_wp2_with fail);go_roundw
     case rel=>exact⟨0+1,by omega,by go_num,Z,ab⟩
     case measure=>simp[intOf];omega
    ·obtain⟨f,rfl⟩:∃ f,c=f+1:=⟨c - 1,by omega⟩;obtain⟨aG,av,aI,ac,_,_⟩:=ah.out H t f (by omega);cases av;have I:Hid (∀ g,aH (zs.getD f (ByteArray.empty,ByteArray.empty,0)).1 h=g->(g=true->(zs.take (f+1+1)).all (fun b=>cy b.1)=true∧jw (zs.map (fun b=>b.1)) (f+1+1))∧(g=false->¬ (zs.all (fun b=>cy b.1)=true∧it (zs.map (fun b=>b.1))=true))):=by
      intro g F;constructor
      ·rintro rfl;refine⟨q,fun d x=>?_⟩;by_cases aw:d=f;·subst aw;rw[A.out d (by omega),A.out (d+1) (by omega),R.out];exact F
       ·exact o.out.2 d (by omega)
      ·rintro rfl ⟨_,ax⟩;have:=wC _ ax f (by have:=u.out;simp;omega);rw[A.out f (by omega),A.out (f+1) (by omega),R.out,F] at this;cases this
     obtain⟨ao,ap⟩:=Zn ((zs.getD f (ByteArray.empty,ByteArray.empty,0)).1);rw[ap] at ac I;unfold aH at I;obtain⟨ad,ae⟩:=Zn (Op.bytesLess ao.toList h.toList);have J:=I.out ad ae;have D:=hidI ae;have aJ:IntKind.i64.wrap (f:Int)=f:=(by rw[Fa];omega);clear ae I ap o q A R;refine Zg (fun l:World=>l.heap[N]?=some (.cells #[.string h,.string r,.int .i64 s] 75)∧l.cell? ⟨ai,f*3,none⟩=some (.string ao)) (⟨j,ac⟩) (fun B=>?_);refine Zx .a0 ?_;refine Zy .a1 (fun p e=>by (try dsimp only at e);obtain⟨Y,q1,q2⟩:=gU e.1;go_simp;rfl) ?_;(try simp only[Zq]);refine Zr [2] ?_;refine rdA .a2 (fun C n=>?_) Ei;go_simp;refine (j3 h H.drew).mono ?_;rintro k an ⟨rfl,rfl⟩;(go_wp2_with fail);rw[W.out];refine n.out _ _ (⟨j,ac⟩) (fun B=>?_);clear n C;refine Zx .a3 ?_;refine Zx .a4 ?_;refine Zx .a5 ?_;(try simp only[Zq]);refine Zw (.bool true) .a6 ?_ ?_;·intro p e;go_simp;(try omega)
     refine Zx .a7 ?_;refine Zx .a8 ?_;refine Zx .a9 ?_;(try simp only[Zq]);refine Zx (.t .a0) ?_;refine Zw (.pointer (some ⟨ai,f*3,none⟩)) (.t .a1) ?_ ?_;·intro p e;go_simp;(try (intro aK;exfalso;omega))
     refine Zx (.t .a2) ?_;refine Zy (.t .a3) (fun p e=>by (try dsimp only at e);obtain⟨aL,aM⟩:=e;go_simp;rfl) ?_;(try simp only[Zq]);refine Zx (.t .a4) ?_;refine Zy (.t .a5) (fun p e=>by (try dsimp only at e);obtain⟨Y,q1,q2⟩:=gU e.1;go_simp;rfl) ?_;refine Zw (.bool (!ad)) (.t .a6) ?_ ?_;·intro p e;go_simp<;>first | (rw[pl,D.out];simp) | exact D.out | simp[D.out]
     (try simp only[Zq]);cases ad;·have X:Hid (¬ (zs.all (fun b=>cy b.1)=true∧it (zs.map (fun b=>b.1))=true)):=J.2 rfl;clear J D;refine Zx (.t .a7) ?_;refine Zx (.t .a8) ?_;(try simp only[Zq]);refine Zd ?_;(go_wp2_with fail);go_ret;exact eU.no X.out t.drew
     ·have Z:Hid _:=J.1 rfl;clear J D;refine Zx (.t .a7) ?_;refine Zx (.t .a8) ?_;(try simp only[Zq]);refine Zd ?_;have ab:=t.drew;(go_wp2_with fail);go_roundw
      case rel=>exact⟨f+1+1,by omega,by go_num,Z,ab⟩
      case measure=>simp[intOf];omega
  ·have ay:Hid (zs.all (fun b=>cy b.1)=true∧it (zs.map (fun b=>b.1))=true):=by
    have L:=u.out;refine⟨?_,zZ _ (fun d x=>o.out.2 d (by simp at x;omega))⟩;have:=o.out.1
    rwa [Ey (by omega)] at this
   clear o;go_wp2_with fail
   go_ret;exact eU.yes ay.out y
def jf (ts:List TN) (w:World) (e:Ending) (w':World):Prop :=
 (¬ cF ts->e=.returned (.tuple #[.nilIface,.bool false]))∧(cF ts->∃ t met u,gr ts (ts.length+1) 0 (fun _=>false)=some (t,ts.length,met)∧t.slots.all (fun s=>cy s.1)=true∧it (t.slots.map (fun s=>s.1))=true∧e=.returned (.tuple #[u,.bool true])∧GM w' (fun b=>w.heap.size<=b∧b<w'.heap.size) t u)∧Below w.heap.size w w'
theorem jf.no {ts:List TN} {w w':World} (h:¬ cF ts) (a:Below w.heap.size w w'):jf ts w (.returned (.tuple #[.nilIface,.bool false])) w':=⟨fun _=>rfl,fun b=>absurd b h,a⟩
theorem wE:Tryz.zeroCells116=#[.slice none 0 0,.int .i64 0]++Array.replicate 1000 (.bool false):=by kernel_rfl
theorem wF (a:Option Addr) (n c:Nat) (w:World):eN (w.alloc (.cells (Tryz.zeroCells116.setIfInBounds 0 (.slice a n c)) 116)) w.heap.size a n c 0 (fun _=>false):=by
 have d:Tryz.zeroCells116.size=1002:=by rw[wE,Array.size_append,Array.size_replicate];rfl
 refine⟨_,Ej w _,by rw[Array.size_setIfInBounds,d],?_,?_,fun b e=>?_⟩;·rw[Array.getElem?_setIfInBounds_self_of_lt (by omega)]
 ·rw[Fd (by omega),wE,Array.getElem?_append_left (by simp)];rfl
 ·rw[Fd (by omega),wE,Array.getElem?_append_right (by simp)];have f:2+b - (#[Value.slice none 0 0,Value.int .i64 0]:Array Value).size=b:=(by have:(#[Value.slice none 0 0,Value.int .i64 0]:Array Value).size=2:=rfl;omega);rw[f,Array.getElem?_replicate,if_pos e]
theorem jG (ts:List TN) (a:Option Addr) (n c A B:Nat) (w:World) (aI:B<=w.heap.size) (s:aw w A B a n c ts) :
  Calls prog 23 #[.agg #[.slice a n c]] w fun e b=>jf ts w e b:=by
 obtain⟨f,am⟩:=Zn w.heap.size;have t:=Ej w (.cells #[.slice a n c] 25);have u:=Zb w (.cells #[.slice a n c] 25);have T:(w.alloc (.cells #[.slice a n c] 25)).heap.size=f+1:=by simp[am]
 rw[am] at t;have q:=hidI s.1;have aJ:=Eo s.2.1 s.2.2.1;unfold maxLen at aJ;have U:=s.below (u.mono aI);clear s;go_enter func23,ntmps23;go_upto_region 1 with fail
 generalize w.alloc (.cells #[.slice a n c] 25)=I at t u T U ⊢;have m:=ah t;have an:f<I.heap.size:=by omega
 by_cases a3:1000<n
 ·have o:Hid (¬ cF ts):=fun g=>(by have:=g.1;have:=q.out;omega);go_wp2_with fail
  refine bodyPost_ret (v:=.tuple #[.nilIface,.bool false]) (by simp[results,results23,go_sem]) rfl ?_;exact jf.no o.out u
 have x:=Zb I (.cells (Tryz.zeroCells116.setIfInBounds 0 (.slice a n c)) 116);have y:=wF a n c I;rw[T] at y;have V:=U.below (x.mono (by omega));have W:=(x.block f an).trans t;have X:=u.trans (x.mono (by omega));go_upto_region 4 with fail
 generalize I.alloc (.cells (Tryz.zeroCells116.setIfInBounds 0 (.slice a n c)) 116)=ao at x y V W X ⊢;clear m U t u an;have ap:=my ts (by have:=q.out;omega) a n c A B (f+1) (by omega) (ts.length+1) 0 (fun _=>false) ao (En _) (by omega) V y;have a4:=y.lt;go_wp2_with fail
 refine ap.mono ?_;rintro e h ⟨J,K,z⟩;have L:=hidI (X.trans (z.below (by omega) (fun a5 e=>by omega)));have M:=(z.block f (by omega) (by omega)).trans W;have m:=ah M;clear ap W V y x T;cases k:gr ts (ts.length+1) 0 (fun _=>false) with
 |none=>
  obtain rfl:=J k;have o:Hid (¬ cF ts):=fun g=>(by obtain⟨_,d,aq,e,_⟩:=g;rw[k] at e;cases e);clear J K k z M m;go_upto_region 5 with fail
  refine Zg (fun _:World=>True) (trivial) (fun N=>?_);refine Zx .a0 ?_;refine Zx .a1 ?_;refine Zx .a2 ?_;refine Zu .a3 ?_;try simp only[Zq]
  refine Zu .a4 ?_;refine Zu .a5 ?_;refine Zu .a6 ?_;refine Zu .a7 ?_;try simp only[Zq]
  refine Zu .a8 ?_;refine Zu .a9 ?_;refine Zu (.t .a0) ?_;refine Zx (.t .a1) ?_;try simp only[Zq]
  refine Zx (.t .a2) ?_;refine Zu (.t .a3) ?_;refine Zu (.t .a4) ?_;refine Zu (.t .a5) ?_;try simp only[Zq]
  refine Zu (.t .a6) ?_;refine Zx (.t .a7) ?_;try simp only[Zq]
  refine Zd ?_;go_wp2_with fail
  refine bodyPost_ret (v:=.tuple #[.nilIface,.bool false]) (by simp[results,results23,go_sem]) rfl ?_;exact jf.no o.out L.out.drew
 |some aK=>
  obtain⟨d,i,C⟩:=aK;obtain⟨a6,rfl,D,O⟩:=K d i C k;obtain⟨Y,Z,rfl⟩:=D.shape;obtain⟨ar,au,aa,Q,ab,av,ax,ay⟩:=iw ts _ 0 _ d i C (En _) k;have ac:=O.c1;have aL:=O.lt;have aM:=aO m;have a7:i<=1000:=(by have:=Q.1;have:=q.out;omega);by_cases az:i≠n
  ·have o:Hid (¬ cF ts):=fun g=>(by obtain⟨_,aN,aq,e,_⟩:=g;rw[k] at e;simp only[Option.some.injEq,Prod.mk.injEq] at e;have:=q.out;omega);have aP:((i:Int) != (n:Int))=true:=(by simp;omega);clear J K k z M D O ar au aa Q ab av ax ay az;go_upto_region 5 with fail
   refine Zg (fun b:World=>b.cell? ⟨f+1,1,none⟩=some (.int .i64 i)∧b.cell? ⟨f,0,none⟩=some (.slice a n c)) (⟨ac,m⟩) (fun N=>?_);refine Zx .a0 ?_;refine Zx .a1 ?_;refine Zx .a2 ?_;refine Zx .a3 ?_;try simp only[Zq]
   refine Zx .a4 ?_;refine Zx .a5 ?_;refine Zy .a6 (fun ad j=>by (try dsimp only at j);obtain⟨ae,af⟩:=j;go_simp;rfl) ?_;refine Zx .a7 ?_;try simp only[Zq]
   refine Zy .a8 (fun ad j=>by (try dsimp only at j);obtain⟨ae,af⟩:=j;go_simp;rfl) ?_;refine Zx .a9 ?_;refine Zx (.t .a0) ?_;refine Zx (.t .a1) ?_;try simp only[Zq]
   refine Zx (.t .a2) ?_;refine Zu (.t .a3) ?_;refine Zu (.t .a4) ?_;refine Zu (.t .a5) ?_;try simp only[Zq]
   refine Zu (.t .a6) ?_;refine Zx (.t .a7) ?_;try simp only[Zq]
   refine Zd ?_;go_wp2_with fail
   refine bodyPost_ret (v:=.tuple #[.nilIface,.bool false]) (by simp[results,results23,go_sem]) rfl ?_;exact jf.no o.out L.out.drew
  ·have aQ:i=n:=(by omega);clear az;subst aQ;have aP:((i:Int) != (i:Int))=false:=(by simp);have ag:Hid (gr ts (ts.length+1) 0 (fun _=>false)=some (d,ts.length,C)):=(by show _=_;rw[k,q.out]);have aR:Hid ((d.slots.all (fun p=>cy p.1)=true∧it (d.slots.map (fun p=>p.1))=true)->cF ts):=fun g=>⟨by have:=q.out;omega,d,C,ag.out,g.1,g.2⟩;have aS:Hid (¬ (d.slots.all (fun p=>cy p.1)=true∧it (d.slots.map (fun p=>p.1))=true)->¬ cF ts):=fun g aT=>(by obtain⟨_,aN,aq,e,aU,aV⟩:=aT;rw[ag.out] at e;simp only[Option.some.injEq,Prod.mk.injEq] at e;obtain⟨rfl,_⟩:=e;exact g ⟨aU,aV⟩);have aA:Hid (d.slots.length<=100000):=(by show _<=_;have:=dY d ⟨true,ab⟩;have:=Q.1;omega);have aB:Hid (w.heap.size<=h.drew.heap.size):=L.out.size;have aW:Hid (∀ b,Fr (fun R=>h.heap.size<=R) h.drew b->GM b (fun l=>w.heap.size<=l∧l<b.heap.size) d (.iface Y Z)):=fun b E =>GM.keep (w:=h) d _ _ _ (fun l F=>E.block l F.2 (by omega)) (fun l F=>⟨by have:=X.size;omega,Er F.2 E.size⟩) D;obtain⟨a8,a9,a',ba,aC,aD⟩:=gf.slots (base:=h.heap.size) (P:=fun l=>ao.heap.size<=l∧l<h.heap.size) (fun l F=>F.2) d Y Z aa (GM.see _ _ _ D);have ai:=aD h.drew ((Ev _ h).drew) none 0 0 [] (World.ownsRow_nil _ _ _ _) (by have:=aA.out;omega) (Ek _);simp only[EK,ED] at ai;have aX:=hidI ai;have bb:=aC (.slice none 0 0);have aE:Hid (∀ b:World,Fr (fun R=>h.heap.size<=R) h.drew b->(b.cell? ⟨f+1,1,none⟩=some (.int .i64 i)∧b.cell? ⟨f,0,none⟩=some (.slice a i c))):=fun b E =>
    ⟨(Ep (w:=h) (a:=⟨f+1,1,none⟩) (E.block (f+1) aL (by omega))).trans ac,(Ep (w:=h) (a:=⟨f,0,none⟩) (E.block f aM (by omega))).trans m⟩
   clear J K k z M D O ar au aa Q ab av ax ay aD ai aC;go_upto_region 5 with fail
   refine Zg (fun b:World=>b.cell? ⟨f+1,1,none⟩=some (.int .i64 i)∧b.cell? ⟨f,0,none⟩=some (.slice a i c)) (⟨ac,m⟩) (fun N=>?_);refine Zx .a0 ?_;refine Zx .a1 ?_;refine Zx .a2 ?_;refine Zx .a3 ?_;try simp only[Zq]
   refine Zx .a4 ?_;refine Zx .a5 ?_;refine Zy .a6 (fun ad j=>by (try dsimp only at j);obtain⟨ae,af⟩:=j;go_simp;rfl) ?_;refine Zx .a7 ?_;try simp only[Zq]
   refine Zy .a8 (fun ad j=>by (try dsimp only at j);obtain⟨ae,af⟩:=j;go_simp;rfl) ?_;refine Zx .a9 ?_;refine Zx (.t .a0) ?_;refine Zx (.t .a1) ?_;try simp only[Zq]
   refine Zx (.t .a2) ?_;refine Zx (.t .a3) ?_;try simp only[Zq]
   refine Zr [14] ?_;refine rdA (.t .a4) (fun aj G=>?_) Ei;go_simp;refine (aX.out).mono ?_;rintro e aF ⟨aY,aZ,rfl,ak,r⟩;go_wp2_with fail
   refine G.out _ _ (aE.out aF r) (fun N=>?_);clear G aj;try simp only[Zq]
   refine Zr [15] ?_;refine rdA (.t .a5) (fun aj G=>?_) Ei;go_simp;refine (wD (base:=h.heap.size) d.slots aY _ aZ aF ak aA.out rfl).mono ?_;rintro e aG ⟨a0,rfl,S,H⟩;go_wp2_with fail
   refine G.out _ _ (aE.out aG (r.trans (Fr.of_below H))) (fun N=>?_);clear G aj;try simp only[Zq]
   have aH:=hidI (L.out.drew.trans ((r.trans (Fr.of_below H)).below aB.out (fun R a1=>Eo aB.out a1)));have a2:Hid _:=aW.out aG (r.trans (Fr.of_below H));cases a0;·have o:Hid (¬ cF ts):=aS.out (fun g=>by simpa using S.2 g);clear S ak r H;refine Zx (.t .a6) ?_;refine Zx (.t .a7) ?_;(try simp only[Zq]);refine Zd ?_;(go_wp2_with fail);refine bodyPost_ret (v:=.tuple #[.nilIface,.bool false]) (by simp[results,results23,go_sem]) rfl ?_;exact jf.no o.out aH.out
   ·have al:Hid _:=S.1 rfl;clear S ak r H;refine Zx (.t .a6) ?_;refine Zx (.t .a7) ?_;(try simp only[Zq]);refine Zd ?_;(go_wp2_with fail);refine bodyPost_ret (v:=.tuple #[.iface Y Z,.bool true]) (by simp[results,results23,go_sem]) rfl ?_;exact⟨(fun g=>absurd (aR.out al.out) g),fun _=>⟨d,C,_,ag.out,al.out.1,al.out.2,rfl,a2.out⟩,aH.out⟩
end Go.Proofs.YtggmghkcdfjdoaaGreat
