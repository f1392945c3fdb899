import Derived.Test.YtggmghkcdfjdoaaGreatHTks
import Derived.Test.YtggmghkcdfjdoaaGreatHTlk
import Derived.Test.YtggmghkcdfjdoaaGreatHTlm
namespace Go.Proofs.YtggmghkcdfjdoaaGreat
set_option maxHeartbeats 4000000
open Go.RowKit Tryz
set_option linter.unusedVariables false
set_option linter.unusedSimpArgs false
set_option maxRecDepth 100000
theorem zL.lower {w:World} {a b g:Nat} {R:World->Nat->Nat->Prop} (h:zL w a g R) (e:b<=a):zL w b g R:=by
 obtain⟨c,f,d⟩:=h;exact⟨c,by omega,d⟩
theorem bP.lower {w:World} {b d g c:Nat} {css:Nat->List Value} {ts:List TN} (h:bP w b g c css ts) (a:d<=b):bP w d g c css ts :=
 ⟨cr h.row a,fun e f i=>⟨(h.node e f i).1,by
  obtain⟨j,k,l,m,n,o,p,on,q,r,s,t,u,v,x,y,z,A⟩:=(h.node e f i).2
  exact⟨j,k,l,m,n,o,p,on,q,r,s,t,u,v,x.lower a,y.lower a,z.lower a,A.lower a⟩⟩⟩
theorem Bh (t:T):∀ a,(t.flat a).length<=t.nodes:=by
 induction t using T.ind with
 |h t e=>
  intro a;rw[T.flat_eq,T.nodes_eq];split;·simp
  ·have:∀ (c:List T) (a:Nat),(∀ b ∈ c,∀ a,(b.flat a).length<=b.nodes)->(bJ a (c.map T.flat)).length<=(c.map T.nodes).sum:=by
    intro c
    induction c with
    | nil=>intro a d;simp[bJ]
    |cons b i f=>intro a d;simp only[Ex,bJ,El,Ff];have j:=d b (Et ..) a;have k:=f (a+(b.flat a).length) (fun b g=>d b (EH _ g));omega
   have d:=this t.kids (a+1) e;rw[EU];omega
theorem eZ (C:Nat) (t:T) (J:∃ r,t.good r=true) (ac:t.nodes<=100000) (K:t.slots.all (fun s=>cy s.1)=true):ep 22 C t [] (fun b q u=>∃ w L A,q=.returned (.agg #[.slice (some ⟨w,0,none⟩) (t.flat 0).length L])∧bP u b.heap.size w L A (t.flat 0)∧Below b.heap.size b u):=by
 intro b e f g h i j k on l m n A ad M;have N:=wA C t J ac K;have O:=Bh t 0;obtain⟨a,x⟩:=Zn b.heap.size;have P:=hidI M;have Q:=hidI N;obtain⟨R,B⟩:=Zn (t.flat 0);have D:=hidI B;rw[B] at O ⊢;clear M N B J K;obtain⟨p,E⟩:=Zn R.length;have F:=hidI E;rw[E] at O ⊢;clear E;have G:=nm b (.cells (Zs t.leaf t.page e f g h i j k on l m t.kids.length n) 57) (.cells #[.slice none 0 0] 25) (.cells #[] 44);have S:Below b.heap.size b (((b.alloc (.cells (Zs t.leaf t.page e f g h i j k on l m t.kids.length n) 57)).alloc (.cells #[.slice none 0 0] 25)).alloc (.cells #[] 44)):=((Zb _ _).alloc (by simp) _).alloc (by simp;omega) _;have U:=er ((b.alloc (.cells (Zs t.leaf t.page e f g h i j k on l m t.kids.length n) 57)).alloc (.cells #[.slice none 0 0] 25)) 44 6;have ae:((b.alloc (.cells (Zs t.leaf t.page e f g h i j k on l m t.kids.length n) 57)).alloc (.cells #[.slice none 0 0] 25)).heap.size=a+1+1:=by simp[x]
 have aA:(((b.alloc (.cells (Zs t.leaf t.page e f g h i j k on l m t.kids.length n) 57)).alloc (.cells #[.slice none 0 0] 25)).alloc (.cells #[] 44)).heap.size=a+3:=by simp[x]
 rw[x] at G;rw[ae] at U;have V:Hid (∀ o,Below b.heap.size b o->o.ownsRow (a+1+1) 44 6 (.slice (some ⟨a+1+1,0,none⟩) 0 0) 0 []->Calls prog 43 #[.slice (some ⟨a+1+1,0,none⟩) 0 0,.agg (Zs t.leaf t.page e f g h i j k on l m t.kids.length n)] o fun q u=>∃ c d H,q=.returned (.slice (some ⟨c,0,none⟩) p d)∧bP u (a+1+1) c d H R∧Fr (fun W=>W=a+1+1) o u∧(c=a+1+1∨o.heap.size<=c)):=by intro o ag ah;have X:=Q.out o (a+1+1) (a+1+1) 0 (fun _=>[]) [] e f g h i j k on l m n A (by omega) ⟨ah,fun aB t ai=>by simp at ai⟩ (P.out.belowC (ag.mono ad)) (by simp only[List.length_nil];have:=D.out;rw[this,F.out];omega);simp only[List.length_nil,ED,D.out,F.out,EK] at X;exact X
 clear Q P D F;generalize t.leaf=Y at *;generalize t.page=Z at *;generalize t.kids.length=aa at *;go_enter func22,ntmps22;obtain⟨ak,al,am,an,ao,ap⟩:=aS G.1;have aq:a<(((b.alloc (.cells (Zs Y Z e f g h i j k on l m aa n) 57)).alloc (.cells #[.slice none 0 0] 25)).alloc (.cells #[] 44)).heap.size:=by omega
 go_upto_region 1 with fail
 go_wp2_with fail
 generalize (((b.alloc (.cells (Zs Y Z e f g h i j k on l m aa n) 57)).alloc (.cells #[.slice none 0 0] 25)).alloc (.cells #[] 44))=o at *;refine (V.out o S U).mono ?_;rintro q y ⟨c,d,H,rfl,ab,I,aC⟩;have z:=(I.block (a+1) (by omega) (by omega)).trans G.2.1;have aD:y.cell? ⟨a+1,0,none⟩=some (.slice none 0 0):=by simp[World.cell?,z]
 have aE:=ar z;have aF:=Za z;have au:=ab.fr (af y (a+1) 0 (.slice (some ⟨c,0,none⟩) p d)) (fun W aG aH=>by omega);have av:=aj z 0 (.slice (some ⟨c,0,none⟩) p d);have aw:=af y (a+1) 0 (.slice (some ⟨c,0,none⟩) p d);have ax:=(S.trans (I.below (by omega) (fun w q=>by omega))).trans (aw.below (by have:=I.size;omega) (fun w q=>by omega));clear ak al am an ao ap aq ab V;go_wp2_with fail
 generalize y.setCell ⟨a+1,0,none⟩ (.slice (some ⟨c,0,none⟩) p d)=ay at *;have az:ay.cell? ⟨a+1,0,none⟩=some (.slice (some ⟨c,0,none⟩) p d):=by simp[World.cell?,av]
 refine bodyPost_ret (v:=.agg #[.slice (some ⟨c,0,none⟩) p d]) (by simp[results,results22,go_sem,az]) rfl ?_;exact⟨c,d,H,rfl,by rw[x];exact au.lower (by omega),ax⟩
theorem wB (a:Option Addr) (n c:Nat) (k:Option Addr) (e f:Nat) (b ys:List TN) (w:World) (A B u o:Nat) (aD:B<=w.heap.size) (aE:o<=w.heap.size) (h:aw w A B a n c b) (v:aw w u o k e f ys) (I:∀ x ∈ b,x.over.length=x.vals.length) :
  Calls prog 37 #[.agg #[.slice a n c],.agg #[.slice k e f]] w fun g aF=>∃ j,g=.returned (.bool j)∧(j=true ↔ b=ys)∧Below w.heap.size w aF:=by
 have q:Below w.heap.size w ((w.alloc (.cells #[.slice a n c] 25)).alloc (.cells #[.slice k e f] 25)):=(Zb _ _).alloc (by simp) _;obtain⟨d,y⟩:=Zn w.heap.size;have aG:(w.alloc (.cells #[.slice a n c] 25)).heap.size=d+1:=by simp[y]
 have r:=Ej (w.alloc (.cells #[.slice a n c] 25)) (.cells #[.slice k e f] 25);have z:=(((Ev _ _).alloc (Ek (w.alloc (.cells #[.slice a n c] 25)).heap.size) (.cells #[.slice k e f] 25)).block d (by omega)).trans (y ▸ Ej w (.cells #[.slice a n c] 25));have aH:((w.alloc (.cells #[.slice a n c] 25)).alloc (.cells #[.slice k e f] 25)).heap.size=d+2:=by simp[y]
 rw[aG] at r;have s:Hid (b.length=n∧ys.length=e):=⟨h.1,v.1⟩;have aI:=Eo h.2.1 h.2.2.1;unfold maxLen at aI;have aJ:=hidI h;have aK:=hidI v;have aL:=hidI I;clear h v I;go_enter func37,ntmps37;go_upto_region 1 with fail
 generalize ((w.alloc (.cells #[.slice a n c] 25)).alloc (.cells #[.slice k e f] 25))=l at q r z aH ⊢;have J:l.cell? ⟨d,0,none⟩=some (.slice a n c):=by simp[World.cell?,z]
 have K:l.cell? ⟨d+1,0,none⟩=some (.slice k e f):=by simp[World.cell?,r]
 have L:d<l.heap.size:=by omega
 have M:d+1<l.heap.size:=by omega
 by_cases N:n=e
 ·subst N;have aM:((n:Int) != (n:Int))=false:=(by simp);go_wp2_with fail
  clear J K;go_loopw [5] (fun t wr=>∃ C:Nat,C<=n∧t=.int .i64 C∧Hid (eP b ys dT C)∧Below l.heap.size l wr) (fun t _=>n - (intOf t).toNat)
  case atStart=>exact⟨0,En _,rfl,fun t a8=>by omega,Ev _ _⟩
  case round =>
   obtain⟨i,a9,rfl,O,p⟩:=hrel;have J:wr.cell? ⟨d,0,none⟩=some (.slice a n c):=(by simp[World.cell?,p.block d L,z]);have K:wr.cell? ⟨d+1,0,none⟩=some (.slice k n f):=(by simp[World.cell?,p.block (d+1) M,r]);have D:=q.trans (p.mono (by omega));have aN:=p.size;have L:d<wr.heap.size:=(by omega);have M:d+1<wr.heap.size:=(by omega);by_cases P:i<n
   ·obtain⟨a',ba,rfl,bb,Q,R,S,T,U,V,W,on,X,Y,Z,aa,aO⟩:=aw.at (aJ.out.below (D.mono aD)) P;obtain⟨bc,bd,rfl,be,ab,ac,iq,ad,ae,af,ag,ah,ai,aj,ak,al,aP⟩:=aw.at (aK.out.below (D.mono aE)) P;have am:=aL.out (b.getD i dT) (by have:=s.out.1;simp[List.getD,show i<b.length by omega]);have aQ:Hid (∀ j:Bool,(j=true ↔ b.getD i dT=ys.getD i dT)->(j=true->eP b ys dT (i+1))∧(j=false->¬ b=ys)):=(by intro j m;refine⟨fun g=>O.out.succ (m.1 g),fun g=>?_⟩;intro aR;rw[aR] at m;have:=m.2 rfl;rw[g] at this;cases this);generalize b.getD i dT=an at *;generalize ys.getD i dT=ao at *;obtain⟨aS,aT,f,aU,aV,aW,bf,ap,aq,ar,au⟩:=aO;obtain⟨aX,aY,aZ,a0,a1,a2,bg,av,ax,ay,az⟩:=aP;have a3:∀ E:World,E.heap=wr.heap->_:=fun E g=>jE an ao am Q R S T U V W on X Y Z aa ab ac iq ad ae af ag ah ai aj ak al E A B u o (by rw[g];omega) (by rw[g];omega);have aA:wr.drew.heap.size=wr.heap.size:=rfl;have a4:B<=wr.drew.heap.size:=(by rw[aA];omega);have a5:o<=wr.drew.heap.size:=(by rw[aA];omega);clear a3;(go_upto_region 6 with fail);go_region_with (go_at_call 55;refine (jE an ao am Q R S T U V W on X Y Z aa ab ac iq ad ae af ag ah ai aj ak al _ A B u o ?_ ?_ ?_ ?_ ?_ ?_ ?_ ?_ ?_ ?_).mono ?_;exact a4;exact a5;exact ap;exact aq;exact ar;exact au;exact av;exact ax;exact ay;exact az;rintro g bh ⟨j,rfl,m,aB⟩)
    all_goals
     obtain⟨F,G⟩:=aQ.out j m;have aC:=(p.drew).trans (aB.mono aN);clear aS aT f aU aV aW aX aY aZ a0 a1 a2 ap aq ar au av ax ay az m aB;cases j;·have H:Hid (¬ b=ys):=G rfl;clear F G;(go_wp2_with fail);go_ret;exact⟨false,rfl,by simp[H.out],q.trans (aC.mono (by omega))⟩
     ·have a6:Hid (eP b ys dT (i+1)):=F rfl;clear F G;(go_wp2_with fail);go_roundw
      case rel=>exact⟨i+1,by omega,by go_num,a6,aC⟩
      case measure=>simp[intOf];omega
   ·have a7:Hid (b=ys):=by obtain rfl:i=n:=(by omega);exact O.out.eq s.out.1 s.out.2
    (go_wp2_with fail);go_ret;exact⟨true,rfl,by simp[a7.out],D⟩
 ·have aM:((n:Int) != (e:Int))=true:=(by simp;omega);have H:Hid (¬ b=ys):=(by intro g;have:=s.out;rw[g] at this;omega);clear N;go_wp2_with fail
  go_ret;exact⟨false,rfl,by simp[H.out],q⟩
end Go.Proofs.YtggmghkcdfjdoaaGreat
