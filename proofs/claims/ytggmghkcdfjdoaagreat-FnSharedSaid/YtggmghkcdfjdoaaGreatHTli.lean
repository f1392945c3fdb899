import Derived.Test.YtggmghkcdfjdoaaGreatHTks
import Derived.Test.YtggmghkcdfjdoaaGreatHTga
import Derived.Test.YtggmghkcdfjdoaaGreatHTlg
import Derived.Test.YtggmghkcdfjdoaaGreatHTld
import Derived.Deep.QuietTactic
import Derived.BigQuiet
import Derived.Deep.RegionLaw
import Derived.WalkSpells
namespace Go.Proofs.YtggmghkcdfjdoaaGreat
set_option maxHeartbeats 4000000
open Go.RowKit Tryz
set_option linter.unusedVariables false
set_option linter.unusedSimpArgs false
set_option maxRecDepth 100000
variable {N c cc g g' lo n:Nat} {P:Program} {W w w' wr:World} {bx:Array Value} {css:Nat->List Value} {l:List Int} {t:T} {ts:List TN}
def aG (s:ByteArray × ByteArray × Int):List Value:=[.string s.1,.string s.2.1]
theorem Cf:∀ a,(aG a).length=2:=fun _=>rfl
theorem gN:(prog.info? 40).map (fun a=>(a.zero,a.size,a.bytes))=some (some (.agg #[.string ByteArray.empty,.string ByteArray.empty]),2,32):=by kernel_rfl
theorem cf (w:World) (a b:Value) (t:TypeId):∀ d e,[a,b][d]?=some e->(w.alloc (.cells #[a,b] t)).cell? ((⟨w.heap.size,0,none⟩:Addr).add d)=some e:=by
 intro d e c
 match d,c with
 | 0,c=>simpa[Addr.add] using c
 | 1,c=>simpa[Addr.add] using c
theorem aD {a:Type} (cs:a->List Value) (b ys:List a):aa cs (b++ys)=aa cs b++aa cs ys:=by simp[aa]
theorem er (w:World) (e size:Nat):(w.alloc (.cells #[] e)).ownsRow w.heap.size e size (.slice (some ⟨w.heap.size,0,none⟩) 0 0) 0 []:=by
 have:=World.ownsRow_made w #[] (base:=w.heap.size) (e:=e) (size:=size) 0 (by simp) (by unfold maxLen;omega) (by simp);simpa using this
theorem pe (c:cg t) (b:t.leaf=true) (d:t.keys.length=n) (e:t.vals.length=n) (f:t.over.length=n):t.slots.length=n∧∀ a,a<n->t.slots.take (a+1)=t.slots.take a++[(t.keys.getD a .empty,t.vals.getD a .empty,t.over.getD a 0)]:=by
 have g:t.slots=t.keys.zip (t.vals.zip t.over):=by rw[T.slots_eq,b,((bj t).1 c).1 b];simp
 rw[g];have h:(t.keys.zip (t.vals.zip t.over)).length=n:=by simp;omega
 refine⟨h,fun a i=>?_⟩;rw[ER (by omega)];have:=mz d e f i;rw[Eh (by omega)] at this;simp only[Option.some.injEq] at this;rw[this]
theorem jC (a:t.leaf=false):t.slots=(t.kids.map T.slots).flatten:=by rw[T.slots_eq,a];simp
theorem yF {k:T} {j:Nat} (h:t.kids[j]?=some k):((t.kids.map T.slots).take (j+1)).flatten=((t.kids.map T.slots).take j).flatten++k.slots:=by
 obtain⟨a,b⟩:=EQ.1 h;rw[ER (by simpa using a),Fc];simp[b]
theorem jd {a:Type} (l:List (List a)) (j:Nat):(l.take j).flatten.length<=l.flatten.length:=by
 have:=congrArg List.flatten (EV j l);rw[Fc] at this;have b:=congrArg List.length this;rw[El] at b;omega
theorem nt (g q:Nat):(⟨g,0,none⟩:Addr).add q=⟨g,q,none⟩:=by
 simp[Addr.add];omega
theorem yG (t:T):cg t->t.good false=true->0<t.slots.length:=by
 induction t using T.ind with
 |h t j=>
  intro f b;by_cases c:t.leaf=true;·have a:=(nl b).2;have d:=b;rw[T.good_eq,c] at d;simp only[Em,Es,Fg,E8] at d;have:=(pe f c rfl d.1.1.2.1.1 d.1.1.2.1.2).1;unfold T.size at a;rw[if_pos c] at a;omega
  ·have g:t.leaf=false:=(by simpa using c);have a:=(dg b g).1;rw[jC g]
   match i:t.kids with
   | []=>rw[i] at a;simp at a
   | k::r =>have e:k ∈ t.kids:=(by rw[i];exact Et ..);have:=j k e (((bj t).1 f).2 k e) (aY b e);simp;omega
def iP (t:T) (w:World) (e:Ending) (w':World):Prop:=∃ g c,e=.returned (.slice (some ⟨g,0,none⟩) t.slots.length c)∧w'.ownsRow w.heap.size 40 2 (.slice (some ⟨g,0,none⟩) t.slots.length c) t.slots.length (aa aG t.slots)∧Below w.heap.size w w'
theorem gj {base e size:Nat} {v:Value} {a:List Value} (h:w.ownsRow base e size v n a) (d:0<n):∃ g c,v=.slice (some ⟨g,0,none⟩) n c:=by
 rcases h.2 with ⟨_,f⟩ | ⟨g,b,i,rfl,_⟩;·omega
 ·exact⟨g,b,rfl⟩
theorem sK (C:Nat) (t:T) (L:cg t) (p:t.leaf=true) (ae:∃ M,t.good M=true):ep 28 C t [] (fun w E w'=>iP t w E w'):=by
 intro w e r f h O i j on k l m css af b;have P:=jB.new w (Zs t.leaf t.page e r f h O i j on k l t.kids.length m);have ag:t.kids.length=0:=by rw[((bj t).1 L).1 p];rfl
 have ah:O=r∧on=r∧r<=4:=by obtain⟨M,Q⟩:=ae;have aO:=b.keys.1;have aQ:=b.vals.1;have aR:=b.over.1;rw[T.good_eq,p] at Q;simp only[Em,Es,Fg,E8,T.size,p,if_true] at Q;omega
 obtain⟨rfl,rfl,aT⟩:=ah;obtain⟨R,S⟩:=pe L p b.keys.1 b.vals.1 b.over.1;have s:Hid (t.slots.length=on∧∀ a,a<on->t.slots.take (a+1)=t.slots.take a++[(t.keys.getD a .empty,t.vals.getD a .empty,t.over.getD a 0)]):=⟨R,S⟩;clear R S;have U:=Zb (w.alloc (.cells (Zs t.leaf t.page e on f h on i j on k l t.kids.length m) 57)) (.cells #[] 40);have d:=er (w.alloc (.cells (Zs t.leaf t.page e on f h on i j on k l t.kids.length m) 57)) 40 2;have c:=P.below U;have V:(w.alloc (.cells (Zs t.leaf t.page e on f h on i j on k l t.kids.length m) 57)).heap.size=w.heap.size+1:=by simp
 have F:=b.belowC (c.bel.mono af);have u:=F.keys;have v:=F.vals;rw[V] at d;clear b F P U V;rw[p,ag] at c d u v ⊢;generalize t.page=W at c d u v ⊢;obtain⟨ai,aj,ak,al,am⟩:=info_parts gN;obtain⟨N,G⟩:=Zn w.heap.size;rw[G] at c d;go_enter func28,ntmps28;go_wp2_with fail
 generalize ((w.alloc (.cells (Zs true W e on f h on i j on k l 0 m) 57)).alloc (.cells #[] 40))=X at c d u v ⊢;have aU:=c.lt;have aV:C<=X.heap.size:=by omega
 go_loopw [3,4] (fun H q wr=>∃ (a:Nat) (g cc:Nat),a<=on∧q=.int .i64 a∧H=.slice (some ⟨g,0,none⟩) a cc∧wr.ownsRow (N+1) 40 2 (.slice (some ⟨g,0,none⟩) a cc) a (aa aG (t.slots.take a))∧Fr (fun ao=>N+1<=ao) X wr) (fun _ q _=>on - (intOf q).toNat)
 case atStart=>exact⟨0,N+1,0,En _,rfl,rfl,by simpa[aa] using d,Fr.refl _ _⟩
 case round =>
  clear d;obtain⟨a,g,cc,aW,rfl,rfl,x,y⟩:=hrel;have z:=y.below (by omega) (fun g E=>E);have I:jB w wr N (Zs true W e on f h on i j on k l 0 m):=⟨(z.block N (by omega)).trans c.box,c.bel.trans (z.mono (by omega))⟩;have aX:=I.lt;obtain⟨ap,aq,ar,au,av,aw⟩:=aS I.box;by_cases A:a<on
  ·obtain⟨ax,aY,rfl,aZ,ay,Y⟩:=aP.at (u.below (z.mono (by omega))) A;obtain⟨az,a0,rfl,a1,aA,Z⟩:=aP.at (v.below (z.mono (by omega))) A;have ab:=s.out.2 a A;have B:Hid (aa aG (t.slots.take (a+1))=aa aG (t.slots.take a)++[.string (t.keys.getD a .empty),.string (t.vals.getD a .empty)]):=(by show _=_;rw[ab,aD];rfl);clear ab;generalize t.keys.getD a .empty=n at Y B ay;generalize t.vals.getD a .empty=o at Z B aA;have J:=hidI x;have a2:ax<wr.heap.size:=(by have:=y.size;omega);have a3:az<wr.heap.size:=(by have:=y.size;omega);have aB:N+1<=wr.heap.size:=(by omega);have aC:wr.heap.size<=(wr.alloc (.cells #[.string n,.string o] 40)).drew.heap.size:=(by show wr.heap.size<=(wr.alloc (.cells #[.string n,.string o] 40)).heap.size;simp);clear x;go_wp2_with fail
   go_region_law (refine oH rfl (.tmp 18) (.tmp 30) 37 rfl (N+1) 40 ai _ 2 32 underlying37 aj ak al am rfl (by decide) (.slice (some ⟨g,0,none⟩) a cc) a (aa aG (t.slots.take a)) (by simp[Act.eval]) (an (J.out.alloc (.cells #[.string n,.string o] 40)) (Ev _ _).drew) ⟨wr.heap.size,0,none⟩ 1 1 [.string n,.string o] (by simp[Act.eval]) rfl (fun a aE aF=>cf wr (.string n) (.string o) 40 a aE aF) (by simp[Value.oneCell']) (by unfold maxLen;omega) (by omega) (Eo aB aC) ?_;intro a4 aH K ac)
   all_goals
    obtain⟨g',ad,rfl⟩:=gj K (by omega);have aI:=y.trans ((Fr.of_below ((Zb _ (.cells #[.string n,.string o] 40)).drew)).trans (Fr.of_grown ac (fun aJ aK=>(J.out.lt aJ aK).1)));have D:aH.ownsRow (N+1) 40 2 (.slice (some ⟨g',0,none⟩) (a+1) ad) (a+1) (aa aG (t.slots.take (a+1))):=(by rw[B.out];exact K);clear K ac J B ap aq ar au av aw Y Z;(go_wp2_with fail);go_roundw
    case rel=>exact⟨a+1,g',ad,by omega,by go_num,rfl,D,aI⟩
    case measure=>simp[intOf];omega
  ·obtain rfl:a=on:=(by omega);have D:wr.ownsRow N 40 2 (.slice (some ⟨g,0,none⟩) a cc) a (aa aG t.slots):=by
    have:=cr x (Nat.le_succ N)
    rwa [Ey (by have:=s.out.1;omega)] at this
   have aL:Hid _:=D;have aM:=I.bel;clear x D A;go_wp2_with fail
   go_loopw [3,5] (fun H q aN=>H=.slice (some ⟨g,0,none⟩) a cc∧q=.int .i64 0∧aN=wr) (fun _ _ _=>0)
   case atStart=>exact⟨rfl,rfl,rfl⟩
   case round =>obtain⟨rfl,rfl,rfl⟩:=hrel;(go_wp2_with fail);go_ret;exact⟨g,cc,by rw[s.out.1];rfl,by rw[s.out.1,G];exact aL.out,by rw[G];exact aM⟩
theorem qI (C:Nat) (t:T) (aU:cg t) (aV:∃ ab,t.good ab=true) (M:t.leaf=false) (ac:t.slots.length<=100000) (ad:∀ a ∈ t.kids,ep 28 C a [] (fun w h w'=>iP a w h w')):ep 28 C t [] (fun w h w'=>iP t w h w'):=by
 intro w j k l m o p q on r s u css aW v;have ae:=jB.new w (Zs t.leaf t.page j k l m o p q on r s t.kids.length u);have af:=Eo v.cap.1 v.cap.2;have aX:=Eo v.keys.2.1 v.keys.2.2.1;unfold maxLen at af aX;have ag:Hid (t.slots=(t.kids.map T.slots).flatten∧t.slots.length<=100000):=⟨jC M,ac⟩;have aZ:=hidI ad;have a0:Hid (∀ a ∈ t.kids,0<a.slots.length):=fun a ah=>by obtain⟨ab,a1⟩:=aV;exact yG a (((bj t).1 aU).2 a ah) (aY a1 ah)
 have ai:=Zb (w.alloc (.cells (Zs t.leaf t.page j k l m o p q on r s t.kids.length u) 57)) (.cells #[] 40);have e:=er (w.alloc (.cells (Zs t.leaf t.page j k l m o p q on r s t.kids.length u) 57)) 40 2;have d:=ae.below ai;have aj:(w.alloc (.cells (Zs t.leaf t.page j k l m o p q on r s t.kids.length u) 57)).heap.size=w.heap.size+1:=by simp
 have x:Hid _:=v.belowC (d.bel.mono aW);rw[aj] at e;clear v ae ai aj ad ac;obtain⟨n,D⟩:∃ n,n=t.kids.length:=⟨_,rfl⟩;have al:=hidI D;rw[<-D] at d e af ⊢;rw[<-D] at x;clear D;rw[M] at d e ⊢;rw[M] at x;generalize t.page=am at d e x ⊢;obtain⟨a2,a3,a4,a5,a6⟩:=info_parts gN;obtain⟨N,O⟩:=Zn w.heap.size;rw[O] at d e;go_enter func28,ntmps28;go_wp2_with fail
 generalize ((w.alloc (.cells (Zs false am j k l m o p q on r s n u) 57)).alloc (.cells #[] 40))=ao at d e x ⊢;have a7:=d.lt;have a8:C<=ao.heap.size:=by omega
 have a9:=(e.lt (N+1) rfl).2;obtain⟨E,F,G,H,I,J⟩:=aS d.box;go_loopw [3,4] (fun P z wr=>P=.slice (some ⟨N+1,0,none⟩) 0 0∧z=.int .i64 0∧wr=ao) (fun _ _ _=>0)
 case atStart=>exact⟨rfl,rfl,rfl⟩
 case round =>
  obtain⟨rfl,rfl,rfl⟩:=hrel;generalize wr=ap at d e x a7 a8 a9 E F G H I J ⊢;go_wp2_with fail
  all_goals
   clear E F G H I J;go_loopw [3,5] (fun P z aq=>∃ (c b g cc:Nat),c<=n∧z=.int .i64 c∧P=.slice (some ⟨g,0,none⟩) b cc∧b<=100000∧Hid (b=(((t.kids.map T.slots).take c).flatten).length)∧aq.ownsRow (N+1) 40 2 (.slice (some ⟨g,0,none⟩) b cc) b (aa aG ((t.kids.map T.slots).take c).flatten)∧Fr (fun a=>N+1<=a) ap aq) (fun _ z _=>n - (intOf z).toNat)
   case atStart=>exact⟨0,0,N+1,0,En _,rfl,rfl,by omega,by show _=_;simp,by simpa[aa] using e,Fr.refl _ _⟩
   case round =>
    clear e;obtain⟨c,b,g,cc,bH,rfl,rfl,bI,Q,K,R⟩:=hrel;have S:=R.below (by omega) (fun g h=>h);have U:jB w wr N (Zs false am j k l m o p q on r s n u):=⟨(S.block N (by omega)).trans d.box,d.bel.trans (S.mono (by omega))⟩;have bJ:=U.lt;obtain⟨E,F,G,H,I,J⟩:=aS U.box;by_cases bK:c<n
    ·obtain⟨bL,bM,rfl,bN,a,ar,V,a',ba,bb,bc,bd,be,bf,bg,bh,bi,bk,bl,au,bm,bn,bo,bp,bq,br⟩:=(x.out.belowC (S.mono (by omega))).at (i:=c) (by have:=al.out;omega);have av:=aZ.out a V;have bs:=a0.out a V;have W:=yF ar;have aw:=jd (t.kids.map T.slots) (c+1);have ax:=hidI W;have az:b+a.slots.length<=100000:=(by rw[W,El] at aw;have bO:=Q.out;have aA:=ag.out;rw[aA.1] at aA;omega);clear ar V W aw;have bt:C<=wr.heap.size:=(by have:=R.size;omega);have bP:N+1<=wr.heap.size:=(by omega);(go_wp2_with fail);refine (av wr a' ba bb bc bd be bf bg bh bi bk bl bt au).mono ?_;rintro h bu ⟨aB,bv,rfl,aC,X⟩;have aE:=an K X;have bQ:=X.size;have aF:∀ f y,(aa aG a.slots)[f]?=some y->bu.cell? ((⟨aB,0,none⟩:Addr).add f)=some y:=fun f y L=>by
      have A:f<a.slots.length*2:=by
       have:=Zc L
       rwa [ay Cf] at this
      have:=aC.cellAt f A;rw[L] at this;rw[nt];exact this
     have aH:∀ y ∈ aa aG a.slots,y.oneCell'=true:=fun y aI=>(by simp only[aa,List.mem_flatMap,aG] at aI;obtain⟨bR,_,aJ⟩:=aI;simp at aJ;rcases aJ with rfl | rfl<;>rfl);have aK:(aa aG a.slots).length=a.slots.length*2:=ay Cf _;have Y:=hidI aE;have bw:Hid _:=aF;have bx:Hid _:=aH;have aL:Hid _:=aK;have bz:=R.trans (Fr.of_below X);obtain⟨B,A⟩:=Zn a.slots.length;have bA:=hidI A;rw[A] at az bs aL ⊢;clear K aC aE aF aH aK A bm bn bo bp bq br au av E F G H I J;(go_wp2_with (at_builtin;refine ak _ rfl _ _ 37 rfl (N+1) 40 a2 _ 2 32 underlying37 a3 a4 a5 a6 rfl (by decide) _ _ _ rfl Y.out ⟨aB,0,none⟩ B bv (aa aG a.slots) rfl aL.out bw.out bx.out (by unfold maxLen;omega) (by omega) (by omega) ?_;intro bS aM Z aN bB;have bC:Fr (fun a=>N+1<=a) ap aM:=bz.trans (Fr.of_grown aN (fun f L=>(Y.out.lt f L).1));obtain⟨aO,aP,rfl⟩:=gj Z (by omega);clear aN bB));have bD:aM.ownsRow (N+1) 40 2 (.slice (some ⟨aO,0,none⟩) (b+B) aP) (b+B) (aa aG ((t.kids.map T.slots).take (c+1)).flatten):=(by rw[ax.out,aD];exact Z);have bE:Hid (b+B=(((t.kids.map T.slots).take (c+1)).flatten).length):=(by show _=_;rw[ax.out,El,bA.out,<-Q.out]);clear Z Y;go_roundw
     case rel=>exact⟨c+1,b+B,aO,aP,by omega,by go_num,rfl,az,bE,bD,bC⟩
     case measure=>simp[intOf];omega
    ·have aQ:Hid (t.slots=((t.kids.map T.slots).take c).flatten):=(by show _=_;rw[ag.out.1,Ey (by simp;have:=al.out;omega)]);have aR:t.slots.length=b:=(by rw[aQ.out,Q.out]);have bF:Hid (wr.ownsRow N 40 2 (.slice (some ⟨g,0,none⟩) b cc) b (aa aG t.slots)):=(by have:=cr K (Nat.le_succ N);rw[<-aQ.out] at this;exact this);have aT:=hidI aR;have bG:=U.bel;clear K aR;(go_wp2_with fail);go_ret;exact⟨g,cc,by rw[aT.out];rfl,by rw[aT.out,O];exact bF.out,by rw[O];exact bG⟩
theorem jD (C:Nat) (t:T):cg t->(∃ e,t.good e=true)->t.slots.length<=100000->ep 28 C t [] (fun w j w'=>iP t w j w'):=by
 induction t using T.ind with
 |h t k=>
  intro c d f;by_cases g:t.leaf=true;·exact sK C t c g d
  ·have i:t.leaf=false:=(by simpa using g);refine qI C t c d i f (fun a b=>?_);obtain⟨e,l⟩:=d;refine k a b (((bj t).1 c).2 a b) ⟨false,aY l b⟩ ?_;rw[jC i] at f;have:a.slots.length<=((t.kids.map T.slots).flatten).length:=(by rw[List.length_flatten];exact o8 (EY.2 ⟨a.slots,EY.2 ⟨a,b,rfl⟩,rfl⟩));omega
theorem nu (w:World) (base:Nat) (t ty e:TypeId) (i:TypeInfo) (z:Value) (size h:Nat) (ht:P.underlying t=some (.slice e)) (q:P.info? e=some i) (E:i.zero=some z)
  (r:i.size=size) (F:i.bytes=h) (G:z.cells.size=size) (H:0<size)
  (g n d:Nat) (k:List Value) (s:w.ownsRow base e size (.slice (some ⟨g,0,none⟩) n d) n k)
  (a:Addr) (m c:Nat) (b:List Value) (l:b.length=m*size) (v:∀ j u,b[j]?=some u->w.cell? (a.add j)=some u) (x:∀ u ∈ b,u.oneCell'=true)
  (I:n+m<=maxLen) (J:(n+m)*h<=140737488355328) (K:base<=w.heap.size) :
  ∃ g' f w',(Builtin.append_ #[t,t] ty #[.slice (some ⟨g,0,none⟩) n d,.slice (some a) m c]).run P w=.ok (.slice (some ⟨g',0,none⟩) (n+m) f) w'∧w'.ownsRow base e size (.slice (some ⟨g',0,none⟩) (n+m) f) (n+m) (k++b)∧w.grownBy w' (some g):=by
 obtain⟨R,w',o,p,y,S⟩:=dU (P:=P) w base t ty e i z size h ht q E r F G H _ n k s a m c b l v x I J K;by_cases L:0<n+m;·obtain⟨g',f,rfl⟩:=gj p L;exact⟨g',f,w',o,p,y⟩
 ·rcases s.2 with ⟨M,_⟩ | ⟨T,U,A,B,V,N,W,X,O,Y⟩;·simp at M
  ·simp only[Value.slice.injEq,Option.some.injEq,Addr.mk.injEq] at B;obtain⟨⟨rfl,_⟩,_,rfl⟩:=B;subst r;have C:n+m<=d:=(by omega);have Q:n*i.size+b.length<=A.size:=(by rw[l,O,<-Nat.add_mul];exact Nat.mul_le_mul_right _ C);have D:=run_append_room (P:=P) w t ty e i ht q g n d A N a m c b l v x C Q;rw[o] at D;injection D with e1 e2;subst e1;exact⟨g,d,w',o,p,y⟩
theorem dC (w:World) {ops:Array Oper} {rest:List Oper} {o:Oper} {a:Act} {Q:Exit->Act->World->Prop} (q:o.guard=none) (s x:Operand) (t:TypeId)
  (r:o.op=.call { callee:=.builtin .append,args:=#[s,x],argTypes:=#[t,t] })
  (base:Nat) (e:TypeId) (i:TypeInfo) (z:Value) (size f:Nat) (ht:P.underlying t=some (.slice e)) (v:P.info? e=some i) (y:i.zero=some z)
  (A:i.size=size) (B:i.bytes=f) (C:z.cells.size=size) (D:0<size)
  (g n k:Nat) (l:List Value) (E:a.eval s=.slice (some ⟨g,0,none⟩) n k) (F:w.ownsRow base e size (.slice (some ⟨g,0,none⟩) n k) n l)
  (p:Addr) (m c:Nat) (b:List Value) (G:a.eval x=.slice (some p) m c) (H:b.length=m*size) (I:∀ j u,b[j]?=some u->w.cell? (p.add j)=some u) (J:∀ u ∈ b,u.oneCell'=true)
  (K:n+m<=maxLen) (L:(n+m)*f<=140737488355328) (M:base<=w.heap.size)
  (h:∀ g' d w',w'.ownsRow base e size (.slice (some ⟨g',0,none⟩) (n+m) d) (n+m) (l++b)->w.grownBy w' (some g)->wpList P ops Q rest (a.put o.dst (.slice (some ⟨g',0,none⟩) (n+m) d)) w'):wpList P ops Q (o::rest) a w:=by
 refine wpList_plain q fun _ N=>?_;obtain⟨g',d,w',O,R,S⟩:=nu (P:=P) w base t o.type e i z size f ht v y A B C D g n k l F p m c b H I J K L M;unfold Oper.wp execOp;simp only[r,resolve,invoke,builtin,Sem.run_bind,Sem.run_pure,Result.andThen_ok,List.map_toArray,Ex,E6,E,G,O];exact N _ _ (h g' d w' R S)
def oO (t:T) (w:World) (e:Ending) (w':World):Prop:=∃ g c,e=.returned (.slice (some ⟨g,0,none⟩) t.nums.length c)∧w'.ownsRow w.heap.size 2 1 (.slice (some ⟨g,0,none⟩) t.nums.length c) t.nums.length (aa ac t.nums)∧Below w.heap.size w w'
theorem mA (d:List Int):∀ a ∈ aa ac d,a.oneCell'=true:=fun a b=>by
 simp only[aa,List.mem_flatMap,ac] at b
 obtain⟨e,_,c⟩:=b
 simp at c
 subst c
 rfl
structure wu (w W wr:World) (N g cc:Nat) (bx:Array Value) (l:List Int):Prop where
 own:wr.ownsRow (N+1) 2 1 (.slice (some ⟨g,0,none⟩) l.length cc) l.length (aa ac l)
 fr:Fr (fun k=>N+1<=k) W wr
 bx:wr.heap[N]?=some (.cells bx 57)
theorem wu.lt (h:wu w W wr N g cc bx l):N+1<=g∧g<wr.heap.size:=h.own.lt g rfl
theorem wu.below {b:World} (h:wu w W wr N g cc bx l) (a:Below wr.heap.size wr b):wu w W b N g cc bx l :=
 ⟨an h.own a,h.fr.trans (Fr.of_below a),(a.block N (by have:=h.lt;omega)).trans h.bx⟩
theorem wu.push {w4:World} {c':Nat} {l2:List Int} (h:wu w W wr N g cc bx l) (b:w4.ownsRow (N+1) 2 1 (.slice (some ⟨g',0,none⟩) (l.length+l2.length) c') (l.length+l2.length) (aa ac l++aa ac l2)) (a:wr.grownBy w4 (some g)):wu w W w4 N g' c' bx (l++l2) :=
 ⟨by rw[El,aD];exact b,h.fr.trans (Fr.of_grown a (fun e c=>by cases c;exact h.lt.1)),(a.block N (by have:=h.lt;omega) (fun d=>by simp at d;have:=h.lt;omega)).trans h.bx⟩
theorem pf (C:Nat) (t:T) (aN:t.nums.length<=100000) (aO:∀ j ∈ t.kids,ep 20 C j [] (fun w B w'=>oO j w B w')):ep 20 C t [] (fun w B w'=>oO t w B w'):=by
 intro w p q r s u v D on x z y css bg M;have aP:=jB.new w (Zs t.leaf t.page p q r s u v D on x z t.kids.length y);have aQ:=Eo M.cap.1 M.cap.2;have bh:=Eo M.over.2.1 M.over.2.2.1;unfold maxLen at aQ bh;have ah:Hid (t.nums=(if t.page=0 then [] else [t.page])++(t.over.filter (fun a=>a != 0))++(t.kids.map T.nums).flatten∧t.nums.length<=100000):=⟨T.nums_eq t,aN⟩;have bi:=hidI aO;have aR:=Zb (w.alloc (.cells (Zs t.leaf t.page p q r s u v D on x z t.kids.length y) 57)) (.cells #[] 2);have J:=er (w.alloc (.cells (Zs t.leaf t.page p q r s u v D on x z t.kids.length y) 57)) 2 1;have E:=aP.below aR;have aT:(w.alloc (.cells (Zs t.leaf t.page p q r s u v D on x z t.kids.length y) 57)).heap.size=w.heap.size+1:=by simp
 have S:Hid _:=M.belowC (E.bel.mono bg);have aU:=hidI M.over.1;rw[aT] at J;clear M aP aR aT aO aN;obtain⟨n,an⟩:∃ n,n=t.kids.length:=⟨_,rfl⟩;have aV:=hidI an;rw[<-an] at E J aQ ⊢;rw[<-an] at S;clear an;generalize t.leaf=K at E J S ⊢;obtain⟨e,aW⟩:∃ e,e=t.page:=⟨_,rfl⟩;rw[<-aW] at E J S ah ⊢;clear aW;obtain⟨ap,aq,ar,au,av⟩:=info_parts du;obtain⟨N,aw⟩:=Zn w.heap.size;rw[aw] at E J;go_enter func20,ntmps20;go_upto_region 2 with fail
 generalize ((w.alloc (.cells (Zs K e p q r s u v D on x z n y) 57)).alloc (.cells #[] 2))=F at E J S ⊢;have ai:wu w F F N (N+1) 0 (Zs K e p q r s u v D on x z n y) []:=⟨by simpa[aa] using J,Fr.refl _ _,E.box⟩;have bX:=E.lt;have bY:C<=F.heap.size:=by omega
 have bZ:=ai.lt.2;have bj:=hidI E.bel;clear J E;obtain⟨U,V,W,X,Y,Z⟩:=aS ai.bx;go_upto_if 9 with fail
 go_cut [3] (fun bk ax=>∃ g cc,bk=.slice (some ⟨g,0,none⟩) (if e=0 then ([]:List Int) else [e]).length cc∧wu w F ax N g cc (Zs K e p q r s u v D on x z n y) (if e=0 then [] else [e]))
 case first =>
  by_cases az:e=0
  ·subst az;go_wp2_with fail
   go_meet
   exact⟨N+1,0,rfl,ai⟩
  ·have b0:(e != 0)=true:=(by simpa using az);have ab:=ai.below (Zb _ (.cells #[.int .i64 e] 2));have G:=ab.own;simp only[List.length_nil] at G;go_wp2_with (at_builtin;refine dC _ rfl _ _ 29 rfl (N+1) 2 ap _ 1 8 underlying29 aq ar au av rfl (by decide) (N+1) 0 0 _ rfl G ⟨F.heap.size,0,none⟩ 1 1 [.int .i64 e] rfl rfl (cell_one_new _ _ _) (by simp[Value.oneCell']) (by unfold maxLen;omega) (by omega) (by simp;omega) ?_;intro g' k m O P)
   go_meet
   rw[if_neg az];exact⟨g',k,rfl,ab.push (l2:=[e]) O P⟩
 case rest =>
  obtain⟨g,cc,rfl,ab⟩:=hcut;obtain⟨l,aA⟩:∃ l:List Int,l=(if e=0 then [] else [e]):=⟨_,rfl⟩;rw[<-aA] at ab ah ⊢;have bl:l.length<=1:=(by rw[aA];split<;>simp);clear aA ai U V W X Y Z;obtain⟨bm,aB⟩:=Zn l.length;have aX:=hidI aB;rw[aB] at bl ⊢;clear aB;have aY:Hid (∀ b,(l++(t.over.take b).filter (fun a=>a != 0)).length<=100000):=fun b=>(by have o:=ah.out;rw[o.1] at o;have A:=o.2;simp only[El] at A ⊢;have b1:((t.over.take b).filter (fun a=>a != 0)).length<=(t.over.filter (fun a=>a != 0)).length:=(List.Sublist.filter _ (List.take_sublist b t.over)).length_le;omega);go_wp2_with fail
  go_loopw [3,4] (fun aC Q wr=>∃ (b c g cc:Nat),b<=on∧Q=.int .i64 b∧aC=.slice (some ⟨g,0,none⟩) c cc∧c<=100000∧Hid (c=(l++(t.over.take b).filter (fun a=>a != 0)).length)∧wu w F wr N g cc (Zs K e p q r s u v D on x z n y) (l++(t.over.take b).filter (fun a=>a != 0))) (fun _ Q _=>on - (intOf Q).toNat)
  case atStart=>exact⟨0,bm,g,cc,En _,rfl,rfl,by omega,by show _=_;simp[aX.out],by simpa using ab⟩
  case round =>
   clear ab;obtain⟨b,c,g,cc,aZ,rfl,rfl,ao,h,d⟩:=hrel;have ad:=d.fr.below (by omega) (fun g B=>B);obtain⟨U,V,W,X,Y,Z⟩:=aS d.bx;have aD:N<wr.heap.size:=(by have:=d.lt;omega);by_cases a0:b<on
   ·obtain⟨aE,a1,rfl,b2,bn,bo⟩:=bf.at (S.out.over.below (ad.mono (by omega))) a0;have b3:aE<wr.heap.size:=(by have:=d.fr.size;omega);have ae:Hid ((t.over.take (b+1)).filter (fun a=>a != 0)=(t.over.take b).filter (fun a=>a != 0)++(if t.over.getD b 0=0 then [] else [t.over.getD b 0])):=by
     show _=_;rw[fQ t.over b 0 (by have:=aU.out;omega),List.filter_append]
     congr 1
     generalize t.over.getD b 0=f;by_cases aF:f=0;·simp[aF]
     ·have o:(f != 0)=true:=(by simpa using aF);simp[aF,o]
    generalize t.over.getD b 0=H at bo bn ae;by_cases R:H=0
    ·have bp:(H != 0)=false:=(by simpa using R);have bq:Hid (c=(l++(t.over.take (b+1)).filter (fun a=>a != 0)).length):=(by show _=_;rw[ae.out,if_pos R,EN];exact h.out);have I:wu w F wr N g cc (Zs K e p q r s u v (some ⟨aE,a1,none⟩) on x z n y) (l++(t.over.take (b+1)).filter (fun a=>a != 0)):=(by rw[ae.out,if_pos R,EN];exact d);clear h ae d R;(go_wp2_with fail);go_roundw
     case rel=>exact⟨b+1,c,g,cc,by omega,by go_num,rfl,ao,bq,I⟩
     case measure=>simp[intOf];omega
    ·have bp:(H != 0)=true:=(by simpa using R);have aG:Hid (l++(t.over.take (b+1)).filter (fun a=>a != 0)=(l++(t.over.take b).filter (fun a=>a != 0))++[H]):=(by show _=_;rw[ae.out,if_neg R,EA]);have br:c+1<=100000:=(by have o:=aY.out (b+1);rw[aG.out,El] at o;have A:=h.out;simp at o A;omega);have I:=d.below (Zb _ (.cells #[.int .i64 H] 2));have G:=I.own;rw[<-h.out] at G;have aj:Hid _:=G;have ak:Hid (∀ g' k m,m.ownsRow (N+1) 2 1 (.slice (some ⟨g',0,none⟩) (c+1) k) (c+1) (aa ac (l++(t.over.take b).filter (fun a=>a != 0))++[.int .i64 H])->(wr.alloc (.cells #[.int .i64 H] 2)).grownBy m (some g)->wu w F m N g' k (Zs K e p q r s u v (some ⟨aE,a1,none⟩) on x z n y) (l++(t.over.take (b+1)).filter (fun a=>a != 0))∧c+1=(l++(t.over.take (b+1)).filter (fun a=>a != 0)).length):=(by intro g' k m o A;rw[aG.out];refine⟨I.push (l2:=[H]) ?_ A,by rw[El,<-h.out];rfl⟩;rw[<-h.out];exact o);have b4:N+1<=wr.heap.size:=(by omega);clear h ae d I G R aG;(go_wp2_with (at_builtin;refine dC _ rfl _ _ 29 rfl (N+1) 2 ap _ 1 8 underlying29 aq ar au av rfl (by decide) g c cc _ rfl aj.out ⟨wr.heap.size,0,none⟩ 1 1 [.int .i64 H] rfl rfl (cell_one_new _ _ _) (by simp[Value.oneCell']) (by unfold maxLen;omega) (by omega) (by simp;omega) ?_;intro g' k m O P;obtain⟨aH,al⟩:=ak.out g' k m O P;have aI:Hid _:=al;clear O P al ak aj));go_roundw
     case rel=>exact⟨b+1,c+1,g',k,by omega,by go_num,rfl,br,aI,aH⟩
     case measure=>simp[intOf];omega
   ·have a2:Hid ((t.over.take b).filter (fun a=>a != 0)=t.over.filter (fun a=>a != 0)):=(by show _=_;rw[Ey (by have:=aU.out;omega)]);rw[a2.out] at h d;have aJ:=hidI ah.out;generalize l++t.over.filter (fun a=>a != 0)=L at h d aJ;clear a2 aY aX ah;generalize wr=b5 at h d ad U V W X Y Z aD ⊢;(go_wp2_with fail);clear U V W X Y Z;go_loopw [3,5] (fun aC Q ax=>∃ (f c g cc:Nat),f<=n∧Q=.int .i64 f∧aC=.slice (some ⟨g,0,none⟩) c cc∧c<=100000∧Hid (c=(L++((t.kids.map T.nums).take f).flatten).length)∧wu w F ax N g cc (Zs K e p q r s u v D on x z n y) (L++((t.kids.map T.nums).take f).flatten)) (fun _ Q _=>n - (intOf Q).toNat)
    case atStart=>exact⟨0,c,g,cc,En _,rfl,rfl,ao,by show _=_;simpa using h.out,by simpa using d⟩
    case round =>
     clear d ad aD h ao;obtain⟨f,c,g,cc,b6,rfl,rfl,ao,h,d⟩:=hrel;have ad:=d.fr.below (by omega) (fun g B=>B);obtain⟨U,V,W,X,Y,Z⟩:=aS d.bx;have aD:N<wr.heap.size:=(by have:=d.lt;omega);by_cases a0:f<n
     ·obtain⟨bs,bt,rfl,b7,j,a3,a4,bu,bv,bw,bx,bz,bA,bB,bC,bD,bE,bF,bG,a5,bH,bI,bJ,bK,bL,bM⟩:=(S.out.belowC (ad.mono (by omega))).at (i:=f) (by have:=aV.out;omega);have a6:=bi.out j a4;have aK:((t.kids.map T.nums).take (f+1)).flatten=((t.kids.map T.nums).take f).flatten++j.nums:=(by obtain⟨aZ,B⟩:=EQ.1 a3;rw[ER (by simpa using aZ),Fc];simp[B]);have a7:=jd (t.kids.map T.nums) (f+1);have a8:c+j.nums.length<=100000:=(by rw[aK,El] at a7;have o:=h.out;have A:=aJ.out;rw[A.1] at A;simp only[El] at o A;omega);have bN:Hid (L++((t.kids.map T.nums).take (f+1)).flatten=(L++((t.kids.map T.nums).take f).flatten)++j.nums):=(by show _=_;rw[aK,EA]);clear a3 a4 aK a7;have bO:C<=wr.heap.size:=(by have:=d.fr.size;omega);(go_wp2_with fail);refine (a6 wr bu bv bw bx bz bA bB bC bD bE bF bG bO a5).mono ?_;rintro B a9 ⟨a',bP,rfl,ba,bb⟩;have I:=d.below bb;have G:=I.own;rw[<-h.out] at G;have aj:=hidI G;have bQ:Hid (∀ am aL,(aa ac j.nums)[am]?=some aL->a9.cell? ((⟨a',0,none⟩:Addr).add am)=some aL):=fun am aL bc=>by
       have bR:am<j.nums.length*1:=by
        have:=Zc bc
        rwa [ay lh] at this
       have:=ba.cellAt am bR;rw[bc] at this;rw[nt];exact this
      have bS:=hidI (mA j.nums);obtain⟨af,ag⟩:=Zn j.nums.length;have b8:=hidI ag;have bT:Hid ((aa ac j.nums).length=af*1):=(by show _=_;rw[ay lh,ag]);rw[ag] at a8 ⊢;have ak:Hid (∀ g' k m,m.ownsRow (N+1) 2 1 (.slice (some ⟨g',0,none⟩) (c+af) k) (c+af) (aa ac (L++((t.kids.map T.nums).take f).flatten)++aa ac j.nums)->a9.grownBy m (some g)->wu w F m N g' k (Zs K e p q r s u v D on x (some ⟨bs,bt,none⟩) n y) (L++((t.kids.map T.nums).take (f+1)).flatten)∧c+af=(L++((t.kids.map T.nums).take (f+1)).flatten).length):=(by intro g' k m o A;rw[bN.out];refine⟨I.push (l2:=j.nums) ?_ A,by rw[El,<-h.out,ag]⟩;rw[<-h.out,ag];exact o);have b9:=bb.size;clear ba G I d bH bI bJ bK bL bM a5 a6 U V W X Y Z ag;(go_wp2_with (at_builtin;refine dC _ rfl _ _ 29 rfl (N+1) 2 ap _ 1 8 underlying29 aq ar au av rfl (by decide) g c cc _ rfl aj.out ⟨a',0,none⟩ af bP (aa ac j.nums) rfl bT.out bQ.out bS.out (by unfold maxLen;omega) (by omega) (by omega) ?_;intro g' k m O P;obtain⟨aH,al⟩:=ak.out g' k m O P;have aI:Hid _:=al;clear O P al ak aj));go_roundw
      case rel=>exact⟨f+1,c+af,g',k,by omega,by go_num,rfl,a8,aI,aH⟩
      case measure=>simp[intOf];omega
     ·have bd:Hid (t.nums=L++((t.kids.map T.nums).take f).flatten):=(by show _=_;rw[aJ.out.1,Ey (by simp;have:=aV.out;omega)]);have aM:=cr d.own (Nat.le_succ N);rw[<-bd.out] at aM;have bU:Hid _:=aM;have be:t.nums.length=c:=(by rw[bd.out,h.out]);have bV:=hidI be;have bW:=bj.out.trans (ad.mono (by omega));clear aM be d;(go_wp2_with fail);go_ret;exact⟨g,cc,by rw[bV.out];rfl,by rw[aw];exact bU.out,by rw[aw];exact bW⟩
theorem lA (C:Nat) (t:T):t.nums.length<=100000->ep 20 C t [] (fun w d w'=>oO t w d w'):=by
 induction t using T.ind with
 |h t e=>intro b;refine pf C t b (fun a c=>e a c ?_);rw[T.nums_eq] at b;have:a.nums.length<=((t.kids.map T.nums).flatten).length:=(by rw[List.length_flatten];exact o8 (EY.2 ⟨a.nums,EY.2 ⟨a,c,rfl⟩,rfl⟩));simp only[El] at b;omega
theorem iQ (w:World) (base:Nat) (t ty e:TypeId) (i:TypeInfo) (size:Nat) (ht:P.underlying t=some (.slice e)) (a:P.info? e=some i)
  (v:Value) (n:Nat) (b:List Value) (d:w.ownsRow base e size v n b) (c:Nat) :
  (Builtin.append_ #[t,t] ty #[v,.slice none 0 c]).run P w=.ok v w:=by
 rcases d.2 with ⟨rfl,rfl⟩ | ⟨g,h,j,rfl,_,_,f,_⟩;·simp[Builtin.append_,run_underlying ht,sizeOf,typeInfo,a,Builtin.lenOf,Builtin.firstCells]
 ·simp[Builtin.append_,run_underlying ht,sizeOf,typeInfo,a,Builtin.lenOf,Builtin.firstCells,f,storeCells]
theorem eO {j:Type} (w:World) {ops:Array Oper} {rest:List Oper} {o:Oper} {a:Act} {Q:Exit->Act->World->Prop} (G:o.guard=none) (s x:Operand) (t:TypeId)
  (H:o.op=.call { callee:=.builtin .append,args:=#[s,x],argTypes:=#[t,t] })
  (base:Nat) (e:TypeId) (i:TypeInfo) (z:Value) (q:Nat) (ht:P.underlying t=some (.slice e)) (I:P.info? e=some i) (O:i.zero=some z)
  (R:i.size=1) (S:i.bytes=q) (T:z.cells.size=1)
  (g n k:Nat) (l:List Value) (J:a.eval s=.slice (some ⟨g,0,none⟩) n k) (r:w.ownsRow base e 1 (.slice (some ⟨g,0,none⟩) n k) n l)
  {cs:j->List Value} {fit:j->Prop} {d:j} (u:∀ x,(cs x).length=1) (U:∀ x,∀ p ∈ cs x,p.oneCell'=true) {A B:Nat} {b:Option Addr} {m c:Nat} {ys:List j} (K:a.eval x=.slice b m c) (v:aR w A B 1 cs fit d b m c ys)
  (V:n+m<=maxLen) (W:(n+m)*q<=140737488355328) (X:base<=w.heap.size)
  (h:∀ g' c' w',w'.ownsRow base e 1 (.slice (some ⟨g',0,none⟩) (n+m) c') (n+m) (l++aa cs ys)->w.grownBy w' (some g)->wpList P ops Q rest (a.put o.dst (.slice (some ⟨g',0,none⟩) (n+m) c')) w'):wpList P ops Q (o::rest) a w:=by
 have y:=v.1;cases b with
 |none=>
  have Y:m=0:=by
   rcases Fo m with h | h;·exact h
   ·obtain⟨C,D,e,_⟩:=v.2.2.2.2 h;cases e
  subst Y;have E:=E7 y;subst E;refine wpList_plain G fun _ Z=>?_;have ab:=iQ (P:=P) w base t o.type e i 1 ht I _ n l r c;unfold Oper.wp execOp;simp only[H,resolve,invoke,builtin,Sem.run_bind,Sem.run_pure,Result.andThen_ok,List.map_toArray,Ex,E6,J,K,ab];refine Z _ _ ?_;have:=h g k w (by simpa[aa] using r) ⟨rfl,rfl,rfl,Ek _,fun _ _ _=>rfl⟩;simpa using this
 |some b=>
  refine dC w G s x t H base e i z 1 q ht I O R S T (by omega) g n k l J r b m c (aa cs ys) K (by rw[ay u,y]) (fun f p F=>?_) (fun p L=>?_) V W X h;·have ac:f<m:=(by have:=Zc F;rw[ay u,y] at this;omega);obtain⟨C,D,e,af,ad⟩:=v.2.2.2.2 (by omega);cases e;have M:=ad f ac 0 (by omega);have N:=bI u d ys f 0 (by omega) (by omega);simp only[Fv,Fu] at M N;rw[N] at F;rw[show (⟨C,D,none⟩:Addr).add f=⟨C,D+f,none⟩ by simp[Addr.add],M,F]
  ·simp only[aa,List.mem_flatMap] at L;obtain⟨ae,_,E⟩:=L;exact U ae p E
theorem uG:∀ a,∀ b ∈ ae a,b.oneCell'=true:=fun a b c=>by
 simp[ae] at c;subst c;rfl
theorem zY:∀ a,∀ b ∈ ac a,b.oneCell'=true:=fun a b c=>by
 simp[ac] at c;subst c;rfl
def zL (w:World) (lo g:Nat) (R:World->Nat->Nat->Prop):Prop:=∃ A,lo<=A∧A≠g∧A<w.heap.size∧R w A (A+1)
theorem zL.keep {R:World->Nat->Nat->Prop} (h:zL w lo g R) (d:∀ a,R w a (a+1)->w'.heap[a]?=w.heap[a]?->R w' a (a+1)) (e:∀ k,lo<=k->k<w.heap.size->k≠g->w'.heap[k]?=w.heap[k]?) (b:g'=g∨w.heap.size<=g') (l:w.heap.size<=w'.heap.size):zL w' lo g' R:=by
 obtain⟨a,c,f,i,j⟩:=h;exact⟨a,c,by rcases b with rfl | b<;>omega,by omega,d a j (e a c i f)⟩
theorem je {b:Type} {m:Nat} {cs:b->List Value} {fit:b->Prop} {d:b} {a:Option Addr} {e:List b} (A:Nat) (h:aR w A (A+1) m cs fit d a n c e) (f:w'.heap[A]?=w.heap[A]?):aR w' A (A+1) m cs fit d a n c e :=
 h.keep (fun g i j=>by obtain rfl:g=A:=by omega
                       exact f)
def pj (w:World) (lo g:Nat) (t:TN) (cs:List Value):Prop:=∃ (ka:Option Addr) (kn kc:Nat) (va:Option Addr) (vn vc:Nat) (oa:Option Addr) (on oc:Nat) (ya:Option Addr) (yn yc:Nat),cs=[.bool t.leaf,.int .i64 t.page,.slice ka kn kc,.slice va vn vc,.slice oa on oc,.slice ya yn yc]∧ga t.page ∧
 zL w lo g (fun w A B=>aP w A B ka kn kc t.keys)∧zL w lo g (fun w A B=>aP w A B va vn vc t.vals)∧zL w lo g (fun w A B=>bf w A B oa on oc t.over)∧zL w lo g (fun w A B=>bf w A B ya yn yc t.kids)
theorem pj.keep {t:TN} {cs:List Value} (h:pj w lo g t cs) (b:∀ k,lo<=k->k<w.heap.size->k≠g->w'.heap[k]?=w.heap[k]?) (c:g'=g∨w.heap.size<=g') (d:w.heap.size<=w'.heap.size):pj w' lo g' t cs:=by
 obtain⟨e,f,i,j,l,m,n,on,o,p,q,r,s,u,v,x,y,z⟩:=h;exact⟨e,f,i,j,l,m,n,on,o,p,q,r,s,u,v.keep (fun a=>je a) b c d,x.keep (fun a=>je a) b c d,y.keep (fun a=>je a) b c d,z.keep (fun a=>je a) b c d⟩
structure bP (w:World) (lo g c:Nat) (css:Nat->List Value) (ts:List TN):Prop where
 row:w.ownsRow lo 44 6 (.slice (some ⟨g,0,none⟩) ts.length c) ts.length (az css ts.length)
 node:∀ i t,ts[i]?=some t->(css i).length=6∧pj w lo g t (css i)
theorem bP.lt (h:bP w lo g c css ts):lo<=g∧g<w.heap.size:=h.row.lt g rfl
theorem bP.fr {S:Nat->Prop} (h:bP w lo g c css ts) (b:Fr S w w') (e:∀ a,lo<=a->a<w.heap.size->¬ S a):bP w' lo g c css ts :=
 ⟨am h.row b (fun d f=>e d (h.row.lt d f).1 (h.row.lt d f).2),fun i t j=>⟨(h.node i t j).1,(h.node i t j).2.keep (fun a l k _=>b.block a k (e a l k)) (.inl rfl) b.size⟩⟩
theorem bP.below (h:bP w lo g c css ts) (a:Below w.heap.size w w'):bP w' lo g c css ts :=
 h.fr (S:=fun _=>False) (Fr.of_below a) (fun _ _ _ b=>b)
theorem bP.push {w4:World} {c':Nat} {t:TN} {e:List Value} (h:bP w lo g c css ts) (m:e.length=6) (n:pj w lo g t e)
  (o:w4.ownsRow lo 44 6 (.slice (some ⟨g',0,none⟩) (ts.length+1) c') (ts.length+1) (az css ts.length++e)) (f:w.grownBy w4 (some g)) (j:g'=g∨w.heap.size<=g') :
  bP w4 lo g' c' (fun a=>if a=ts.length then e else css a) (ts++[t]):=by
 have p:(ts++[t]).length=ts.length+1:=by simp
 have k:∀ b,lo<=b->b<w.heap.size->b≠g->w4.heap[b]?=w.heap[b]?:=fun b _ q r=>f.block b q (fun s=>r (by simpa using s));refine⟨?_,fun a l d=>?_⟩;·rw[p,dv,if_pos rfl,cZ (css:=css) (fun a i=>if_neg (by omega))];exact o
 ·by_cases i:a=ts.length;·subst i;rw[EB (Ek _)] at d;simp at d;subst d;simp only[if_true];exact⟨m,n.keep k j f.size⟩
  ·have u:a<ts.length:=(by have:=Zc d;simp at this;omega);rw[EE u] at d;simp only[i,EO];exact⟨(h.node a l d).1,(h.node a l d).2.keep k j f.size⟩
theorem dD (w:World) {ops:Array Oper} {rest:List Oper} {o:Oper} {a:Act} {Q:Exit->Act->World->Prop} (q:o.guard=none) (s x:Operand) (t:TypeId)
  (r:o.op=.call { callee:=.builtin .append,args:=#[s,x],argTypes:=#[t,t] })
  (base:Nat) (e:TypeId) (i:TypeInfo) (z:Value) (size f:Nat) (ht:P.underlying t=some (.slice e)) (v:P.info? e=some i) (y:i.zero=some z)
  (A:i.size=size) (B:i.bytes=f) (C:z.cells.size=size) (D:0<size)
  (g n m:Nat) (k:List Value) (E:a.eval s=.slice (some ⟨g,0,none⟩) n m) (F:w.ownsRow base e size (.slice (some ⟨g,0,none⟩) n m) n k)
  (l:Addr) (c:Nat) (b:List Value) (G:a.eval x=.slice (some l) 1 c) (O:b.length=size) (H:∀ j u,b[j]?=some u->w.cell? (l.add j)=some u) (I:∀ u ∈ b,u.oneCell'=true)
  (J:n+1<=maxLen) (K:(n+1)*f<=140737488355328) (L:base<=w.heap.size)
  (h:∀ g' d w',w'.ownsRow base e size (.slice (some ⟨g',0,none⟩) (n+1) d) (n+1) (k++b)->w.grownBy w' (some g)->(g'=g∨w.heap.size<=g')->wpList P ops Q rest (a.put o.dst (.slice (some ⟨g',0,none⟩) (n+1) d)) w'):wpList P ops Q (o::rest) a w:=by
 refine ak w q s x t r base e i z size f ht v y A B C D _ n k E F l 1 c b G (by omega) H I J K L fun R w' p M N=>?_;obtain⟨g',d,rfl⟩:=gj p (by omega);refine h g' d w' p M ?_;rcases N with e | e;·left;simpa[Value.ownBlock] using e
 ·right;exact e g' rfl
theorem bP.nodes (h:bP w lo g c css ts):aw w lo w.heap.size (some ⟨g,0,none⟩) ts.length c ts:=by
 have i:=(cu (css:=css) (m:=ts.length) (fun a f=>(h.node a ts[a] (Eh f)).1)).2;rcases h.row.2 with ⟨d,J⟩ | ⟨K,L,M,d,N,O,j,k,_⟩;·simp at d
 ·simp only[Value.slice.injEq,Option.some.injEq,Addr.mk.injEq] at d;obtain⟨⟨rfl,_⟩,_,rfl⟩:=d;refine⟨rfl,j,k,fun P=>⟨g,0,rfl,h.lt,fun a f=>?_⟩⟩;obtain⟨Q,l,n,o,p,q,r,s,on,t,u,v,x,d,y,⟨R,z,S,T,A⟩,⟨U,B,V,W,C⟩,⟨X,D,Y,Z,E⟩,⟨aa,F,ab,ac,G⟩⟩:=h.node a ts[a] (Eh f);have H:ts.getD a dT=ts[a]:=(by simp[List.getD,f]);have b:∀ e,e<6->w.cell? ⟨g,0+a*6+e,none⟩=(css a)[e]?:=fun e I=>(by rw[EK,h.row.cellAt (a*6+e) (by omega)];exact i a e f I);rw[d] at b;rw[H];exact⟨l,n,o,p,q,r,s,on,t,u,v,x,by simpa using b 0 (by omega),by simpa using b 1 (by omega),by simpa using b 2 (by omega),by simpa using b 3 (by omega),by simpa using b 4 (by omega),by simpa using b 5 (by omega),y,A.up z (by omega),C.up B (by omega),E.up D (by omega),G.up F (by omega)⟩
end Go.Proofs.YtggmghkcdfjdoaaGreat
