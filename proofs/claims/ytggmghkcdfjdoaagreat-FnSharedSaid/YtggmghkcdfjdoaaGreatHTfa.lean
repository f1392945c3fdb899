import Derived.Test.YtggmghkcdfjdoaaGreatHTks
import Derived.Test.YtggmghkcdfjdoaaGreatHTgh
import Derived.Test.YtggmghkcdfjdoaaGreatHTui
import Derived.Sort.Walk0
import Derived.Laws.Cover1
namespace Go.Proofs.YtggmghkcdfjdoaaGreat
set_option maxHeartbeats 4000000
open Go.RowKit Tryz
set_option linter.unusedVariables false
set_option linter.unusedSimpArgs false
set_option maxRecDepth 100000
variable {P:Nat->Prop} {a:Option Addr} {c n:Nat} {key val:ByteArray} {t:T} {w:World} {zs:List (ByteArray × ByteArray × Int)}
theorem pr (a b:ByteArray):aH a b=true ↔ a.toList<b.toList:=by
 unfold aH;rw[bytesLess_eq,Es]
theorem dh {a b c:ByteArray} (d:aH a b=true) (e:aH b c=true):aH a c=true:=by
 rw[pr] at d e ⊢;exact List.lt_trans d e
theorem aQ (a:ByteArray):¬ aH a a=true:=by
 rw[pr];exact List.lt_irrefl _
theorem jH {a b:ByteArray} (c:¬ aH a b=true) (d:¬ aH b a=true):a=b:=by
 rw[pr] at c d;exact np (List.le_antisymm d c)
theorem uQ {l:List ByteArray} (h:jw l n):∀ b a,a+b+1<n->aH (l.getD a .empty) (l.getD (a+b+1) .empty)=true
 | 0,a,hi=>h a hi
 | b+1,a,hi=>dh (uQ h b a (by omega)) (h (a+b+1) (by omega))
theorem Ab {l:List ByteArray} {i k:Nat} (h:jw l n) (a:i<k) (b:k<n):aH (l.getD i .empty) (l.getD k .empty)=true:=by
 have:=uQ h (k - i - 1) i (by omega)
 rwa [show i+(k - i - 1)+1=k by omega] at this
def jI (x y:ByteArray):Int:=if aH x y=true then -1 else if aH y x=true then 1 else 0
theorem uR (x y:ByteArray) (f:World):Calls prog 122 #[.string x,.string y] f fun e g=>e=.returned (.int .i64 (jI x y))∧g=f:=by
 have j:(x.toList == x.toList)=true:=by simp
 have k:(y.toList == y.toList)=true:=by simp
 cases b:Op.bytesLess x.toList y.toList with
 |true=>
  have c:Hid (jI x y=-1):=(by show _=_;simp[jI,aH,b]);go_enter func122,ntmps122;go_wp2
  go_ret;exact⟨by rw[c.out];rfl,rfl⟩
 |false=>
  cases a:Op.bytesLess y.toList x.toList with
  |true=>
   have c:Hid (jI x y=1):=(by show _=_;simp[jI,aH,b,a]);have h:(x.toList == y.toList)=false:=(by rw[bytesLess_eq] at a;have d:=of_decide_eq_true a;rw[beq_eq_false_iff_ne];intro e;rw[e] at d;exact List.lt_irrefl _ d);go_enter func122,ntmps122;go_wp2
   go_ret;exact⟨by rw[c.out];rfl,rfl⟩
  |false=>
   have c:Hid (jI x y=0):=(by show _=_;simp[jI,aH,b,a]);have h:(x.toList == y.toList)=true:=(by rw[bytesLess_eq] at b a;have i:=of_decide_eq_false b;have d:=of_decide_eq_false a;rw[beq_iff_eq];exact List.le_antisymm d i);go_enter func122,ntmps122;go_wp2
   go_ret;exact⟨by rw[c.out];rfl,rfl⟩
theorem oj (k v:ByteArray) (o:Int) (key:ByteArray) (w:World):Calls prog 121 #[.agg #[.string k,.string v,.int .i64 o],.string key] w fun a b=>a=.returned (.int .i64 (jI k key))∧Below w.heap.size w b:=by
 have d:=Zb w (.cells #[.string k,.string v,.int .i64 o] 75);have c:=fun e=>uR k key e;generalize jI k key=f at c ⊢;go_enter func121,ntmps121;go_wp2_with fail
 refine (c _).mono ?_;rintro a b ⟨rfl,rfl⟩;go_wp2_with fail
 go_ret;exact⟨rfl,d⟩
def Ac (zs:List (ByteArray × ByteArray × Int)) (key:ByteArray) (i:Nat):Prop:=i<=zs.length∧(∀ k,k<i->aH (zs.getD k (ByteArray.empty,ByteArray.empty,0)).1 key=true)∧∀ k,i<=k->k<zs.length->¬ aH (zs.getD k (ByteArray.empty,ByteArray.empty,0)).1 key=true
def ny (zs:List (ByteArray × ByteArray × Int)) (key:ByteArray) (w:World) (e:Ending) (w':World):Prop :=
 ∃ (i:Nat) (b:Bool),e=.returned (.tuple #[.int .i64 i,.bool b])∧(b=true->i<zs.length∧(zs.getD i (ByteArray.empty,ByteArray.empty,0)).1=key)∧(b=false->∀ k,k<zs.length->(zs.getD k (ByteArray.empty,ByteArray.empty,0)).1≠key)∧Ac zs key i∧Below w.heap.size w w'
theorem qF.at (h:qF w P a n c zs) {j:Nat} (m:j<n):∃ b,a=some ⟨b,0,none⟩∧P b∧w.cell? ⟨b,j*3,none⟩=some (.string (zs.getD j (ByteArray.empty,ByteArray.empty,0)).1)∧w.cell? ⟨b,j*3+1,none⟩=some (.string (zs.getD j (ByteArray.empty,ByteArray.empty,0)).2.1)∧w.cell? ⟨b,j*3+2,none⟩=some (.int .i64 (zs.getD j (ByteArray.empty,ByteArray.empty,0)).2.2):=by
 obtain⟨o,p,q,f⟩:=h;obtain⟨b,g,i,k⟩:=f (by omega);have e:∀ d,d<3->w.cell? ⟨b,j*3+d,none⟩=(aB (zs.getD j (ByteArray.empty,ByteArray.empty,0)))[d]?:=fun d l=>by rw[k (j*3+d) (by omega)];exact bI uo _ zs j d (by omega) l
 exact⟨b,g,i,by simpa[aB] using e 0 (by omega),by simpa[aB] using e 1 (by omega),by simpa[aB] using e 2 (by omega)⟩
theorem qL (zs:List (ByteArray × ByteArray × Int)) (W:jw (zs.map (fun s=>s.1)) zs.length) (key:ByteArray) (P:Nat->Prop) (a:Option Addr) (n c:Nat) (w:World) (h:qF w P a n c zs) (aw:n<=1000) :
  Calls prog 120 #[.slice a n c,.string key,.func (.func 121) #[] #[]] w fun i J=>ny zs key w i J:=by
 have q:=hidI h.1;have X:Hid (∀ wr,Below w.heap.size w wr->∀ e,e<n->∃ g,a=some ⟨g,0,none⟩∧g<wr.heap.size∧wr.cell? ⟨g,e*3,none⟩=some (.string (zs.getD e (ByteArray.empty,ByteArray.empty,0)).1)∧wr.cell? ⟨g,e*3+1,none⟩=some (.string (zs.getD e (ByteArray.empty,ByteArray.empty,0)).2.1)∧wr.cell? ⟨g,e*3+2,none⟩=some (.int .i64 (zs.getD e (ByteArray.empty,ByteArray.empty,0)).2.2)):=fun wr Y e ai=>by obtain⟨g,i,_,m,u,x⟩:=h.at ai;have D:=aO m;have o:=Y.block g D;exact⟨g,i,Er D Y.size,(Ep (w:=w) (a:=⟨g,e*3,none⟩) o).trans m,(Ep (w:=w) (a:=⟨g,e*3+1,none⟩) o).trans u,(Ep (w:=w) (a:=⟨g,e*3+2,none⟩) o).trans x⟩
 have K:Hid (∀ d b,d<b->b<n->aH (zs.getD d (ByteArray.empty,ByteArray.empty,0)).1 (zs.getD b (ByteArray.empty,ByteArray.empty,0)).1=true):=fun d b aj o=>by have:=Ab W aj (by have:=q.out;omega);have ak:=q.out;simpa[List.getD,show d<zs.length by omega,show b<zs.length by omega] using this
 clear h W;go_enter func120,ntmps120;go_wp2_with fail
 go_loopw [9,10] (fun L M wr=>∃ (d e:Nat),d<=e∧e<=n∧L=.int .i64 d∧M=.int .i64 e∧Hid ((∀ b,b<d->aH (zs.getD b (ByteArray.empty,ByteArray.empty,0)).1 key=true)∧(∀ b,e<=b->b<n->¬ aH (zs.getD b (ByteArray.empty,ByteArray.empty,0)).1 key=true))∧Below w.heap.size w wr) (fun L M _=>(intOf M).toNat - (intOf L).toNat)
 case atStart=>exact⟨0,n,En _,Ek _,rfl,rfl,⟨fun b o=>by omega,fun b N E=>by omega⟩,Ev _ _⟩
 case round =>
  obtain⟨d,e,ax,al,rfl,rfl,j,k⟩:=hrel;by_cases ay:d<e
  ·obtain⟨f,am⟩:=Zn ((d+e) / 2);have N:d<=f∧f<e:=(by omega);obtain⟨g,rfl,D,m,u,x⟩:=X.out wr k f (by omega);have az:((d:Int)+(e:Int)) / 2=(f:Int):=(by omega);have O:Hid (∀ g,aH (zs.getD f (ByteArray.empty,ByteArray.empty,0)).1 key=g->(g=true->(∀ b,b<f+1->aH (zs.getD b (ByteArray.empty,ByteArray.empty,0)).1 key=true)∧(∀ b,e<=b->b<n->¬ aH (zs.getD b (ByteArray.empty,ByteArray.empty,0)).1 key=true))∧(g=false->(∀ b,b<d->aH (zs.getD b (ByteArray.empty,ByteArray.empty,0)).1 key=true)∧(∀ b,f<=b->b<n->¬ aH (zs.getD b (ByteArray.empty,ByteArray.empty,0)).1 key=true))):=by
    intro aA F;constructor
    ·rintro rfl;refine⟨fun b o=>?_,j.out.2⟩;by_cases Q:b=f;·rw[Q];exact F
     ·exact dh (K.out b f (by omega) (by omega)) F
    ·rintro rfl;refine⟨j.out.1,fun b aB an R=>?_⟩;by_cases Q:b=f;·rw[Q,F] at R;cases R
     ·have:=dh (K.out f b (by omega) an) R;rw[F] at this;cases this
   have p:=fun l=>oj (zs.getD f (ByteArray.empty,ByteArray.empty,0)).1 (zs.getD f (ByteArray.empty,ByteArray.empty,0)).2.1 (zs.getD f (ByteArray.empty,ByteArray.empty,0)).2.2 key l;generalize (zs.getD f (ByteArray.empty,ByteArray.empty,0)).2.1=Z at *;generalize (zs.getD f (ByteArray.empty,ByteArray.empty,0)).2.2=aa at *;obtain⟨r,t⟩:=Zn ((zs.getD f (ByteArray.empty,ByteArray.empty,0)).1);rw[t] at m p O;clear t;obtain⟨G,S⟩:=Zn (aH r key);have H:=O.out G S;have y:Hid (jI r key<0 ↔ G=true):=by
    show _ ↔ _;unfold jI;rw[S];cases G;·simp only[EC,EO,iff_false];split<;>omega
    ·simp
   generalize jI r key=z at p y;clear O S j am;go_wp2_with fail
   refine (p _).mono ?_;rintro i ao ⟨rfl,A⟩;have I:=k.trans (A.mono k.size);clear m u x p A k;cases G
   ·have B:¬ z<0:=(by rw[y.out];simp);have T:Hid _:=H.2 rfl;clear H y;(go_wp2_with fail);go_roundw
    case rel=>exact⟨d,f,by omega,by omega,rfl,rfl,T,I⟩
    case measure=>simp[intOf];omega
   ·have B:z<0:=(by rw[y.out]);have T:Hid _:=H.1 rfl;clear H y;(go_wp2_with fail);go_roundw
    case rel=>exact⟨f+1,e,by omega,al,by go_num,rfl,T,I⟩
    case measure=>simp[intOf];omega
  ·have ap:d=e:=(by omega);subst ap;have ab:Hid (Ac zs key d):=⟨by have:=q.out;omega,j.out.1,fun b N E=>j.out.2 b N (by have:=q.out;omega)⟩;by_cases ac:d<n
   ·obtain⟨g,rfl,D,m,u,x⟩:=X.out wr k d ac;have p:=fun l=>oj (zs.getD d (ByteArray.empty,ByteArray.empty,0)).1 (zs.getD d (ByteArray.empty,ByteArray.empty,0)).2.1 (zs.getD d (ByteArray.empty,ByteArray.empty,0)).2.2 key l;have U:Hid ((jI (zs.getD d (ByteArray.empty,ByteArray.empty,0)).1 key=0->d<zs.length∧(zs.getD d (ByteArray.empty,ByteArray.empty,0)).1=key)∧(¬ jI (zs.getD d (ByteArray.empty,ByteArray.empty,0)).1 key=0->∀ b,b<zs.length->(zs.getD b (ByteArray.empty,ByteArray.empty,0)).1≠key)):=by
     have V:=j.out.2 d (Ek _) ac;have aC:=q.out;constructor
     ·intro C;refine⟨by omega,?_⟩;unfold jI at C;rw[if_neg V] at C;by_cases E:aH key (zs.getD d (ByteArray.empty,ByteArray.empty,0)).1=true;·rw[if_pos E] at C;omega
      ·exact jH V E
     ·intro C b o i;by_cases aq:b<d;·have:=j.out.1 b aq;rw[i] at this;exact aQ _ this
      ·by_cases ar:b=d;·rw[ar] at i;apply C;rw[i];unfold jI;rw[if_neg (aQ _),if_neg (aQ _)]
       ·have ad:=K.out d b (by omega) (by omega);rw[i] at ad;exact V ad
    generalize (zs.getD d (ByteArray.empty,ByteArray.empty,0)).2.1=Z at *;generalize (zs.getD d (ByteArray.empty,ByteArray.empty,0)).2.2=aa at *;obtain⟨r,t⟩:=Zn ((zs.getD d (ByteArray.empty,ByteArray.empty,0)).1);rw[t] at m p;have ae:=hidI t;clear t;obtain⟨z,B⟩:=Zn (jI r key);rw[ae.out,B] at U;have af:∀ l:World,Calls prog 121 #[.agg #[.string r,.string Z,.int .i64 aa],.string key] l fun i J=>i=.returned (.int .i64 z)∧Below l.heap.size l J:=fun l=>(by rw[<-B];exact p l);clear p B j;(go_wp2_with fail);refine (af _).mono ?_;rintro i ao ⟨rfl,A⟩;have I:=k.trans (A.mono k.size);clear m u x af A k;obtain⟨ag,au⟩:=Zn ((z == 0));have ah:=hidI au;(go_wp2_with fail);refine bodyPost_ret (v:=.tuple #[.int .i64 d,.bool ag]) (by simp[results,results120,go_sem]) rfl ?_;refine⟨d,ag,rfl,fun h=>?_,fun h=>?_,ab.out,I⟩;·have:=U.out.1 (by have:=ah.out;rw[h] at this;simpa using this);exact⟨this.1,by rw[ae.out];exact this.2⟩
    ·exact U.out.2 (by have:=ah.out;rw[h] at this;simpa using this)
   ·have av:Hid (∀ b,b<zs.length->(zs.getD b (ByteArray.empty,ByteArray.empty,0)).1≠key):=fun b o i=>(by have ak:=q.out;have:=j.out.1 b (by omega);rw[i] at this;exact aQ _ this);clear j;(go_wp2_with fail);refine bodyPost_ret (v:=.tuple #[.int .i64 d,.bool false]) (by simp[results,results120,go_sem]) rfl ?_;exact⟨d,false,rfl,(fun h=>by cases h),fun _=>av.out,ab.out,k⟩
def ch (key:ByteArray) (zs:List (ByteArray × ByteArray × Int)):Option (ByteArray × ByteArray × Int):=zs.find? (fun s=>decide (s.1=key))
theorem j4 (h:∀ a ∈ zs,a.1≠key):ch key zs=none:=by
 unfold ch;rw[List.find?_eq_none];intro a b;simpa using h a b
def bl (zs:List (ByteArray × ByteArray × Int)):Prop:=zs.Pairwise (fun a b=>aH a.1 b.1=true)
theorem oq (h:it (zs.map (fun s=>s.1))=true):bl zs:=by
 unfold bl;rw[List.pairwise_iff_getElem];intro d e b a c;have:=Ab (wC _ h) c (by simpa using a);simpa[List.getD,b,a] using this
theorem uS (h:bl zs):jw (zs.map (fun b=>b.1)) zs.length:=fun a c=>by
 unfold bl at h
 rw[List.pairwise_iff_getElem] at h
 have:=h a (a+1) (by omega) (by omega) (by omega)
 simpa[List.getD,show a<zs.length by omega,show a+1<zs.length by omega] using this
theorem ru:∀ (d:List (List (ByteArray × ByteArray × Int))) (c:Nat),c<d.length->(∀ a,a<d.length->a≠c->∀ b ∈ d.getD a [],b.1≠key)->ch key d.flatten=ch key (d.getD c [])
 | [],c,hm,_=>by simp at hm
 | l::r,0,_,h=>by
  have g:ch key r.flatten=none:=j4 (fun b e=>by
   obtain⟨p,j,k⟩:=List.mem_flatten.1 e
   obtain⟨a,f,m⟩:=List.mem_iff_getElem.1 j
   refine h (a+1) (by simpa using f) (by omega) b ?_
   simp[List.getD,f,m,k])
  show ch key (l++r.flatten)=ch key l
  unfold ch at g ⊢
  rw[List.find?_append,g]
  simp
 | l::r,c+1,hm,h=>by
  have i:=j4 (fun b e=>h 0 (by simp) (by omega) b (by simpa using e))
  have n:=ru r c (by simpa using hm) (fun a f q b e=>h (a+1) (by simpa using f) (by omega) b (by simpa using e))
  have o:ch key ((l::r).flatten)=ch key r.flatten:=by
   show ch key (l++r.flatten)=_;unfold ch at i ⊢;rw[List.find?_append,i];rfl
  rw[o,n];simp
theorem jJ (t:T):t.good false=true->t.slots≠[]:=by
 induction t using T.ind with
 |h t i=>
  intro a;have j:=a;rw[T.good_eq] at a;simp only[Em,Es] at a;have b:=a.1.1.1.1.1;have k:=a.1.1.2;rw[T.slots_eq];cases c:t.leaf;·simp only[c,T.size,Bool.and_false,EC,EO] at b;obtain⟨d,g,e⟩:∃ d g,t.kids=d::g:=EX (by intro f;rw[f] at b;simp at b);have:=i d (by rw[e];exact Et ..) (dX j (by rw[e];exact Et ..));rw[e];simp[this]
  ·have l:2<=t.keys.length:=(by simpa[c,T.size] using b);simp only[c,Fg,E8,Em,Es] at k;intro f;have:=congrArg List.length f;simp only[if_true,El,List.length_zip,List.length_nil] at this;omega
theorem mG (t:T):t.good false=true->∀ j m,t.slots=j::m->j.1=t.low:=by
 induction t using T.ind with
 |h t s=>
  intro e j m b;have n:=e;rw[T.good_eq] at e;simp only[Em,Es] at e;have c:=e.1.1.1.1.1;have f:=e.1.1.2;rw[T.slots_eq] at b;cases d:t.leaf;·simp only[d,T.size,Bool.and_false,EC,EO] at c;obtain⟨g,o,k⟩:∃ g o,t.kids=g::o:=EX (by intro u;rw[u] at c;simp at c);have l:g ∈ t.kids:=(by rw[k];exact Et ..);rw[if_neg (by simp[d]),ED,k,Ex,EW] at b;rw[T.low_inner d k];obtain⟨v,w,p⟩:=EX (jJ g (dX n l));rw[p,Fj] at b;have:=(List.cons.inj b).1;rw[<-this];exact s g l (dX n l) v w p
  ·have c:2<=t.keys.length:=(by simpa[d,T.size] using c);simp only[d,Fg,E8,Em,Es] at f;rw[if_pos d] at b;rw[T.low_leaf d];cases i:t.keys with
   | nil=>rw[i] at c;simp at c
   |cons a x=>
    cases q:t.vals with
    | nil=>rw[i,q] at f;simp at f
    |cons y z=>
     cases r:t.over with
     | nil=>rw[i,r] at f;simp at f
     |cons A B=>rw[i,q,r] at b;simp only[List.zip_cons_cons,Fj] at b;rw[<-(List.cons.inj b).1];rfl
def oK (a b:ByteArray):Bool:=Op.bytesLess a.toList b.toList || a.toList == b.toList
theorem sZ (a b:ByteArray):oK a b=true ↔ aH a b=true∨a=b:=by
 unfold oK aH;rw[Bool.or_eq_true,beq_iff_eq];exact⟨fun c=>c.imp id np,fun c=>c.imp id (fun d=>by rw[d])⟩
def ew (t:T) (key:ByteArray) (m:Nat):Prop:=m<t.kids.length∧(m=0∨∃ k,t.kids[m]?=some k∧oK k.low key=true)∧∀ i k,m<i->t.kids[i]?=some k->¬ oK k.low key=true
theorem fh {k:T} {m:Nat} (D:t.leaf=false) (p:∃ v,t.good v=true) (f:bl t.slots) (g:ew t key m) (h:t.kids[m]?=some k):ch key t.slots=ch key k.slots∧bl k.slots:=by
 obtain⟨v,p⟩:=p;have E:t.slots=(t.kids.map T.slots).flatten:=by rw[T.slots_eq,if_neg (by simp[D]),ED]
 rw[E] at f ⊢;unfold bl at f;rw[List.pairwise_flatten] at f;obtain⟨w,x⟩:=f;rw[List.pairwise_iff_getElem] at x;have q:∀ y ∈ t.kids,y.good false=true:=fun y F=>dX p F;have r:=Ew h;refine⟨?_,w _ (EY.2 ⟨k,r,rfl⟩)⟩;have i:(t.kids.map T.slots).length=t.kids.length:=by simp
 have z:∀ a (b:a<t.kids.length),(t.kids.map T.slots).getD a []=t.kids[a].slots:=fun a b=>by simp[List.getD,b]
 have G:(t.kids.map T.slots).getD m []=k.slots:=by obtain⟨b,c⟩:=EQ.1 h;rw[z m b,c]
 rw[ru _ m (by rw[i];exact g.1) (fun a b P H j c=>?_),G];rw[i] at b;rw[z a b] at j;have A:=q t.kids[a] (E4 b);by_cases I:a<m
 ·rcases g.2.1 with Q | ⟨d,B,J⟩;·omega
  ·have K:d=k:=(by rw[h] at B;exact (Option.some.inj B).symm);subst K;obtain⟨l,s,e⟩:=EX (jJ d (q d r));have n:=mG d (q d r) l s e;obtain⟨R,L⟩:=EQ.1 h;have o:=x a m (by rw[i];exact b) (by rw[i];exact g.1) I H (by simpa using j) l (by simp[L,e]);rw[c,n] at o;rcases (sZ _ _).1 J with u | u;·exact aQ _ (dh o u)
   ·rw[u] at o;exact aQ _ o
 ·have M:m<a:=(by omega);have N:=g.2.2 a t.kids[a] M (Eh b);obtain⟨l,s,e⟩:=EX (jJ _ A);have n:=mG _ A l s e;apply N;rw[sZ];have C:=w _ (EY.2 ⟨t.kids[a],E4 b,rfl⟩);rw[e] at C j;rcases EL.1 j with rfl | O;·right;rw[<-n];exact c
  ·left;have:=List.rel_of_pairwise_cons C O;rw[n,c] at this;exact this
def bm (key:ByteArray):List (ByteArray × ByteArray × Int)->Nat
 | []=>0
 | s::r=>if aH s.1 key then bm key r+1 else 0
theorem tf (key:ByteArray):∀ zs,bm key zs<=zs.length
 | []=>Ek _
 | s::r=>by
  have:=tf key r
  unfold bm
  split<;>simp<;>omega
theorem wG (key:ByteArray):∀ (zs:List (ByteArray × ByteArray × Int)) (a:Nat),Ac zs key a->a=bm key zs
 | [],a,h=>by have:=h.1;simp at this;simp[bm,this]
 | s::r,a,h=>by
  obtain⟨f,c,d⟩:=h
  unfold bm
  cases a with
  |zero=>
   have:=d 0 (Ek _) (by simp)
   simp[List.getD] at this
   simp[this]
  |succ a=>
   have e:=c 0 (by omega)
   simp[List.getD] at e
   rw[if_pos e,wG key r a ⟨by simp at f;omega,fun b g=>by simpa[List.getD] using c (b+1) (by omega),fun b i j=>by simpa[List.getD] using d (b+1) (by omega) (by simp;omega)⟩]
def bO (key:ByteArray) (zs:List (ByteArray × ByteArray × Int)):Bool:=decide (bm key zs<zs.length∧(zs.getD (bm key zs) (ByteArray.empty,ByteArray.empty,0)).1=key)
def ej (key val:ByteArray) (zs:List (ByteArray × ByteArray × Int)):List (ByteArray × ByteArray × Int):=zs.take (bm key zs)++(key,val,0)::zs.drop (if bO key zs then bm key zs+1 else bm key zs)
def cw (zs:List (ByteArray × ByteArray × Int)):T:=⟨true,0,zs.map (fun s=>s.1),zs.map (fun s=>s.2.1),zs.map (fun s=>s.2.2),[]⟩
theorem mH:∀ (zs:List (ByteArray × ByteArray × Int)),(zs.map (fun a=>a.1)).zip ((zs.map (fun a=>a.2.1)).zip (zs.map (fun a=>a.2.2)))=zs
 | []=>rfl
 | a::r=>by simp[mH r]
theorem rx (zs:List (ByteArray × ByteArray × Int)):(cw zs).keys.zip ((cw zs).vals.zip (cw zs).over)=zs:=mH zs
def iR (key:ByteArray):List T->Option Nat
 | []=>none
 | t::r=>match iR key r with
  | some m=>some (m+1)
  | none=>if oK t.low key then some 0 else none
def ci (key:ByteArray) (ys:List T):Nat:=(iR key ys).getD 0
theorem j5 (key:ByteArray):∀ (c:List T) (d:Nat) (a:T),c[d]?=some a->oK a.low key=true->(∀ b a,d<b->c[b]?=some a->¬ oK a.low key=true)->iR key c=some d
 | [],d,a,h,_,_=>by simp at h
 | t::r,0,a,h,e,ha=>by
  have g:=towO_none key r (fun b a f=>ha (b+1) a (by omega) (by simpa using f))
  simp at h
  subst h
  simp[iR,g,e]
 | t::r,d+1,a,h,e,ha=>by
  have:=j5 key r d a (by simpa using h) e (fun b a f e=>ha (b+1) a (by omega) (by simpa using e))
  simp[iR,this]
 where
 towO_none (key:ByteArray):∀ (c:List T),(∀ (b:Nat) a,c[b]?=some a->¬ oK a.low key=true)->iR key c=none
 | [],_=>rfl
 | t::r,h=>by
  have i:=towO_none key r (fun b a f=>h (b+1) a (by simpa using f))
  have j:=h 0 t rfl
  simp[iR,i,j]
theorem wH {m:Nat} (h:ew t key m):ci key t.kids=m:=by
 obtain⟨g,i,e⟩:=h;rcases i with rfl | ⟨a,b,c⟩
 ·obtain⟨a,b⟩:∃ a,t.kids[0]?=some a:=⟨_,Eh g⟩;by_cases c:oK a.low key=true;·unfold ci;rw[j5 key _ 0 a b c e];rfl
  ·unfold ci;rw[j5.towO_none key _ (fun f j d=>by
    cases f with
    | zero=>rw[b] at d;simp at d;subst d;exact c
    | succ f=>exact e (f+1) j (by omega) d)]
   rfl
 ·unfold ci;rw[j5 key _ m a b c e];rfl
def T.fore (t:T) (k:Nat):T:=⟨t.leaf,0,t.keys.take k,t.vals.take k,t.over.take k,t.kids.take k⟩
def T.rest (t:T) (k:Nat):T:=⟨t.leaf,0,t.keys.drop k,t.vals.drop k,t.over.drop k,t.kids.drop k⟩
def cR (t:T):List T:=if t.size<=4 then [t] else [t.fore 3,t.rest 3]
def aW (key val:ByteArray):T->T
 | ⟨l,p,k,v,o,y⟩=>if l then cw (ej key val (k.zip (v.zip o)))
  else ⟨false,0,[],[],[],y.take (ci key y)++cR ((y.map (aW key val)).getD (ci key y) br)++y.drop (ci key y+1)⟩
theorem ed (h:t.leaf=true):aW key val t=cw (ej key val (t.keys.zip (t.vals.zip t.over))):=by
 obtain⟨a,b,c,d,e,f⟩:=t;simp at h;rw[aW];simp[h]
theorem dw {k:T} (h:t.leaf=false) (a:t.kids[ci key t.kids]?=some k):aW key val t=⟨false,0,[],[],[],t.kids.take (ci key t.kids)++cR (aW key val k)++t.kids.drop (ci key t.kids+1)⟩:=by
 obtain⟨c,d,e,f,g,b⟩:=t;simp at h a;rw[aW];have:(b.map (aW key val)).getD (ci key b) br=aW key val k:=by simp[List.getD,a]
 simp only[h,EC,EO,this]
def bu (key val:ByteArray) (t:T):T:=if (aW key val t).size<=4 then aW key val t else ⟨false,0,[],[],[],cR (aW key val t)⟩
theorem pt (key val:ByteArray) (zs:List (ByteArray × ByteArray × Int)):(ej key val zs).length=if bO key zs then zs.length else zs.length+1:=by
 have a:=tf key zs;unfold ej;by_cases ht:bO key zs=true;·have b:bm key zs<zs.length:=(by simp[bO] at ht;exact ht.1);simp[ht];omega
 ·simp[ht];omega
theorem uT {s:ByteArray × ByteArray × Int} (h:s ∈ ej key val zs):s=(key,val,0)∨s ∈ zs:=by
 unfold ej at h;rcases EG.1 h with h | h;·exact .inr (EI h)
 ·rcases EL.1 h with h | h;·exact .inl h
  ·exact .inr (EF h)
theorem wI:∀ (a:List T),0<a.length->ci key a<a.length:=by
 have b:∀ (a:List T) c,iR key a=some c->c<a.length:=by
  intro a
  induction a with
  | nil=>intro c b;simp[iR] at b
  |cons t e f=>
   intro c b;unfold iR at b;cases d:iR key e with
   |none=>rw[d] at b;simp at b;simp[<-b.2]
   |some g=>rw[d] at b;simp at b;have:=f g d;simp;omega
 intro a h;unfold ci;cases d:iR key a with
 | none=>simpa using h
 | some c=>exact b a c d
theorem fA {ys:List T} (h:0<ys.length):∃ a,ys[ci key ys]?=some a∧a ∈ ys:=by
 have:=wI (key:=key) ys h;exact⟨_,Eh this,E4 _⟩
def xK:Option (ByteArray × ByteArray × Int)->Value
 | some s=>.agg #[.string s.1,.string s.2.1,.int .i64 s.2.2]
 | none=>.agg #[.string ByteArray.empty,.string ByteArray.empty,.int .i64 0]
def mJ (s:Option (ByteArray × ByteArray × Int)) (w:World) (e:Ending) (w':World):Prop:=e=.returned (.tuple #[xK s,.bool s.isSome])∧Below w.heap.size w w'
def pu (w:World) (N:Nat) (u0 u1 u2:Value):World:=((w.setCell ⟨N,0,none⟩ u0).setCell ⟨N,1,none⟩ u1).setCell ⟨N,2,none⟩ u2
theorem gV {L:Nat} (h:gI w P t L a n c) (b:bl (t.keys.zip (t.vals.zip t.over))) (l:n<=1000) (key:ByteArray):Calls prog 117 #[.pointer (some ⟨L,0,none⟩),.string key] w fun d m=>ny (t.keys.zip (t.vals.zip t.over)) key w d m:=by
 obtain⟨s,u⟩:=au h.box;have x:=Za h.box;have e:=qL _ (uS b) key P a n c w h.row l;clear h b;generalize t.keys.zip (t.vals.zip t.over)=zs at *;go_enter func117,ntmps117;go_wp2_with fail
 refine e.mono ?_;rintro d y ⟨f,g,rfl,i,j,k,o⟩;have p:Hid _:=k;have q:Hid _:=i;have r:Hid _:=j;clear e i j k;go_wp2_with fail
 refine bodyPost_ret (v:=.tuple #[.int .i64 f,.bool g]) (by simp[results,results117,go_sem]) rfl ?_;exact⟨f,g,rfl,q.out,r.out,p.out,o⟩
theorem lJ {L:Nat} {us:Nat->Value} (h:eM w P t L a n c us) (u:0<n) (U:n<=1000) (v:∀ e b,t.kids[e]?=some b->∃ l m,us e=.iface l m∧xF w l m "loop.example/s02098/impl.least" (.string b.low)) (key:ByteArray) :
  Calls prog 98 #[.pointer (some ⟨L,0,none⟩),.string key] w fun x y=>∃ f:Nat,x=.returned (.int .i64 f)∧ew t key f∧y=w:=by
 obtain⟨H,I⟩:=au h.box;have V:=Za h.box;have z:=hidI h.len.1;obtain⟨W,rfl,X,o⟩:=h.row u;have J:=hidI o;have Y:=aO (o 0 u);have K:=hidI v;clear h o v;generalize t.page=Z at *;go_enter func98,ntmps98;go_wp2_with fail
 clear H I;go_loopw [5,13] (fun M p wr=>∃ (d f:Nat),d<=n∧p=.int .i64 d∧M=.int .i64 f∧f<=d∧Hid ((f=0∨(f<d∧∃ b,t.kids[f]?=some b∧oK b.low key=true))∧∀ e b,f<e->e<d->t.kids[e]?=some b->¬ oK b.low key=true)∧wr=w) (fun _ p _=>n - (intOf p).toNat)
 case atStart=>exact⟨0,0,En _,rfl,rfl,Ek _,⟨.inl rfl,fun e b j A=>by omega⟩,rfl⟩
 case round =>
  obtain⟨d,f,aa,rfl,rfl,ab,g,rfl⟩:=hrel;by_cases N:d<n
  ·obtain⟨b,q⟩:∃ b,t.kids[d]?=some b:=⟨_,Eh (by have:=z.out;omega)⟩;obtain⟨l,m,B,ac,ad,ae,af,ag,k⟩:=K.out d b q;have O:=J.out d N;rw[B] at O;have C:=hidI q;obtain⟨Q,r⟩:=Zn b.low;have D:=hidI r;rw[r] at k;clear B q r;obtain⟨R,E⟩:=Zn (oK Q key);have F:=hidI E;unfold oK at E;go_wp2_with fail
   refine k.mono ?_;rintro x y ⟨rfl,rfl⟩;cases R
   ·have s:Hid ((f=0∨(f<d+1∧∃ b,t.kids[f]?=some b∧oK b.low key=true))∧∀ e b,f<e->e<d+1->t.kids[e]?=some b->¬ oK b.low key=true):=by
     refine⟨g.out.1.imp id (fun h=>⟨by omega,h.2⟩),fun e G j A i=>?_⟩;by_cases S:e=d;·subst S;rw[C.out] at i;cases i;rw[D.out,F.out];simp
     ·exact g.out.2 e G j (by omega) i
    clear g k;(go_wp2_with fail);go_roundw
    case rel=>exact⟨d+1,f,by omega,by go_num,rfl,by omega,s,trivial⟩
    case measure=>simp[intOf];omega
   ·have s:Hid ((d=0∨(d<d+1∧∃ b,t.kids[d]?=some b∧oK b.low key=true))∧∀ e b,d<e->e<d+1->t.kids[e]?=some b->¬ oK b.low key=true) :=
     ⟨.inr ⟨by omega,b,C.out,by rw[D.out,F.out]⟩,fun e G j A i=>by omega⟩
    clear g k;(go_wp2_with fail);go_roundw
    case rel=>exact⟨d+1,d,by omega,by go_num,rfl,by omega,s,trivial⟩
    case measure=>simp[intOf];omega
  ·have T:Hid (ew t key f):=(by have ah:=z.out;refine⟨by rcases g.out.1 with h | h<;>omega,g.out.1.imp id (fun h=>h.2),fun e b j i=>?_⟩;have ai:=Zc i;exact g.out.2 e b j (by omega) i);clear g;go_wp2_with fail
   go_ret;exact⟨f,rfl,T.out,rfl⟩
def CO (base:Nat) (w:World) (key:ByteArray) (s:Option (ByteArray × ByteArray × Int)) (ty:TypeId) (v:Value):Prop :=
 (∀ w,(nilAhead 290 ty v "loop.example/s02098/impl.find").run prog w=.ok (some false) w)∧∃ f r,(∀ w,(method 290 ty v "loop.example/s02098/impl.find").run prog w=.ok (f,r) w)∧(∀ w,(callFunc f #[r,.string key]).run prog w=.ok (.enter f #[r,.string key]) w)∧∀ w',Below base w w'->base<=w'.heap.size->Calls prog f #[r,.string key] w' fun e w2=>mJ s w' e w2
def tW:Option (ByteArray × ByteArray × Int)->ByteArray
 | some s=>s.2.1
 | none=>ByteArray.empty
def AQ (s:Option (ByteArray × ByteArray × Int)) (w:World) (e:Ending) (w':World):Prop:=e=.returned (.agg #[.bool s.isSome,.string (tW s)])∧Below w.heap.size w w'
def Bz (ts:List TN) (key:ByteArray) (s:Option (ByteArray × ByteArray × Int)):Prop:=(¬ cF ts->s=none)∧(cF ts->∃ t met,gr ts (ts.length+1) 0 (fun _=>false)=some (t,ts.length,met)∧s=ch key t.slots)
def BA (ts:List TN) (key:ByteArray) (s:Option (ByteArray × ByteArray × Int)):Prop:=(¬ aZ ts->s=none)∧(aZ ts->s=ch key (rd ts (ts.length+1) 0).1.slots)
def lD (w:World) (N:Nat) (u0 u1:Value):World:=(w.setCell ⟨N,0,none⟩ u0).setCell ⟨N,1,none⟩ u1
theorem nS {N t:Nat} {c d:Value} (h:w.heap[N]?=some (.cells #[c,d] t)) (a b:Value):(lD w N a b).heap[N]?=some (.cells #[a,b] t):=by
 have e:=aj (aj h 0 a) 1 b;unfold lD;simpa using e
theorem qa (w:World) (N:Nat) (a b:Value):Fr (fun c=>c=N) w (lD w N a b):=(af w N 0 a).trans (af _ N 1 b)
theorem xv {j:Nat} (h:∀ a,a<j->(zs.getD a (ByteArray.empty,ByteArray.empty,0)).1≠key) (b:j<zs.length) (c:(zs.getD j (ByteArray.empty,ByteArray.empty,0)).1=key):ch key zs=some (zs.getD j (ByteArray.empty,ByteArray.empty,0)):=by
 have d:zs.getD j (ByteArray.empty,ByteArray.empty,0)=zs[j]:=by simp[List.getD,b]
 rw[d] at c ⊢;unfold ch;rw[List.find?_eq_some_iff_getElem];refine⟨by simpa using c,j,b,rfl,fun a e=>?_⟩;have:=h a e;simp only[List.getD,Eh (show a<zs.length by omega),Ft] at this;simpa using this
theorem vS (ts:List TN) (key:ByteArray) (a:Option Addr) (n c A B:Nat) (w:World) (a5:B<=w.heap.size) (aB:aw w A B a n c ts) :
  Calls prog 65 #[.agg #[.slice a n c],.string key] w fun k a6=>∃ I,BA ts key I∧AQ I w k a6:=by
 obtain⟨e,Z⟩:=Zn w.heap.size;have aC:=Zb w (.cells #[.slice a n c] 25);have aa:=Zb (w.alloc (.cells #[.slice a n c] 25)) (.cells #[.bool false,.string ⟨#[]⟩] 141);have ab:=Ej (w.alloc (.cells #[.slice a n c] 25)) (.cells #[.bool false,.string ⟨#[]⟩] 141);have a7:(w.alloc (.cells #[.slice a n c] 25)).heap.size=e+1:=by simp[Z]
 have bq:((w.alloc (.cells #[.slice a n c] 25)).alloc (.cells #[.bool false,.string ⟨#[]⟩] 141)).heap.size=e+2:=by simp[Z]
 have ac:=(aa.block e (by omega)).trans (Z ▸ Ej w (.cells #[.slice a n c] 25));rw[a7] at ab;have aD:=aC.trans (aa.mono (by omega));have ad:=aB.below (aD.mono a5);have ae:=ah ac;clear aB aC aa;go_enter func65,ntmps65;go_upto_region 1 with fail
 generalize (w.alloc (.cells #[.slice a n c] 25)).alloc (.cells #[.bool false,.string ⟨#[]⟩] 141)=aE at *;have a8:e<aE.heap.size:=by omega
 have aF:=dZ ts a n c A B aE (by omega) ad;go_wp2_with fail
 refine aF.mono ?_;rintro k m ⟨i,rfl,o,p⟩;have af:=aD.trans (p.mono (by omega));have a9:=(p.block (e+1) (by omega)).trans ab;have aH:=(p.block e a8).trans ac;have aI:=ad.below (p.mono (by omega));have br:=p.size;clear aF ae ab ac ad p;have ag:Hid (∀ q:World,Below m.heap.size m q->∀ P Q,(lD q (e+1) (.bool P) (.string Q)).heap[e+1]?=some (.cells #[.bool P,.string Q] 141)∧Below w.heap.size w (lD q (e+1) (.bool P) (.string Q))∧q.heap[e+1]?=some (.cells #[.bool false,.string ⟨#[]⟩] 141)):=fun q ai P Q=>by have f:=(ai.block (e+1) (by omega)).trans a9;exact⟨nS f _ _,(af.trans (ai.mono af.size)).trans ((qa q (e+1) _ _).below (by have:=ai.size;have:=af.size;omega) (fun bs k=>by omega)),f⟩
 cases i
 ·have aj:Hid (¬ aZ ts):=fun l=>(by simpa using o.2 l);obtain⟨J,K,f⟩:=ag.out m (Ev _ _) false ⟨#[]⟩;obtain⟨aJ,aK⟩:=au f;have aL:=ar f;have a':=Za f;clear o;go_wp2_with fail
  show bodyPost _ _ _ _ _ (lD m (e+1) (.bool false) (.string ⟨#[]⟩));obtain⟨L,M⟩:=au J;refine bodyPost_ret (v:=.agg #[.bool false,.string ⟨#[]⟩]) (by simp[results,results65,go_sem,L,M]) rfl ?_;exact⟨none,⟨fun _=>rfl,fun l=>absurd l aj.out⟩,rfl,K⟩
 ·have R:Hid (aZ ts):=o.1 rfl;clear o;have ae:=ah aH;have a':e<m.heap.size:=(by omega);have aM:=R.out.1.2;have aN:=fW ts aM a n c A B m (by omega) aI;go_upto_region 4 with (go_at_call 19;refine aN.mono ?_;rintro k r ⟨s,u,x,y,z,C,D,on,E,F,G,aO,rfl,ak,al⟩)
  clear aN ae aH aI;obtain⟨t,ht⟩:=Zn ((rd ts (ts.length+1) 0).1);have am:=hidI ht;rw[ht] at ak ⊢;clear ht;generalize (!(rd ts (ts.length+1) 0).2.2 && decide ((rd ts (ts.length+1) 0).2.1=n))=bt;obtain⟨_,d,an,ao,ba,_,bb,_⟩:=R.out;have bc:d=t:=(by have:=am.out;rw[an] at this;exact this);subst bc;obtain⟨aP,_,_⟩:=iy ts _ _ _ _ an;have N:=dY d ⟨true,ao⟩;have ap:=jD r.heap.size d aP ⟨true,ao⟩ (by omega);have aq:Hid (d.slots.length<=4000):=(by show _<=_;omega);obtain⟨aQ,aR⟩:=Zn r.heap.size;have O:=Zb r (.cells (Zs d.leaf d.page s u x y z C D on E F d.kids.length G) 57);have S:=Ej r (.cells (Zs d.leaf d.page s u x y z C D on E F d.kids.length G) 57);rw[aR] at S ap;have bd:=al.size
  have aT:bz (r.alloc (.cells (Zs d.leaf d.page s u x y z C D on E F d.kids.length G) 57)) 0 aQ (fun T=>T<aQ) d s u x y z C D on E F G aO :=
   ak.wide (fun g bu bv=>O.block g (by omega)) (fun T aU=>O.block T aU.2) (fun T aU=>by omega) (En _) (by omega)
  have av:=al.trans (O.mono bd);have U:=ap _ s u x y z C D on E F G aO (by rw[<-aR];exact O.size) aT;obtain⟨be,q1,q2,q3,bf,bg⟩:=aS S;have bw:=Za S;obtain⟨h,ax⟩:=Zn d.slots;have aV:=hidI ax;unfold iP at U;rw[ax] at U aq;clear ap ak aT N ax ao ba aP an bb aM;generalize (r.alloc (.cells (Zs d.leaf d.page s u x y z C D on E F d.kids.length G) 57))=bx at *;go_wp2_with fail
  refine U.mono ?_;rintro k V ⟨W,bA,rfl,ay,aW⟩;have aX:=hidI (av.trans (aW.mono av.size));obtain⟨X,N⟩:=Zn h.length;have aY:=hidI N;have bh:Hid (∀ b,b<X->V.cell? ⟨W,b*2,none⟩=some (.string (h.getD b (ByteArray.empty,ByteArray.empty,0)).1)∧V.cell? ⟨W,b*2+1,none⟩=some (.string (h.getD b (ByteArray.empty,ByteArray.empty,0)).2.1)):=fun b bi=>(by have a0:∀ i,i<2->V.cell? ⟨W,b*2+i,none⟩=(aG (h.getD b (ByteArray.empty,ByteArray.empty,0)))[i]?:=fun i o=>(by rw[ay.cellAt (b*2+i) (by omega)];exact bI Cf _ h b i (by omega) o);exact⟨by simpa[aG] using a0 0 (by omega),by simpa[aG] using a0 1 (by omega)⟩);have bB:=(ay.lt W rfl).2;rw[N] at aq ⊢;have bC:=aq.out;clear U be q1 q2 q3 bf bg ay aW av O S al N;go_wp2_with fail
  go_loopw [8] (fun az wr=>∃ b:Nat,b<=X∧az=.int .i64 b∧Hid (∀ g,g<b->(h.getD g (ByteArray.empty,ByteArray.empty,0)).1≠key)∧wr=V) (fun az _=>X - (intOf az).toNat)
  case atStart=>exact⟨0,En _,rfl,fun g aA=>by omega,rfl⟩
  case round =>
   obtain⟨b,bi,rfl,H,rfl⟩:=hrel;by_cases bj:b<X
   ·obtain⟨a1,a2⟩:=bh.out b bj;by_cases j:(h.getD b (ByteArray.empty,ByteArray.empty,0)).1=key;·have bk:Hid (ch key h=some (h.getD b (ByteArray.empty,ByteArray.empty,0))):=xv H.out (by have:=aY.out;omega) j;rw[j] at a1;have a3:(key.toList == key.toList)=true:=(by simp);generalize h.getD b (ByteArray.empty,ByteArray.empty,0)=I at *;obtain⟨a4,Y,bl⟩:=I;simp only at a2 j;obtain⟨J,K,f⟩:=ag.out wr aX.out true Y;obtain⟨aJ,aK⟩:=au f;have aL:=ar f;have bm:=Za f;clear j H;(go_wp2_with fail);show bodyPost _ _ _ _ _ (lD wr (e+1) (.bool true) (.string Y));obtain⟨L,M⟩:=au J;refine bodyPost_ret (v:=.agg #[.bool true,.string Y]) (by simp[results,results65,go_sem,L,M]) rfl ?_;exact⟨some (a4,Y,bl),⟨fun l=>absurd R.out l,fun _=>by rw[am.out,aV.out,bk.out]⟩,rfl,K⟩
    ·have a3:=mw j;have bn:Hid (∀ g,g<b+1->(h.getD g (ByteArray.empty,ByteArray.empty,0)).1≠key):=fun g aA=>by
      by_cases bo:g=b;·rw[bo];exact j
      ·exact H.out g (by omega)
     generalize (h.getD b (ByteArray.empty,ByteArray.empty,0)).1=a4 at a1 a3 j;clear j H a2;(go_wp2_with fail);go_roundw
     case rel=>exact⟨b+1,by omega,by go_num,bn,trivial⟩
     case measure=>simp[intOf];omega
   ·have aj:Hid (ch key h=none):=j4 (fun I bp=>by obtain⟨g,aA,k⟩:=List.mem_iff_getElem.1 bp;have:=H.out g (by have:=aY.out;omega);simpa[List.getD,aA,k] using this);obtain⟨J,K,f⟩:=ag.out wr aX.out false ⟨#[]⟩;obtain⟨aJ,aK⟩:=au f;have aL:=ar f;have bm:=Za f;clear H;(go_wp2_with fail);show bodyPost _ _ _ _ _ (lD wr (e+1) (.bool false) (.string ⟨#[]⟩));obtain⟨L,M⟩:=au J;refine bodyPost_ret (v:=.agg #[.bool false,.string ⟨#[]⟩]) (by simp[results,results65,go_sem,L,M]) rfl ?_;exact⟨none,⟨fun l=>absurd R.out l,fun _=>by rw[am.out,aV.out,aj.out]⟩,rfl,K⟩
end Go.Proofs.YtggmghkcdfjdoaaGreat
