import Derived.Test.YtggmghkcdfjdoaaGreatHTks
import Derived.Test.YtggmghkcdfjdoaaGreatHTfa
import Derived.Test.YtggmghkcdfjdoaaGreatHTpx
import Derived.Test.YtggmghkcdfjdoaaGreatHTdp
import Derived.Test.YtggmghkcdfjdoaaGreatHTxh
import Derived.Test.YtggmghkcdfjdoaaGreatHTpg
import Derived.Test.YtggmghkcdfjdoaaGreatHDtb
namespace Go.Proofs.YtggmghkcdfjdoaaGreat
set_option maxHeartbeats 3200000
open Go.RowKit Tryz
set_option linter.unusedVariables false
set_option linter.unusedSimpArgs false
set_option maxRecDepth 100000
variable {S:Nat->Prop} {a:Option Addr} {c n:Nat} {ts:List TN} {u:T} {w:World}
theorem zG {m:Nat} {a:List Int} (h:dB ts u m a):0<ts.length:=by
 have:=h.st.ok.1.1;omega
theorem qZ (C A B:Nat) (w:World) (h:dk w C A B) (S:Nat->Prop) (V:∀ b,S b->b<w.heap.size) (W:S C) :
  Calls prog 12 #[.pointer (some ⟨C,0,none⟩)] w fun d H=>∃ (a:Option Addr) (n c:Nat) (ts:List TN),d=.returned (.agg #[.slice a n c])∧DT H S a n c ts∧n<=30∧(∀ I ∈ ts,be I)∧dk H C A B∧Fr (fun b=>b=C) w H:=by
 have aD:=h.lt;obtain⟨f,aq⟩:=Zn w.heap.size;have x:=Ej w (.cells #[.slice none 0 0] 25);have y:=Zb w (.cells #[.slice none 0 0] 25);have J:(w.alloc (.cells #[.slice none 0 0] 25)).heap.size=w.heap.size+1:=by simp
 have K:=h.below y;have L:Hid (Fr (fun b=>b=C) w (w.alloc (.cells #[.slice none 0 0] 25))):=Fr.of_below y;go_enter func12,ntmps12;go_upto_region 1 with fail
 generalize w.alloc (.cells #[.slice none 0 0] 25)=au at x y J K L ⊢;rw[aq] at x J;clear h y;have X:=qx C A B au K (fun b=>S b∨b=f) (fun b d=>d.elim (fun d=>by have:=V b d;omega) (fun d=>by omega)) (.inl W);go_upto_region 2 with (go_at_call 30;refine X.mono ?_;rintro d z ⟨g,e,i,M,aE,aF,rfl,N,D,Y,E⟩)
 have Z:=(E.block f (by omega) (by omega)).trans x;have av:=E.size;have q:=Ej z (.cells #[.slice g e i] 25);have r:=Zb z (.cells #[.slice g e i] 25);have aa:=hidI D;obtain⟨ab,ac⟩:=Zn z.heap.size;have O:=hidI (N.below r);have P:=Y.below r;have Q:=hidI ((L.out.trans E).trans (Fr.of_below r));have R:=(r.block f (by omega)).trans Z;have aw:e<=30∧0<e:=by have:=N.len;have:=D.few;have:=zG D;omega
 obtain⟨ad,ax⟩:=aw;generalize z.alloc (.cells #[.slice g e i] 25)=ay at q O P Q R ⊢;rw[ac] at q ⊢;have ae:=Za q;have aG:f<ab:=by omega
 have aH:C<f:=by omega
 clear X N D Y E r Z ac av J K x L;go_wp2_with fail
 refine (p9 C A B ay P 12 (by omega) (by omega)).mono ?_;rintro d o ⟨az,rfl,ag,p⟩;have ai:=hidI (O.out.fr (p.weak (fun b d=>.inl (by rw[d];exact W))));have ak:=hidI (Q.out.trans p);have al:=(p.block ab ae (by omega)).trans q;have s:=(p.block f (by omega) (by omega)).trans R;have aI:=p.size;have aJ:=ah al;have aK:=Za al;clear P p q R O Q ae;cases az
 ·have aA:=ar s;have aB:=Za s;have aC:=ah s;have l:=af o f 0 (.slice g e i);have t:(o.setCell ⟨f,0,none⟩ (.slice g e i)).heap[f]?=some (.cells #[.slice g e i] 25):=(by simpa using aj s 0 (.slice g e i));have T:=ah t;have m:Hid (DT (o.setCell ⟨f,0,none⟩ (.slice g e i)) S g e i M∧dk (o.setCell ⟨f,0,none⟩ (.slice g e i)) C A B∧Fr (fun b=>b=C) w (o.setCell ⟨f,0,none⟩ (.slice g e i))):=⟨(ai.out.fr (l.weak (fun b d=>.inr d))).less (fun b d=>.inl (.inl d)),ag.frg l (fun b d=>by omega),ak.out.up2 l (fun b d=>by omega)⟩;clear l t;go_wp2_with fail
  refine bodyPost_ret (v:=.agg #[.slice g e i]) (by simp[results,results12,go_sem,T]) rfl ?_;exact⟨g,e,i,M,rfl,m.out.1,ad,aa.out.lens,m.out.2.1,m.out.2.2⟩
 ·have am:=oM C A B o ag g e i M (fun b=>S b∨b=f) (fun b d=>d.elim (fun d=>by have:=V b d;omega) (fun d=>by omega)) ai.out ax (by omega) aa.out.short;go_wp2_with fail
  refine am.mono ?_;rintro d u ⟨j,k,U,rfl,an,ao,ap,F⟩;have G:=(F.block f (by omega) (by omega)).trans s;have aL:=F.size;have aA:=ar G;have aB:=Za G;have aC:=ah G;have l:=af u f 0 (.slice j e k);have t:(u.setCell ⟨f,0,none⟩ (.slice j e k)).heap[f]?=some (.cells #[.slice j e k] 25):=(by simpa using aj G 0 (.slice j e k));have T:=ah t;have m:Hid (DT (u.setCell ⟨f,0,none⟩ (.slice j e k)) S j e k U∧(∀ I ∈ U,be I)∧dk (u.setCell ⟨f,0,none⟩ (.slice j e k)) C A B∧Fr (fun b=>b=C) w (u.setCell ⟨f,0,none⟩ (.slice j e k))):=⟨(an.fr (l.weak (fun b d=>.inr d))).less (fun b d=>.inl (.inl d)),ao,ap.frg l (fun b d=>by omega),(ak.out.trans F).up2 l (fun b d=>by omega)⟩;clear l t an ao ap F am;go_wp2_with fail
  refine bodyPost_ret (v:=.agg #[.slice j e k]) (by simp[results,results12,go_sem,T]) rfl ?_;exact⟨j,e,k,U,rfl,m.out.1,ad,m.out.2.1,m.out.2.2.1,m.out.2.2.2⟩
def A5 (w:World) (e:Ending) (w':World):Prop:=∃ (a:Option Addr) (n c:Nat) (ts:List TN) (key val:ByteArray),e=.returned (.tuple #[.agg #[.slice a n c],.string key,.string val])∧aw w' 0 w'.heap.size a n c ts∧n<=30∧(∀ x ∈ ts,be x)∧1<=key.size∧key.size<=1000∧val.size<=1000∧Below w.heap.size w w'
theorem oN (a:Option Addr) (n c:Nat) (bs:List Int) (w:World) (A B:Nat) (aO:B<=w.heap.size) (h:cd w A B a n c bs) :
  Calls prog 4 #[.slice a n c] w fun g aP=>A5 w g aP:=by
 obtain⟨f,aQ⟩:=Zn w.heap.size;have R:=Ej w (.cells #[.slice none 0 0] 25);have J:=Zb w (.cells #[.slice none 0 0] 25);have aR:(w.alloc (.cells #[.slice none 0 0] 25)).heap.size=w.heap.size+1:=by simp
 have S:=zr a n c bs (w.alloc (.cells #[.slice none 0 0] 25)) A B (by omega) (h.below (J.mono aO));go_enter func4,ntmps4;go_upto_region 1 with fail
 generalize w.alloc (.cells #[.slice none 0 0] 25)=a5 at R J aR S ⊢;go_wp2_with fail
 refine S.mono ?_;rintro g ad ⟨p,rfl,a6,T,K⟩;have aS:=K.size;have ae:=(K.block f (by omega)).trans (aQ ▸ R);have U:=hidI (J.trans (K.mono (by omega)));have aT:f<ad.heap.size:=by omega
 have aU:=T.lt;have ag:=qZ p A B ad T (fun l=>l=p∨l=f) (fun l g=>by omega) (.inl rfl);clear S K h R J;go_upto_region 3 with (go_at_call 12;refine ag.mono ?_;rintro g L ⟨b,d,e,q,rfl,ai,V,ak,al,M⟩)
 have am:=(M.block f (by omega) (by omega)).trans ae;have aV:=M.size;have W:=hidI (U.out.trans (M.below U.out.size (fun l g=>by omega)));have u:=Ej L (.cells #[.slice b d e] 25);have x:=Zb L (.cells #[.slice b d e] 25);obtain⟨N,an⟩:=Zn L.heap.size;have X:=hidI ak;have Y:=hidI (ai.below x);have Z:=al.below x;have aa:=(x.block f (by omega)).trans am;have O:=hidI (W.out.trans (x.mono W.out.size));generalize L.alloc (.cells #[.slice b d e] 25)=aW at u Y Z aa O ⊢;rw[an] at u ⊢;have ao:=Za u;have aX:p<N∧f<N:=by omega
 obtain⟨a7,a8⟩:=aX;have a9:f<p:=by omega
 clear ag ai ak al M ae am x U W an aV aS aT aU T;go_wp2_with fail
 refine (iK p A B aW Z).mono ?_;rintro g aY ⟨ab,rfl,y,ap,aq⟩;have a':=nT y;have au:1<=ab.size:=by unfold cy at y;simp at y;exact y.1
 go_wp2_with fail
 refine (rV p A B aY ap).mono ?_;rintro g aZ ⟨av,rfl,ba,ax,ay⟩;go_wp2_with fail
 refine (bo p A B aZ ax 20 (by omega) (by omega)).mono ?_;rintro g j ⟨P,rfl,bb,a0,az⟩;have z:=(aq.trans ay).trans az;have r:=(z.block N ao (by omega)).trans u;have k:=(z.block f (by omega) (by omega)).trans aa;have ac:=hidI (Y.out.fr (z.weak (fun l g=>.inl g)));have s:=hidI (O.out.trans (z.below O.out.size (fun l g=>by omega)));clear z aq ay az ap ax a0 y Y O u aa ao Z;by_cases a1:P=0
 ·subst a1;have aA:=ah r;have aB:=Za r;have aC:=ar k;have aD:=Za k;have aE:=ah k;have i:=af j f 0 (.slice b d e);have m:(j.setCell ⟨f,0,none⟩ (.slice b d e)).heap[f]?=some (.cells #[.slice b d e] 25):=(by simpa using aj k 0 (.slice b d e));have C:=ah m;have o:Hid (aw (j.setCell ⟨f,0,none⟩ (.slice b d e)) 0 (j.setCell ⟨f,0,none⟩ (.slice b d e)).heap.size b d e q∧Below w.heap.size w (j.setCell ⟨f,0,none⟩ (.slice b d e))):=(by obtain⟨aF,aG,D,E,F⟩:=ac.out;refine⟨?_,s.out.trans (i.below s.out.size (fun l g=>by omega))⟩;have G:=F.keep (w':=j.setCell ⟨f,0,none⟩ (.slice b d e)) (fun H aH aI=>i.block H (by omega) (fun g=>by have:=D f (.inr rfl);omega));exact G.up (En _) (Eo E i.size));clear i m;go_wp2_with fail
  refine bodyPost_ret (v:=.tuple #[.agg #[.slice b d e],.string ⟨#[110,105,110,101,99,104,97,114,115]⟩,.string av]) (by simp[results,results4,go_sem,C]) rfl ?_;exact⟨b,d,e,q,_,_,rfl,o.out.1,V,X.out,by decide,by decide,by omega,o.out.2⟩
 ·have bc:((P:Int) == 0)=false:=(by simp;omega);by_cases a2:P=1
  ·subst a2;have aJ:=fc ⟨#[118]⟩ (by decide) 401 (by omega) j;go_upto_region 10 with (go_at_call 16;refine aJ.mono ?_;rintro g t ⟨aK,rfl,aL,I⟩)
   have a3:aK.size<=1000:=(by rw[aL];show 1*401<=1000;omega);have aM:=(I.block N (Za r)).trans r;have Q:=(I.block f (Za k)).trans k;have a4:=hidI (ac.out.below I);have aN:=hidI (s.out.trans (I.mono s.out.size));clear aJ aL I;have aA:=ah aM;have aB:=Za aM;have aC:=ar Q;have aD:=Za Q;have aE:=ah Q;have i:=af t f 0 (.slice b d e);have m:(t.setCell ⟨f,0,none⟩ (.slice b d e)).heap[f]?=some (.cells #[.slice b d e] 25):=(by simpa using aj Q 0 (.slice b d e));have C:=ah m;have o:Hid (aw (t.setCell ⟨f,0,none⟩ (.slice b d e)) 0 (t.setCell ⟨f,0,none⟩ (.slice b d e)).heap.size b d e q∧Below w.heap.size w (t.setCell ⟨f,0,none⟩ (.slice b d e))):=(by obtain⟨aF,aG,D,E,F⟩:=a4.out;refine⟨?_,aN.out.trans (i.below aN.out.size (fun l g=>by omega))⟩;have G:=F.keep (w':=t.setCell ⟨f,0,none⟩ (.slice b d e)) (fun H aH aI=>i.block H (by omega) (fun g=>by have:=D f (.inr rfl);omega));exact G.up (En _) (Eo E i.size));clear i m;go_wp2_with fail
   refine bodyPost_ret (v:=.tuple #[.agg #[.slice b d e],.string ab,.string aK]) (by simp[results,results4,go_sem,C]) rfl ?_;exact⟨b,d,e,q,_,_,rfl,o.out.1,V,X.out,au,by omega,a3,o.out.2⟩
  ·have bd:((P:Int) == 1)=false:=(by simp;omega);have aA:=ah r;have aB:=Za r;have aC:=ar k;have aD:=Za k;have aE:=ah k;have i:=af j f 0 (.slice b d e);have m:(j.setCell ⟨f,0,none⟩ (.slice b d e)).heap[f]?=some (.cells #[.slice b d e] 25):=(by simpa using aj k 0 (.slice b d e));have C:=ah m;have o:Hid (aw (j.setCell ⟨f,0,none⟩ (.slice b d e)) 0 (j.setCell ⟨f,0,none⟩ (.slice b d e)).heap.size b d e q∧Below w.heap.size w (j.setCell ⟨f,0,none⟩ (.slice b d e))):=(by obtain⟨aF,aG,D,E,F⟩:=ac.out;refine⟨?_,s.out.trans (i.below s.out.size (fun l g=>by omega))⟩;have G:=F.keep (w':=j.setCell ⟨f,0,none⟩ (.slice b d e)) (fun H aH aI=>i.block H (by omega) (fun g=>by have:=D f (.inr rfl);omega));exact G.up (En _) (Eo E i.size));clear i m;go_wp2_with fail
   refine bodyPost_ret (v:=.tuple #[.agg #[.slice b d e],.string ab,.string av]) (by simp[results,results4,go_sem,C]) rfl ?_;exact⟨b,d,e,q,_,_,rfl,o.out.1,V,X.out,au,by omega,by omega,o.out.2⟩
structure sh (w:World) (S:Nat->Prop) (a:Option Addr) (n c:Nat) (ts:List TN) (u:T):Prop where
 mem:DT w S a n c ts
 st:fO ts u
 lens:∀ x ∈ ts,be x
theorem sh.good (h:sh w S a n c ts u):n<=1000∧bl u.slots∧u.slots.all (fun e=>cy e.1)=true∧u.slots.length<=4*n:=by
 obtain⟨l,⟨m,o⟩,f,p,q,r,g,i⟩:=bE h.st.top;have s:=h.mem.len;obtain⟨⟨t,v⟩,b,j,x,y,z,A,_⟩:=h.st.ok;have k:b=u:=by have d:=dQ h.st.ok;rw[j,h.st.top] at d;exact (Option.some.inj d).symm
 subst k;have:=dY b ⟨true,f⟩;exact⟨by omega,g,i,by omega⟩
theorem zJ (h:sh w S a n c ts u) :
  Calls prog 8 #[.agg #[.slice a n c],.string ⟨#[]⟩,.string ⟨#[]⟩] w fun b d=>js u.slots w b d:=by
 obtain⟨g,i,m,j,k⟩:=h.mem;refine (tX ts ⟨#[]⟩ ⟨#[]⟩ a n c g i w j k).mono ?_;rintro b d ⟨o,l,e⟩;have f:=dQ h.st.ok;rw[h.st.top] at f;rw[l.2 h.st.ok,qe,<-Option.some.inj f] at e;exact e
theorem wh (zs:List (ByteArray × ByteArray × Int)):aa aG zs=aa aG (ms (zs.map gD)):=by
 induction zs with
 | nil=>rfl
 | cons b c a=>simp[aa,ms,gD,aG] at a ⊢;exact a
theorem DS (ts:List TN):AY ts=[]∨∃ u,fO (AY ts) u∧(AY ts).length=ts.length:=by
 unfold AY;cases ht:gY ts with
 | none=>exact .inl rfl
 |some u=>
  simp only[];split;·exact .inl rfl
  ·rename_i e;obtain⟨f,_,g,l,_⟩:=bE ht;obtain⟨a,b⟩:=vL ((fg ts).2 f);have h:a=u:=(by have c:=b.top;rw[ht] at c;exact (Option.some.inj c).symm);subst h;obtain⟨i,_,j⟩:=b.place (s:=nX a.nums) (ui _) (fun k d=>Cy d (by have:=rq a (qu a b.neat) ⟨true,g⟩ k d;simp[ir] at this;omega)) (by simpa using e);exact .inr ⟨_,i,j⟩
theorem Ea {A B:Nat} (l:B<=w.heap.size) (f:aw w A B a n c ts) {p:Int} {k:Nat} (E:k<n) (m:∀ b,b<k->(ts.getD b dT).page≠p) (o:(ts.getD k dT).page=p) :
  Calls prog 10 #[.agg #[.slice a n c],.int .i64 p] w fun u v=>u=.returned (.int .i64 (k:Int))∧Below w.heap.size w v:=by
 have F:=f.2.1;have x:=f.2.2.1;unfold maxLen at x;have e:=Ej w (.cells #[.slice a n c] 25);have d:=Zb w (.cells #[.slice a n c] 25);obtain⟨q,g⟩:=Zn (w.alloc (.cells #[.slice a n c] 25));have y:Hid (aw q A B a n c ts):=by rw[g] at d;exact f.below (d.mono l)
 obtain⟨G,h⟩:=Zn w.heap.size;rw[g] at e d;rw[h] at e d l;have r:Hid ((∀ b,b<k->(ts.getD b dT).page≠p)∧(ts.getD k dT).page=p):=⟨m,o⟩;have H:=ah e;have I:=Za e;clear f m o;go_enter func10,ntmps10;go_upto_region 1 with fail
 try rw[g,h]
 clear g e;go_wp2_with fail
 go_loopw [5] (fun j wr=>∃ b:Nat,b<=k∧j=.int .i64 b∧wr=q) (fun j _=>k - (intOf j).toNat)
 case atStart=>exact⟨0,En _,rfl,rfl⟩
 case round =>
  obtain⟨b,J,rfl,rfl⟩:=hrel;obtain⟨z,K,rfl,L,M,N,O,P,Q,R,S,on,T,U,V,W,s⟩:=y.out.at (i:=b) (by omega);have t:=s.c1;have X:z<wr.heap.size:=(by have:=d.size;omega);have Y:(b:Int)<(n:Int):=(by omega);clear s;by_cases C:b=k
  ·subst C;rw[r.out.2] at t;have Z:(p == p)=true:=(by simp);go_wp2_with fail
   go_ret;exact⟨rfl,by rw[h];exact d⟩
  ·have D:((ts.getD b dT).page == p)=false:=(by have:=r.out.1 b (by omega);simpa using this);generalize (ts.getD b dT).page=aa at t D;go_wp2_with fail
   go_roundw
   case rel=>exact⟨b+1,by omega,by go_num,trivial⟩
   case measure=>simp[intOf];omega
def Eb (ps rs:List TN):Prop:=D9 ps rs∧(rs.getD 0 dT).page=0∧1<=rs.length∧rs.length<=1000∧∀ n ∈ rs,n.over.length=n.vals.length
def Ee (ps:List TN) (bad:Prop) (N:Nat) (w:World) (e:Ending) (w':World):Prop:=∃ (ok:Bool) (oa:Option Addr) (on oc:Nat) (rs:List TN),e=.returned (.agg #[.bool ok,.slice oa on oc])∧aw w' N w'.heap.size oa on oc rs∧(ok=false->bad)∧(ok=true->Eb ps rs)∧Below w.heap.size w w'
theorem Ec (h:sh w S a n c ts u) {key val:ByteArray} (B:1<=key.size) (C:val.size<=1000) (q:u.slots.length<=400) :
  Calls prog 6 #[.agg #[.slice a n c],.string key,.string val] w fun b i=>Ee ts (8<key.size∨400<val.size) w.heap.size w b i:=by
 have D:=h.good.1;obtain⟨r,s,E,t,f⟩:=h.mem;refine (ot ts a n c r s w t f (by omega) h.lens key val (by omega)).mono ?_;rintro b i ⟨j,k,F,d,e,l⟩;by_cases v:8<key.size∨400<val.size;·have x:dx ts key val=(false,ts):=(by unfold dx;rw[h.st.top];simp only[];rw[if_neg];rintro ⟨q1,q2,_⟩;have:=nT q1;omega);rw[x] at d e;have y:=f.1;refine⟨false,j,_,k,ts,d,e.nodes rfl (by rw[y];exact f),fun _=>v,(fun b=>by cases b),l⟩
 ·have m:cy key=true:=(by unfold cy;simp;omega);have o:val.size<=400:=(by omega);obtain⟨z,g,G⟩:=h.st.put m o q;rw[z] at d e;obtain⟨_,_,p,_,_,H,_,A⟩:=bE g.top;obtain⟨q1,q2,q3⟩:=D4 h.st o m;exact⟨true,j,_,k,_,d,e.nodesF rfl (AU _ ⟨true,p⟩ g.neat A 0 (by omega)),(fun b=>by cases b),fun _=>⟨q1,q2,q3,g.ok.1.2,yM _ ⟨true,p⟩ 0⟩,l⟩
theorem Ed (h:sh w S a n c ts u) (key:ByteArray) (y:u.slots.length<=400) :
  Calls prog 9 #[.agg #[.slice a n c],.string key] w fun b j=>Ee ts True w.heap.size w b j:=by
 have z:=h.good.1;obtain⟨p,q,A,r,f⟩:=h.mem;refine (vH ts a n c p q w r f (by omega) h.lens key).mono ?_;rintro b j ⟨k,l,B,d,e,m⟩;by_cases g:jV key u.slots;·obtain⟨s,i,C⟩:=h.st.del g (by omega);rw[s] at d e;obtain⟨_,_,o,_,_,D,_,t⟩:=bE i.top;obtain⟨q1,q2,q3⟩:=D5 h.st g;exact⟨true,k,_,l,_,d,e.nodesF rfl (AU _ ⟨true,o⟩ i.neat t 0 (by omega)),(fun b=>by cases b),fun _=>⟨q1,q2,q3,i.ok.1.2,yM _ ⟨true,o⟩ 0⟩,m⟩
 ·have v:gG ts key=(false,ts):=(by unfold gG;rw[h.st.top];simp only[];rw[if_neg (fun b=>g (gz.1 b))]);rw[v] at d e;have x:=f.1;exact⟨false,k,_,l,ts,d,e.nodes rfl (by rw[x];exact f),fun _=>trivial,(fun b=>by cases b),m⟩
end Go.Proofs.YtggmghkcdfjdoaaGreat
