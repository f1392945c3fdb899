import Derived.Test.YtgcedpmagmmikaaGreatHTks
import Derived.Test.YtgcedpmagmmikaaGreatHTsa
import Derived.Test.YtgcedpmagmmikaaGreatHTui
import Derived.Test.YtgcedpmagmmikaaGreatHTxh
import Derived.Test.YtgcedpmagmmikaaGreatHTwf
import Derived.Test.YtgcedpmagmmikaaGreatHDtb
import Derived.Deep.LoopGhost
import Derived.Deep.DeepCutAuto
namespace Go.Proofs.YtgcedpmagmmikaaGreat
set_option maxHeartbeats 16000000
open Go.RowKit Tryz
set_option linter.unusedVariables false
set_option linter.unusedSimpArgs false
set_option maxRecDepth 100000
variable {K N c mc mm n q tc tn:Nat} {S:Nat->Prop} {a ma ta:Option Addr} {ts:List TN} {u:T} {w w' wr:World}
theorem zG {m:Nat} {a:List Int} (h:dB ts u m a):0<ts.length:=by
 have:=h.st.ok.1.1;omega
theorem qZ (C A B:Nat) (w:World) (h:dk w C A B) (S:Nat->Prop) (U:∀ b,S b->b<w.heap.size) (V:S C) :
  Calls prog 17 #[.pointer (some ⟨C,0,none⟩)] w fun d w'=>∃ (a:Option Addr) (n c:Nat) (ts:List TN),d=.returned (.agg #[.slice a n c])∧DT w' S a n c ts∧n<=30∧(∀ G ∈ ts,be G)∧dk w' C A B∧Fr (fun b=>b=C) w w':=by
 have aC:=h.lt;obtain⟨N,ap⟩:=Zn w.heap.size;have u:=DS w (.cells #[.slice none 0 0] 25);have x:=Zb w (.cells #[.slice none 0 0] 25);have H:(w.alloc (.cells #[.slice none 0 0] 25)).heap.size=w.heap.size+1:=by simp
 have I:=h.below x;have J:Hid (Fr (fun b=>b=C) w (w.alloc (.cells #[.slice none 0 0] 25))):=Fr.of_below x;go_enter func17,ntmps17;go_upto_region 1 with fail
 generalize w.alloc (.cells #[.slice none 0 0] 25)=aq at u x H I J ⊢;rw[ap] at u H;clear h x;have W:=qx C A B aq I (fun b=>S b∨b=N) (fun b d=>d.elim (fun d=>by have:=U b d;omega) (fun d=>by omega)) (.inl V);go_upto_region 2 with (go_at_call 36;refine W.mono ?_;rintro d y ⟨f,e,g,K,aD,aE,rfl,L,z,X,D⟩)
 have Y:=(D.block N (by omega) (by omega)).trans u;have au:=D.size;have p:=DS y (.cells #[.slice f e g] 25);have q:=Zb y (.cells #[.slice f e g] 25);have Z:=hidI z;obtain⟨aa,ab⟩:=Zn y.heap.size;have M:=hidI (L.below q);have O:=X.below q;have P:=hidI ((J.out.trans D).trans (Fr.of_below q));have Q:=(q.block N (by omega)).trans Y;have av:e<=30∧0<e:=by have:=L.len;have:=z.few;have:=zG z;omega
 obtain⟨ac,aw⟩:=av;generalize y.alloc (.cells #[.slice f e g] 25)=ax at p M O P Q ⊢;rw[ab] at p ⊢;have ad:=Za p;have aF:N<aa:=by omega
 have aG:C<N:=by omega
 clear W L z X D q Y ab au H I u J;go_wp2_with fail
 refine (p9 C A B ax O 12 (by omega) (by omega)).mono ?_;rintro d m ⟨ay,rfl,ae,o⟩;have ag:=hidI (M.out.fr (o.weak (fun b d=>.inl (by rw[d];exact V))));have ai:=hidI (P.out.trans o);have ak:=(o.block aa ad (by omega)).trans p;have r:=(o.block N (by omega) (by omega)).trans Q;have aH:=o.size;have aI:=ah ak;have aJ:=Za ak;clear O o p Q M P ad;cases ay
 ·have az:=ar r;have aA:=Za r;have aB:=ah r;have k:=af m N 0 (.slice f e g);have s:(m.setCell ⟨N,0,none⟩ (.slice f e g)).heap[N]?=some (.cells #[.slice f e g] 25):=(by simpa using aj r 0 (.slice f e g));have R:=ah s;have l:Hid (DT (m.setCell ⟨N,0,none⟩ (.slice f e g)) S f e g K∧dk (m.setCell ⟨N,0,none⟩ (.slice f e g)) C A B∧Fr (fun b=>b=C) w (m.setCell ⟨N,0,none⟩ (.slice f e g))):=⟨(ag.out.fr (k.weak (fun b d=>.inr d))).less (fun b d=>.inl (.inl d)),ae.frg k (fun b d=>by omega),ai.out.up2 k (fun b d=>by omega)⟩;clear k s;go_wp2_with fail
  refine bodyPost_ret (v:=.agg #[.slice f e g]) (by simp[results,results17,go_sem,R]) rfl ?_;exact⟨f,e,g,K,rfl,l.out.1,ac,Z.out.lens,l.out.2.1,l.out.2.2⟩
 ·have al:=oM C A B m ae f e g K (fun b=>S b∨b=N) (fun b d=>d.elim (fun d=>by have:=U b d;omega) (fun d=>by omega)) ag.out aw (by omega) Z.out.short;go_wp2_with fail
  refine al.mono ?_;rintro d t ⟨i,j,T,rfl,am,an,ao,E⟩;have F:=(E.block N (by omega) (by omega)).trans r;have aK:=E.size;have az:=ar F;have aA:=Za F;have aB:=ah F;have k:=af t N 0 (.slice i e j);have s:(t.setCell ⟨N,0,none⟩ (.slice i e j)).heap[N]?=some (.cells #[.slice i e j] 25):=(by simpa using aj F 0 (.slice i e j));have R:=ah s;have l:Hid (DT (t.setCell ⟨N,0,none⟩ (.slice i e j)) S i e j T∧(∀ G ∈ T,be G)∧dk (t.setCell ⟨N,0,none⟩ (.slice i e j)) C A B∧Fr (fun b=>b=C) w (t.setCell ⟨N,0,none⟩ (.slice i e j))):=⟨(am.fr (k.weak (fun b d=>.inr d))).less (fun b d=>.inl (.inl d)),an,ao.frg k (fun b d=>by omega),(ai.out.trans E).up2 k (fun b d=>by omega)⟩;clear k s am an ao E al;go_wp2_with fail
  refine bodyPost_ret (v:=.agg #[.slice i e j]) (by simp[results,results17,go_sem,R]) rfl ?_;exact⟨i,e,j,T,rfl,l.out.1,ac,l.out.2.1,l.out.2.2.1,l.out.2.2.2⟩
def A5 (w:World) (e:Ending) (w':World):Prop:=∃ (a:Option Addr) (n c:Nat) (ts:List TN) (key val:ByteArray),e=.returned (.tuple #[.agg #[.slice a n c],.string key,.string val])∧aw w' 0 w'.heap.size a n c ts∧n<=30∧(∀ x ∈ ts,be x)∧1<=key.size∧key.size<=1000∧val.size<=1000∧Below w.heap.size w w'
theorem oN (a:Option Addr) (n c:Nat) (bs:List Int) (w:World) (A B:Nat) (aO:B<=w.heap.size) (h:cd w A B a n c bs) :
  Calls prog 4 #[.slice a n c] w fun f w'=>A5 w f w':=by
 obtain⟨N,aP⟩:=Zn w.heap.size;have R:=DS w (.cells #[.slice none 0 0] 25);have I:=Zb w (.cells #[.slice none 0 0] 25);have aQ:(w.alloc (.cells #[.slice none 0 0] 25)).heap.size=w.heap.size+1:=by simp
 have S:=zr a n c bs (w.alloc (.cells #[.slice none 0 0] 25)) A B (by omega) (h.below (I.mono aO));go_enter func4,ntmps4;go_upto_region 1 with fail
 generalize w.alloc (.cells #[.slice none 0 0] 25)=a4 at R I aQ S ⊢;go_wp2_with fail
 refine S.mono ?_;rintro f ad ⟨o,rfl,a5,T,J⟩;have aR:=J.size;have ae:=(J.block N (by omega)).trans (aP ▸ R);have U:=hidI (I.trans (J.mono (by omega)));have aS:N<ad.heap.size:=by omega
 have aT:=T.lt;have ag:=qZ o A B ad T (fun k=>k=o∨k=N) (fun k f=>by omega) (.inl rfl);clear S J h R I;go_upto_region 3 with (go_at_call 17;refine ag.mono ?_;rintro f K ⟨b,d,e,p,rfl,ai,V,ak,al,L⟩)
 have am:=(L.block N (by omega) (by omega)).trans ae;have aU:=L.size;have W:=hidI (U.out.trans (L.below U.out.size (fun k f=>by omega)));have u:=DS K (.cells #[.slice b d e] 25);have x:=Zb K (.cells #[.slice b d e] 25);obtain⟨M,an⟩:=Zn K.heap.size;have X:=hidI ak;have Y:=hidI (ai.below x);have Z:=al.below x;have aa:=(x.block N (by omega)).trans am;have O:=hidI (W.out.trans (x.mono W.out.size));generalize K.alloc (.cells #[.slice b d e] 25)=aV at u Y Z aa O ⊢;rw[an] at u ⊢;have ao:=Za u;have aW:o<M∧N<M:=by omega
 obtain⟨a6,a7⟩:=aW;have a8:N<o:=by omega
 clear ag ai ak al L ae am x U W an aU aR aS aT T;go_wp2_with fail
 refine (iK o A B aV Z).mono ?_;rintro f aX ⟨ab,rfl,y,ap,aq⟩;have a9:=nT y;have au:1<=ab.size:=by unfold cy at y;simp at y;exact y.1
 go_wp2_with fail
 refine (rV o A B aX ap).mono ?_;rintro f aY ⟨av,rfl,a',ax,ay⟩;go_wp2_with fail
 refine (bo o A B aY ax 20 (by omega) (by omega)).mono ?_;rintro f i ⟨P,rfl,ba,aZ,az⟩;have z:=(aq.trans ay).trans az;have r:=(z.block M ao (by omega)).trans u;have j:=(z.block N (by omega) (by omega)).trans aa;have ac:=hidI (Y.out.fr (z.weak (fun k f=>.inl f)));have s:=hidI (O.out.trans (z.below O.out.size (fun k f=>by omega)));clear z aq ay az ap ax aZ y Y O u aa ao Z;by_cases a0:P=0
 ·subst a0;have aA:=ah r;have aB:=Za r;have aC:=ar j;have aD:=Za j;have aE:=ah j;have g:=af i N 0 (.slice b d e);have l:(i.setCell ⟨N,0,none⟩ (.slice b d e)).heap[N]?=some (.cells #[.slice b d e] 25):=(by simpa using aj j 0 (.slice b d e));have C:=ah l;have m:Hid (aw (i.setCell ⟨N,0,none⟩ (.slice b d e)) 0 (i.setCell ⟨N,0,none⟩ (.slice b d e)).heap.size b d e p∧Below w.heap.size w (i.setCell ⟨N,0,none⟩ (.slice b d e))):=(by obtain⟨aF,aG,D,E,F⟩:=ac.out;refine⟨?_,s.out.trans (g.below s.out.size (fun k f=>by omega))⟩;have G:=F.keep (w':=i.setCell ⟨N,0,none⟩ (.slice b d e)) (fun q aH aI=>g.block q (by omega) (fun f=>by have:=D N (.inr rfl);omega));exact G.up (D0 _) (DX E g.size));clear g l;go_wp2_with fail
  refine bodyPost_ret (v:=.tuple #[.agg #[.slice b d e],.string ⟨#[110,105,110,101,99,104,97,114,115]⟩,.string av]) (by simp[results,results4,go_sem,C]) rfl ?_;exact⟨b,d,e,p,_,_,rfl,m.out.1,V,X.out,by decide,by decide,by omega,m.out.2⟩
 ·have bb:((P:Int) == 0)=false:=(by simp;omega);by_cases a1:P=1
  ·subst a1;have aJ:=fc ⟨#[118]⟩ (by decide) 401 (by omega) i;go_upto_region 10 with (go_at_call 21;refine aJ.mono ?_;rintro f t ⟨aK,rfl,aL,H⟩)
   have a2:aK.size<=1000:=(by rw[aL];show 1*401<=1000;omega);have aM:=(H.block M (Za r)).trans r;have Q:=(H.block N (Za j)).trans j;have a3:=hidI (ac.out.below H);have aN:=hidI (s.out.trans (H.mono s.out.size));clear aJ aL H;have aA:=ah aM;have aB:=Za aM;have aC:=ar Q;have aD:=Za Q;have aE:=ah Q;have g:=af t N 0 (.slice b d e);have l:(t.setCell ⟨N,0,none⟩ (.slice b d e)).heap[N]?=some (.cells #[.slice b d e] 25):=(by simpa using aj Q 0 (.slice b d e));have C:=ah l;have m:Hid (aw (t.setCell ⟨N,0,none⟩ (.slice b d e)) 0 (t.setCell ⟨N,0,none⟩ (.slice b d e)).heap.size b d e p∧Below w.heap.size w (t.setCell ⟨N,0,none⟩ (.slice b d e))):=(by obtain⟨aF,aG,D,E,F⟩:=a3.out;refine⟨?_,aN.out.trans (g.below aN.out.size (fun k f=>by omega))⟩;have G:=F.keep (w':=t.setCell ⟨N,0,none⟩ (.slice b d e)) (fun q aH aI=>g.block q (by omega) (fun f=>by have:=D N (.inr rfl);omega));exact G.up (D0 _) (DX E g.size));clear g l;go_wp2_with fail
   refine bodyPost_ret (v:=.tuple #[.agg #[.slice b d e],.string ab,.string aK]) (by simp[results,results4,go_sem,C]) rfl ?_;exact⟨b,d,e,p,_,_,rfl,m.out.1,V,X.out,au,by omega,a2,m.out.2⟩
  ·have bc:((P:Int) == 1)=false:=(by simp;omega);have aA:=ah r;have aB:=Za r;have aC:=ar j;have aD:=Za j;have aE:=ah j;have g:=af i N 0 (.slice b d e);have l:(i.setCell ⟨N,0,none⟩ (.slice b d e)).heap[N]?=some (.cells #[.slice b d e] 25):=(by simpa using aj j 0 (.slice b d e));have C:=ah l;have m:Hid (aw (i.setCell ⟨N,0,none⟩ (.slice b d e)) 0 (i.setCell ⟨N,0,none⟩ (.slice b d e)).heap.size b d e p∧Below w.heap.size w (i.setCell ⟨N,0,none⟩ (.slice b d e))):=(by obtain⟨aF,aG,D,E,F⟩:=ac.out;refine⟨?_,s.out.trans (g.below s.out.size (fun k f=>by omega))⟩;have G:=F.keep (w':=i.setCell ⟨N,0,none⟩ (.slice b d e)) (fun q aH aI=>g.block q (by omega) (fun f=>by have:=D N (.inr rfl);omega));exact G.up (D0 _) (DX E g.size));clear g l;go_wp2_with fail
   refine bodyPost_ret (v:=.tuple #[.agg #[.slice b d e],.string ab,.string av]) (by simp[results,results4,go_sem,C]) rfl ?_;exact⟨b,d,e,p,_,_,rfl,m.out.1,V,X.out,au,by omega,by omega,m.out.2⟩
theorem A8 (key val:ByteArray) (zs:List (ByteArray × ByteArray × Int)):ch key (ej key val zs)=some (key,val,0):=by
 unfold ej ch;have c:(zs.take (bm key zs)).find? (fun a=>decide (a.1=key))=none:=by rw[List.find?_eq_none];intro a d;have b:=mP zs a d;simp only[D1];intro e;rw[e] at b;exact aQ key b
 simp[List.find?_append,c]
structure sh (w:World) (S:Nat->Prop) (a:Option Addr) (n c:Nat) (ts:List TN) (u:T):Prop where
 mem:DT w S a n c ts
 st:fO ts u
 lens:∀ x ∈ ts,be x
theorem sh.good (h:sh w S a n c ts u):n<=1000∧bl u.slots∧u.slots.all (fun e=>cy e.1)=true∧u.slots.length<=4*n:=by
 obtain⟨l,⟨m,o⟩,f,p,q,r,g,i⟩:=bE h.st.top;have s:=h.mem.len;obtain⟨⟨t,v⟩,b,j,x,y,z,A,_⟩:=h.st.ok;have k:b=u:=by have d:=dQ h.st.ok;rw[j,h.st.top] at d;exact (Option.some.inj d).symm
 subst k;have:=dY b ⟨true,f⟩;exact⟨by omega,g,i,by omega⟩
theorem sh.fr (h:sh w S a n c ts u) (b:Fr S w w'):sh w' S a n c ts u:=⟨h.mem.fr b,h.st,h.lens⟩
theorem sh.below (h:sh w S a n c ts u) (b:Below w.heap.size w w'):sh w' S a n c ts u:=⟨h.mem.below b,h.st,h.lens⟩
theorem B1 (h:fO ts u):cF ts∧∀ a b,gr ts (ts.length+1) 0 (fun _=>false)=some (a,ts.length,b)->a=u:=by
 have c:=(fg ts).1 h.ok;refine⟨c,fun a b e=>?_⟩;have d:=iZ c e;rw[h.top] at d;exact (Option.some.inj d).symm
theorem yC (h:sh w S a n c ts u) (key:ByteArray) :
  Calls prog 9 #[.agg #[.slice a n c],.string key] w fun b w'=>b=.returned (.agg #[.bool (ch key u.slots).isSome,.string (tW (ch key u.slots))])∧Below w.heap.size w w':=by
 obtain⟨e,f,r,g,i⟩:=h.mem;obtain⟨j,k⟩:=B1 h.st;refine (vR ts key a n c e f w g i).mono ?_;rintro b w' ⟨s,l,d,m⟩;obtain⟨o,p,q,rfl⟩:=l.2 j;rw[k o p q] at d;exact⟨d,m⟩
theorem A9 (h:sh w S a n c ts u) :
  Calls prog 14 #[.agg #[.slice a n c],.string ⟨#[]⟩,.string ⟨#[]⟩] w fun b w'=>js u.slots w b w':=by
 obtain⟨e,f,q,g,i⟩:=h.mem;obtain⟨j,k⟩:=B1 h.st;refine (uc ts ⟨#[]⟩ ⟨#[]⟩ a n c e f w g i).mono ?_;rintro b w' ⟨r,l,d⟩;obtain⟨m,o,p,rfl⟩:=l.2 j;rw[k m o p,qe] at d;exact d
theorem zJ (h:sh w S a n c ts u) :
  Calls prog 7 #[.agg #[.slice a n c],.string ⟨#[]⟩,.string ⟨#[]⟩] w fun b w'=>js u.slots w b w':=by
 obtain⟨f,g,l,i,j⟩:=h.mem;refine (tX ts ⟨#[]⟩ ⟨#[]⟩ a n c f g w i j).mono ?_;rintro b w' ⟨m,k,d⟩;have e:=dQ h.st.ok;rw[h.st.top] at e;rw[k.2 h.st.ok,qe,<-Option.some.inj e] at d;exact d
theorem xE (h:sh w S a n c ts u) :
  Calls prog 5 #[.agg #[.slice a n c]] w fun b w'=>b=.returned (.bool true)∧Below w.heap.size w w':=by
 obtain⟨d,e,k,f,g⟩:=h.mem;refine (dZ ts a n c d e w f g).mono ?_;rintro b w' ⟨l,rfl,i,j⟩;rw[i.2 h.st.ok];exact⟨rfl,j⟩
theorem zK (h:sh w S a n c ts u) :
  Calls prog 15 #[.agg #[.slice a n c]] w fun b w'=>b=.returned (.bool true)∧Below w.heap.size w w':=by
 obtain⟨d,e,k,f,g⟩:=h.mem;refine (qK ts a n c d e w f g).mono ?_;rintro b w' ⟨l,rfl,i,j⟩;rw[i.2 ((fg ts).1 h.st.ok)];exact⟨rfl,j⟩
theorem wg {base:Nat} {us:Nat->Nat->Value} (h:cj w base (.slice a (u.flat 0).length c) ((u.flat 0).map TN.nd) us) (d:fO (u.flat 0) u) (f:∀ b,S b->b<base):sh w S a (u.flat 0).length c (u.flat 0) u:=by
 obtain⟨_,_,e,l,_,m,_,g⟩:=bE d.top;refine⟨⟨base,w.heap.size,fun b i=>.inl (f b i),DU _,h.nodesF rfl (AU u ⟨true,e⟩ d.neat g 0 (by omega))⟩,d,fun j k=>fj (ij u ⟨true,e⟩ 0 j k)⟩
theorem BH {S':Nat->Prop} (h:sh w S a n c ts u) (k:∀ g,S' g->g<w.heap.size) {key val:ByteArray} (l:cy key=true) (m:val.size<=400) (o:u.slots.length<=400) :
  Calls prog 6 #[.agg #[.slice a n c],.string key,.string val] w fun e w'=>∃ b on d p f,e=.returned (.agg #[.bool true,.slice b on d])∧sh w' S' b on d p f∧f.slots=ej key val u.slots∧Below w.heap.size w w':=by
 have A:=h.good.1;obtain⟨q,r,B,s,t⟩:=h.mem;obtain⟨v,x,y⟩:=h.st.put l m o;refine (ot ts a n c q r w s t (by omega) h.lens key val (by omega)).mono ?_;rintro e w' ⟨b,d,C,i,j,z⟩;rw[v] at i j;exact⟨b,_,d,_,_,i,wg j x k,y,z⟩
theorem BI {S':Nat->Prop} (h:sh w S a n c ts u) (m:∀ f,S' f->f<w.heap.size) (key:ByteArray) (B:u.slots.length<=400) :
  Calls prog 10 #[.agg #[.slice a n c],.string key] w fun g w'=>∃ d on e s k,g=.returned (.agg #[.bool (ch key u.slots).isSome,.slice d on e])∧sh w' S' d on e s k∧k.slots.map gD=rL key (u.slots.map gD)∧k.slots.length<=u.slots.length∧Below w.heap.size w w':=by
 have o:=h.good;obtain⟨t,v,C,x,p⟩:=h.mem;refine (vH ts a n c t v w x p (by omega) h.lens key).mono ?_;rintro g w' ⟨d,e,D,i,j,q⟩;by_cases b:jV key u.slots
 ·obtain⟨l,y,r⟩:=h.st.del b (by omega);rw[l] at i j;refine⟨d,_,e,_,_,by rw[gz.2 b];exact i,wg j y m,?_,?_,q⟩;·rw[r,xW key _ o.2.1 b]
  ·rw[r];have:=jS (dO u.slots o.2.1 b).1;omega
 ·have l:=h.st.keep b;rw[l] at i j;have z:(ch key u.slots).isSome=false:=by
   cases A:(ch key u.slots).isSome;·rfl
   ·exact absurd (gz.1 A) b
  refine⟨d,_,e,ts,u,by rw[z];exact i,⟨⟨w.heap.size,w'.heap.size,fun f g=>.inl (m f g),DU _,j.nodesF rfl (yB p)⟩,h.st,h.lens⟩,?_,DU _,q⟩;rw[vu key u.slots b]
theorem wh (zs:List (ByteArray × ByteArray × Int)):aa aG zs=aa aG (ms (zs.map gD)):=by
 induction zs with
 | nil=>rfl
 | cons b c a=>simp[aa,ms,gD,aG] at a ⊢;exact a
theorem Ba {zs:List (ByteArray × ByteArray × Int)} {e:Ending} (h:js zs w e w'):∃ a c,e=.returned (.slice a zs.length c)∧tv w' w'.heap.size a zs.length c (zs.map gD)∧Below w.heap.size w w':=by
 obtain⟨a,c,d,b,f⟩:=h;rw[wh] at b;exact⟨a,c,d,kQ b (by simp),f⟩
theorem jZ (b:Bool) (a:Option Addr) (n c:Nat) (w:World):(Instr.field 30 (.agg #[.bool b,.slice a n c]) 0).run prog w=.ok (.bool b) w:=by
 simp[Instr.field,asAgg,go_sem]
theorem BJ {key val:ByteArray} (h:¬ aZ ts∨8<key.size∨400<val.size):dx ts key val=(false,ts):=by
 unfold dx;cases ht:gY ts with
 | none=>rfl
 |some b=>
  simp only[];rw[if_neg];rintro ⟨a,c,_⟩;rcases h with h | h | h;·exact h ((fg ts).2 (bE ht).1)
  ·have:=nT a;omega
  ·omega
theorem qB {A B:Nat} (i:B<=w.heap.size) (j:aw w A B a n c ts) (k:n<=30) (b:∀ x ∈ ts,be x) {key val:ByteArray} (l:val.size<=1000) (h:¬ aZ ts∨8<key.size∨400<val.size) :
  Calls prog 6 #[.agg #[.slice a n c],.string key,.string val] w fun f w'=>∃ d on e,f=.returned (.agg #[.bool false,.slice d on e])∧Below w.heap.size w w':=by
 refine (ot ts a n c A B w i j (by omega) b key val (by omega)).mono ?_;rintro f w' ⟨d,e,m,g,_,b⟩;rw[BJ h] at g;exact⟨d,_,e,g,b⟩
structure Bb (w wr:World) (N K:Nat) (ta:Option Addr) (tn tc:Nat) (ts:List TN) (u:T) (ma:Option Addr) (mm mc:Nat) (q:Nat):Prop where
 st:sh wr (fun g=>g=K) ta tn tc ts u
 len:(u.slots.map gD).length=mm
 row:wr.ownsRow (K+1) 36 2 (.slice ma mm mc) mm (aa aG (ms (u.slots.map gD)))
 few:u.slots.length<=120+q
 bel:Below N w wr
 kb:N<=K∧K<wr.heap.size
theorem Bb.below {b:World} (h:Bb w wr N K ta tn tc ts u ma mm mc q) (a:Below wr.heap.size wr b):Bb w b N K ta tn tc ts u ma mm mc q :=
 ⟨h.st.below a,h.len,an h.row a,h.few,h.bel.trans (a.mono (by have:=h.kb;omega)),h.kb.1,DY h.kb.2 a.size⟩
theorem Bb.tree (h:Bb w wr N K ta tn tc ts u ma mm mc q) (v:Value):wr.ownsRow (K+1) 36 2 (.slice ma mm mc) mm (aa aG (ms (u.slots.map gD)))∧(wr.setCell ⟨K,0,none⟩ v).ownsRow (K+1) 36 2 (.slice ma mm mc) mm (aa aG (ms (u.slots.map gD))) :=
 ⟨h.row,am h.row (af wr K 0 v) (fun a b c=>by have:=(h.row.lt a b).1;omega)⟩
theorem Bc {a b:Value} {t:TypeId} (h:w.heap[N]?=some (.cells #[a,b] t)):w.cell? ⟨N,0,none⟩=some a∧w.cell? ⟨N,1,none⟩=some b:=by
 simp[World.cell?,h]
theorem CE (h:Bb w wr N K ta tn tc ts u ma mm mc q) {a:Nat} (f:a<mm):cy ((u.slots.map gD).getD a dP).1=true:=by
 have c:=h.len;have b:=h.st.good.2.2.1;rw[D9] at b;have d:a<u.slots.length:=by rw[Ev] at c;omega
 have e:(u.slots.map gD).getD a dP=gD u.slots[a]:=by simp[List.getD,DQ d]
 rw[e];exact b _ (Ey _)
theorem Bd (a:Option Addr) (n c:Nat) (bs:List Int) (aH:Option Addr) (am aI:Nat) (aX:List Int) (w:World) (h:cd w 0 w.heap.size a n c bs) (an:cd w 0 w.heap.size aH am aI aX) :
  Calls prog 3 #[.slice a n c,.slice aH am aI] w fun e w'=>e=.returned (.bool true)∧Below w.heap.size w w':=by
 have b':=h.2.2.1;have cH:=h.2.1;have ca:=an.2.2.1;have cI:=an.2.1;unfold maxLen at b' ca;obtain⟨N,aY⟩:=Zn w.heap.size;have aJ:=oN a n c bs w 0 w.heap.size (DU _) h;have cb:Hid (∀ H,Below N w H->cd H 0 N aH am aI aX):=fun H a0=>by rw[<-aY];exact an.below (by rw[aY];exact a0)
 unfold A5 at aJ;rw[aY] at aJ ⊢;clear h an;go_enter func3,ntmps3;by_cases cJ:n<=1048576
 ·by_cases cK:am<=1048576
  ·go_upto_region 4 with (go_at_call 4;refine aJ.mono ?_;rintro e aK ⟨ta,tn,tc,ts,z,E,rfl,bu,aL,bv,cc,ce,a1,aM⟩)
   have f:=DS aK (.cells #[.slice ta tn tc] 25);have a2:=Zb aK (.cells #[.slice ta tn tc] 25);have ao:=bu.below a2;have ab:=aM.trans (a2.mono (by have:=aM.size;omega));obtain⟨K,bw⟩:=Zn aK.heap.size;generalize aK.alloc (.cells #[.slice ta tn tc] 25)=bx at f ao ab ⊢;rw[bw] at f ao ⊢;have A:=Za f;have a3:N<=K:=(by have:=aM.size;omega);have I:Hid (aw bx 0 K ta tn tc ts∧∀ p ∈ ts,be p):=⟨ao,bv⟩;have aN:=dZ ts ta tn tc 0 K bx (by omega) ao;have aO:=ah f;clear aJ bu bv aM a2 ao bw;by_cases cf:z.size<=8
   ·by_cases cg:E.size<=400
    ·(go_upto_if 40 with (first | (go_at_call 5;refine aN.mono ?_;rintro e a4 ⟨O,rfl,P,i⟩;have ap:Hid (O=true ↔ aZ ts):=P;clear P;cases O)));·have q:=(i.block K A).trans f;have aP:=ah q;have bz:=Za q;have J:=qB (key:=z) (val:=E) (by have:=i.size;omega) (I.out.1.below (i.mono (by omega))) aL I.out.2 a1 (.inl (fun h=>by simpa using ap.out.2 h));have Q:=ab.trans (i.mono (by omega));(go_wp2_with fail);refine J.mono ?_;rintro e m ⟨b,on,d,rfl,k⟩;have bA:=jZ false b on d m;have aq:=Q.trans (k.mono (by have:=Q.size;omega));(go_wp2_with fail);go_ret;exact⟨rfl,aq⟩
     ·have bB:Hid (aZ ts):=ap.out.1 trivial;obtain⟨u,bC⟩:=vL bB.out;have a5:=ab.trans (i.mono (by omega));have q:=(i.block K A).trans f;have a6:=Za q;have aQ:sh a4 (fun x=>x=K) ta tn tc ts u:=⟨⟨0,K,fun x e=>.inr (by omega),by omega,I.out.1.below (i.mono (by omega))⟩,bC,I.out.2⟩;have ac:Hid (cy z=true):=(by show _=true;unfold cy;simp;omega);have au:=zJ aQ;have ci:=aQ.good;have bD:=hidI aQ;have aP:=ah q;have cj:u.slots.length<=120:=(by omega);clear ap bC I aN aO f aQ ci;(go_wp2_with fail);refine au.mono ?_;rintro e m ⟨ma,mc,rfl,bE,k⟩;have B:Hid (Bb w m N K ta tn tc ts u ma u.slots.length mc 0):=⟨bD.out.below k,by simp,by rw[<-wh];exact bt bE (by omega),by omega,a5.trans (k.mono (by have:=a5.size;omega)),a3,DY a6 k.size⟩;have ad:=(k.block K a6).trans q;obtain⟨mm,bF⟩:=Zn u.slots.length;rw[bF] at B ⊢;clear au bD bE k a5 ab i bF cj q a6 aP A;(go_wp2_with fail);go_loopg [6,8,9] 8 (fun ck a7 a8 cl bG=>∃ (y:Nat) (z:ByteArray) (ta:Option Addr) (tn tc:Nat) (ts:List TN) (u:T) (ma:Option Addr) (mm mc:Nat),y<=8∧ck=8 - y∧cl=.int .i64 (y:Int)∧a7=.string z∧a8=.slice ma mm mc∧bG.heap[K]?=some (.cells #[.slice ta tn tc] 25)∧Hid (Bb w bG N K ta tn tc ts u ma mm mc y)∧Hid (cy z=true))
      case atStart=>exact⟨0,z,ta,tn,tc,ts,u,ma,mm,mc,D0 _,rfl,rfl,rfl,rfl,ad,B,ac⟩
      case round =>
       clear B ac ad cf cc ce bB aL;obtain⟨y,z,ta,tn,tc,ts,u,ma,mm,mc,cL,rfl,rfl,rfl,rfl,f,r,ac⟩:=hrel;have A:=Za f;by_cases cM:y<8
       ·have cm:=nT ac.out;have bH:=fun H a0=>A6 aH am aI aX H 0 N (cb.out H a0) y (by omega);have bI:=bH wr r.out.bel;clear bH;have a9:mm<=200∧((0:Int)<(mm:Int)->0<mm):=(by have cn:=r.out.len;have an:=r.out.few;simp at cn;omega);obtain⟨a9,_⟩:=a9;(go_upto_if 58 with (go_at_call 8;refine bI.mono ?_;rintro e m ⟨p,rfl,cN,k⟩));have B:=hidI (r.out.below k);have ad:=(k.block K A).trans f;clear bI r f k A;go_cut [6] (fun a7 aR=>∃ j:ByteArray,a7=.string j∧Hid (cy j=true)∧Hid (Below m.heap.size m aR))
        case first =>
         by_cases cO:p % 2=0
         ·have co:(p:Int) % 2=0:=(by omega);have bJ:Below m.heap.size m (m.alloc (.cells #[.int .u8 (97+(p:Int) / 2 % 20)] 5)):=Zb _ _;have cp:Hid _:=bJ;have a':=gA (fe m (97+(p:Int) / 2 % 20) (by omega));obtain⟨bK,ba⟩:=Zn (AN [97+(p:Int) / 2 % 20]);have cq:bK.size=1:=(by rw[<-ba,eE];rfl);rw[ba] at a';have cr:Hid (cy ((⟨#[107]⟩:ByteArray)++bK)=true):=(by show _=true;unfold cy;rw[rW,cq];rfl);clear ba bJ;(go_wp2_with fail);go_meet
          exact⟨_,rfl,cr,cp⟩
         ·have co:((p:Int) % 2 == 0)=false:=(by simp;omega);by_cases cs:mm=0
          ·subst cs;(go_wp2_with fail);go_meet
           exact⟨z,rfl,ac,D2 _ _⟩
          ·have cP:(0:Int)<(mm:Int):=(by omega);obtain⟨x,rfl⟩:=dz B.out.row (by omega);obtain⟨W,bb⟩:∃ W:Nat,p / 2 % mm=W:=⟨_,rfl⟩;have bL:W<mm:=(by rw[<-bb];exact Nat.mod_lt _ (by omega));have cQ:(p:Int) / 2 % (mm:Int)=(W:Int):=(by rw[<-bb];simp);have bM:=B.out.row.cellAt (W*2) (by omega);rw[(vX (u.slots.map gD) W (by rw[B.out.len];exact bL)).1] at bM;have bN:=hidI (CE B.out bL);obtain⟨ct,bO⟩:=Zn (((u.slots.map gD).getD W dP).1);rw[bO] at bM bN;have cR:=(B.out.row.lt x rfl).2;clear bb bO;(go_wp2_with fail);go_meet
           exact⟨ct,rfl,bN,D2 _ _⟩
        case rest =>
         obtain⟨j,rfl,bc,bP⟩:=hcut;have J:=bP.out;have bd:=hidI (B.out.below J);have aS:=(J.block K (Za ad)).trans ad;have cu:=nT bc.out;clear J bP B ad ac;have cv:=ah aS;have bf:=Za aS;have bg:=yC bd.out.st j;obtain⟨L,bh⟩:=Zn ((ch j u.slots).isSome);obtain⟨bi,bQ⟩:=Zn (tW (ch j u.slots));have bR:=hidI bh;rw[bh,bQ] at bg;clear bh bQ;(go_upto_region 16 with (go_at_call 9;refine bg.mono ?_;rintro e aT ⟨rfl,av⟩));have X:=DS aT (.cells #[.bool L,.string bi] 38);have bj:=Zb aT (.cells #[.bool L,.string bi] 38);have M:=hidI ((bd.out.below av).below bj);have R:=(bj.block K (DY bf av.size)).trans ((av.block K bf).trans aS);obtain⟨bS,bT⟩:=Zn aT.heap.size;generalize aT.alloc (.cells #[.bool L,.string bi] 38)=H at X M R ⊢;rw[bT] at X ⊢;have cS:K<bS:=(by have:=av.size;omega);have aU:=Za X;have ax:=Za R;have bk:=ah R;clear bg av bj bd aS cv bf bT;(go_upto_if 84 with fail);go_cut [8] (fun a8 aR=>∃ (ta:Option Addr) (tn tc:Nat) (ts:List TN) (u:T) (ma:Option Addr) (mm mc:Nat),a8=.slice ma mm mc∧aR.heap[K]?=some (.cells #[.slice ta tn tc] 25)∧Hid (Bb w aR N K ta tn tc ts u ma mm mc (y+1)))
         case first =>
          have bU:u.slots.length<=400:=(by have:=M.out.few;omega);by_cases cT:p % 3=0
          ·have cw:(p:Int) % 3=0:=(by omega);have bl:=BI (S':=fun x=>x=K) M.out.st (fun x e=>by omega) j bU;rw[bR.out] at bl;have cU:(L != L)=false:=(by cases L<;>rfl);(go_upto_region 18 with (go_at_call 10;refine bl.mono ?_;rintro e s ⟨b,on,d,ay,S,rfl,az,aA,bV,t⟩));have F:=DS s (.cells #[.bool L,.slice b on d] 30);have Y:=Zb s (.cells #[.bool L,.slice b on d] 30);have G:=t.trans (Y.mono t.size);have ae:=hidI (az.below Y);have Z:Hid (S.slots.map gD=rL j (u.slots.map gD)∧S.slots.length<=u.slots.length):=⟨aA,bV⟩;obtain⟨bm,aB⟩:=Zn s.heap.size;have cx:H.heap.size<=bm:=(by have:=t.size;omega);generalize s.alloc (.cells #[.bool L,.slice b on d] 30)=C at F G ae ⊢;rw[aB] at F ⊢;have g:=hidI (M.out.below G);have v:=(G.block K ax).trans R;have bW:=(G.block bS aU).trans X;obtain⟨bX,bY⟩:=Bc F;obtain⟨cV,cW⟩:=Bc bW;have bZ:=Za F;have cX:=Za bW;have aV:=Za v;have b0:=ah v;have b1:=ar v;clear bl az aA bV t Y G aB bk R X M aU ax;have U:=af C K 0 (.slice b on d);have D:(C.setCell ⟨K,0,none⟩ (.slice b on d)).heap[K]?=some (.cells #[.slice b on d] 25):=(by simpa using aj v 0 (.slice b on d));have ag:=hidI (ae.out.fr U);have ai:=hidI ((g.out.tree (.slice b on d)).2);have o:Hid (Below N w (C.setCell ⟨K,0,none⟩ (.slice b on d))∧K<(C.setCell ⟨K,0,none⟩ (.slice b on d)).heap.size):=⟨g.out.bel.trans (U.below (by have:=g.out.kb;omega) (fun x e=>by omega)),DY aV U.size⟩;(go_upto_region 21 with fail);generalize C.setCell ⟨K,0,none⟩ (.slice b on d)=aC at D ag ai o ⊢;have aD:=zH ma mm mc (u.slots.map gD) aC aC.heap.size (DU _) (kQ ai.out g.out.len) (by omega) j;(go_wp2_with fail);refine aD.mono ?_;rintro e aW ⟨aE,aF,aG,rfl,ak,al,l⟩;have aa:Hid (Bb w aW N K b on d ay S aE aF aG (y+1)):=⟨ag.out.below l,by rw[Z.out.1];exact ak,by rw[Z.out.1];exact bt al (by have:=o.out.2;omega),by have:=Z.out.2;have:=g.out.few;omega,o.out.1.trans (l.mono (by have:=o.out.1.size;omega)),a3,DY o.out.2 l.size⟩;have V:=(l.block K o.out.2).trans D;clear aD ak al l;(go_wp2_with fail);go_meet
           exact⟨b,on,d,ay,S,aE,aF,aG,rfl,V,aa⟩
          ·have cw:((p:Int) % 3 == 0)=false:=(by simp;omega);have b2:=BH (S':=fun x=>x=K) M.out.st (fun x e=>by omega) (key:=j) (val:=E) bc.out cg bU;(go_upto_region 23 with (go_at_call 6;refine b2.mono ?_;rintro e s ⟨b,on,d,ay,S,rfl,az,aA,t⟩));have F:=DS s (.cells #[.bool true,.slice b on d] 30);have Y:=Zb s (.cells #[.bool true,.slice b on d] 30);have G:=t.trans (Y.mono t.size);have ae:=hidI (az.below Y);have Z:=hidI aA;obtain⟨bm,aB⟩:=Zn s.heap.size;have cx:H.heap.size<=bm:=(by have:=t.size;omega);generalize s.alloc (.cells #[.bool true,.slice b on d] 30)=C at F G ae ⊢;rw[aB] at F ⊢;have g:=hidI (M.out.below G);have v:=(G.block K ax).trans R;obtain⟨bX,bY⟩:=Bc F;have bZ:=Za F;have aV:=Za v;have b0:=ah v;have b1:=ar v;clear b2 az aA t Y G aB bk R X M aU ax;have U:=af C K 0 (.slice b on d);have D:(C.setCell ⟨K,0,none⟩ (.slice b on d)).heap[K]?=some (.cells #[.slice b on d] 25):=(by simpa using aj v 0 (.slice b on d));have ag:=hidI (ae.out.fr U);have ai:=hidI ((g.out.tree (.slice b on d)).2);have o:Hid (Below N w (C.setCell ⟨K,0,none⟩ (.slice b on d))∧K<(C.setCell ⟨K,0,none⟩ (.slice b on d)).heap.size):=⟨g.out.bel.trans (U.below (by have:=g.out.kb;omega) (fun x e=>by omega)),DY aV U.size⟩;(go_upto_region 26 with fail);generalize C.setCell ⟨K,0,none⟩ (.slice b on d)=aC at D ag ai o ⊢;have aD:=zI ma mm mc (u.slots.map gD) aC aC.heap.size (DU _) (kQ ai.out g.out.len) (by omega) j E;(go_upto_region 27 with (go_at_call 12;refine aD.mono ?_;rintro e aW ⟨aE,aF,aG,rfl,ak,al,l⟩));have cz:Hid (lc j E false (u.slots.map gD)=S.slots.map gD):=(by show _=_;rw[Z.out,xV j E u.slots g.out.st.good.2.1]);rw[cz.out] at ak al;have aa:Hid (Bb w aW N K b on d ay S aE aF aG (y+1)):=⟨ag.out.below l,ak,bt al (by have:=o.out.2;omega),by rw[Z.out,pt];have:=g.out.few;split<;>omega,o.out.1.trans (l.mono (by have:=o.out.1.size;omega)),a3,DY o.out.2 l.size⟩;have V:=(l.block K o.out.2).trans D;have b3:=Za V;have cA:=ah V;have bn:=yC aa.out.st j;rw[Z.out,A8] at bn;clear aD ak al l ag ai o D b0 b1 v U g ae F bX bY bZ aV;(go_wp2_with fail);refine bn.mono ?_;rintro e cY ⟨rfl,bo⟩;have cB:=hidI (aa.out.below bo);have cC:=(bo.block K b3).trans V;clear bn bo aa V cA b3;have cZ:tW (some (j,E,(0:Int)))=E:=rfl;(go_wp2_with fail);go_meet
           exact⟨b,on,d,ay,S,aE,aF,aG,rfl,cC,cB⟩
         case rest =>
          clear M R X bk aU ax bR a9 cm cu;obtain⟨ta,tn,tc,ts,u,ma,mm,mc,rfl,f,r⟩:=hcut;have A:=Za f;have aO:=ah f;have au:=A9 r.out.st;have cD:Hid (u.slots.length=mm):=(by show _=_;have:=r.out.len;rwa [Ev] at this);(go_wp2_with fail);refine au.mono ?_;intro e s b4;obtain⟨cE,a',rfl,bp,t⟩:=Ba b4;rw[cD.out] at bp ⊢;have g:=hidI (r.out.below t);have v:=(t.block K A).trans f;have b5:=ud cE mm a' ma mc (u.slots.map gD) s s.heap.size s.heap.size (DU _) (DU _) bp (kQ g.out.row g.out.len);clear au b4 bp t r f aO A;(go_wp2_with fail);refine b5.mono ?_;rintro e c0 ⟨rfl,bq⟩;have br:=hidI (g.out.below bq);have D:=(bq.block K g.out.kb.2).trans v;have cF:=ah D;have b6:=Za D;have b7:=xE br.out.st;clear b5 bq g v;(go_wp2_with fail);refine b7.mono ?_;rintro e aW ⟨rfl,l⟩;have aa:=hidI (br.out.below l);have V:=(l.block K b6).trans D;clear b7 l br D cF b6;(go_wp2_with fail);go_roundg (8 - (y+1))
          case measure=>omega
          case rel=>exact⟨y+1,j,ta,tn,tc,ts,u,ma,mm,mc,by omega,rfl,by go_num,rfl,rfl,V,aa,bc⟩
       ·have b8:=zK r.out.st;have aO:=ah f;(go_wp2_with fail);refine b8.mono ?_;rintro e c1 ⟨rfl,b9⟩;have cG:=hidI (r.out.bel.trans (b9.mono (by have:=r.out.kb;omega)));clear b8 b9;(go_wp2_with fail);go_ret;exact⟨rfl,cG.out⟩
    ·(go_upto_if 40 with (first | (go_at_call 5;refine aN.mono ?_;rintro e a4 ⟨O,rfl,P,i⟩;have ap:Hid (O=true ↔ aZ ts):=P;clear P;cases O)));rotate_left;rotate_left
     all_goals
       have q:=(i.block K A).trans f;have aP:=ah q;have bz:=Za q;have J:=qB (key:=z) (val:=E) (by have:=i.size;omega) (I.out.1.below (i.mono (by omega))) aL I.out.2 a1 (.inr (.inr (by omega)));have Q:=ab.trans (i.mono (by omega));(go_wp2_with fail);refine J.mono ?_;rintro e m ⟨b,on,d,rfl,k⟩;have bA:=jZ false b on d m;have aq:=Q.trans (k.mono (by have:=Q.size;omega));(go_wp2_with fail);go_ret;exact⟨rfl,aq⟩
   ·(go_upto_if 40 with (first | (go_at_call 5;refine aN.mono ?_;rintro e a4 ⟨O,rfl,P,i⟩;have ap:Hid (O=true ↔ aZ ts):=P;clear P;cases O)));rotate_left;rotate_left
    all_goals
      have q:=(i.block K A).trans f;have aP:=ah q;have bz:=Za q;have J:=qB (key:=z) (val:=E) (by have:=i.size;omega) (I.out.1.below (i.mono (by omega))) aL I.out.2 a1 (.inr (.inl (by omega)));have Q:=ab.trans (i.mono (by omega));(go_wp2_with fail);refine J.mono ?_;rintro e m ⟨b,on,d,rfl,k⟩;have bA:=jZ false b on d m;have aq:=Q.trans (k.mono (by have:=Q.size;omega));(go_wp2_with fail);go_ret;exact⟨rfl,aq⟩
  ·go_wp2_with fail
   go_ret;exact⟨rfl,D2 _ _⟩
 ·go_wp2_with fail
  go_ret;exact⟨rfl,D2 _ _⟩
end Go.Proofs.YtgcedpmagmmikaaGreat
