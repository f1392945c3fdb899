import Derived.Test.YtggmghkcdfjdoaaGreatHTks
import Derived.Test.YtggmghkcdfjdoaaGreatHTp
import Derived.Test.YtggmghkcdfjdoaaGreatHIn
import Derived.Deep.DeepCutAuto
namespace Go.Proofs.YtggmghkcdfjdoaaGreat
set_option maxHeartbeats 4000000
open Go.RowKit Tryz
set_option linter.unusedVariables false
set_option linter.unusedSimpArgs false
set_option maxRecDepth 100000
variable {ks vs:List ByteArray} {n:Nat} {os:List Int}
theorem eG (s:ByteArray) (b:s.size<=maxLen) (w:World) :
  Calls prog 54 #[.string s] w fun c d=>c=.returned (.bool (cy s))∧d=w:=by
 unfold maxLen at b;by_cases a:1<=s.size
 ·go_enter func54,ntmps54;go_wp2
  go_ret;exact⟨by simp[cy,a];omega,rfl⟩
 ·have e:decide ((1:Int)<=s.size)=false:=(by simp;omega);go_enter func54,ntmps54;go_wp2
  go_ret;exact⟨by simp[cy,a],rfl⟩
theorem dH (s:ByteArray) (a:s.size<=maxLen) (w:World) :
  Calls prog 40 #[.string s] w fun b c=>b=.returned (.bool (decide (8<s.size)))∧c=w:=by
 unfold maxLen at a;go_enter func40,ntmps40;go_wp2
 go_ret;exact⟨by congr 2;simp;omega,rfl⟩
def fq (p:Int) (s v:ByteArray) (o:Int):Bool:=cy s && aU p v o
theorem pb {t:T} (g:cg t) (c:t.leaf=true) (r:Bool):(t.good r && t.slots.all (fun h=>cy h.1))=(decide ((if r then 0 else 2)<=t.keys.length∧t.keys.length<=4) && (t.page == 0 || ir t.page) && decide (t.vals.length=t.keys.length) && decide (t.over.length=t.keys.length) && (t.keys.zip (t.vals.zip t.over)).all (fun a=>fq t.page a.1 a.2.1 a.2.2)):=by
 have i:=((bj t).1 g).1 c;rw[T.good_eq,T.slots_eq,c,i];simp only[T.size,c,if_true,E6,List.all_nil,List.flatten_nil,EN,Bool.and_true,Fg,E8,fq];by_cases d:t.vals.length=t.keys.length
 ·by_cases e:t.over.length=t.keys.length
  ·have j:(t.vals.zip t.over).all (fun a=>aU t.page a.1 a.2)=(t.keys.zip (t.vals.zip t.over)).all (fun a=>aU t.page a.2.1 a.2.2):=(by rw[show (fun a:ByteArray × ByteArray × Int=>aU t.page a.2.1 a.2.2)=(fun a=>aU t.page a.1 a.2) ∘ Prod.snd from rfl,<-List.all_map,List.map_snd_zip (by simp;omega)]);rw[j];have k:(t.keys.zip (t.vals.zip t.over)).all (fun a=>cy a.1 && aU t.page a.2.1 a.2.2)=((t.keys.zip (t.vals.zip t.over)).all (fun a=>cy a.1) && (t.keys.zip (t.vals.zip t.over)).all (fun a=>aU t.page a.2.1 a.2.2)):=by
    generalize t.keys.zip (t.vals.zip t.over)=f
    induction f with
    | nil=>rfl
    | cons b f l=>simp only[List.all_cons,l];cases cy b.1<;>cases aU t.page b.2.1 b.2.2<;>simp
   rw[k];generalize (t.keys.zip (t.vals.zip t.over)).all (fun a=>cy a.1)=b;generalize (t.keys.zip (t.vals.zip t.over)).all (fun a=>aU t.page a.2.1 a.2.2)=m;cases b<;>cases m<;>simp[d,e]
  ·simp[e]
 ·simp[d]
theorem uC {t:T} (j:t.leaf=false) (r:Bool):(t.good r && t.slots.all (fun a=>cy a.1))=(decide (2<=t.kids.length∧t.kids.length<=4) && (t.page == 0 || ir t.page) && t.kids.all (fun b=>(b.good false && b.slots.all (fun a=>cy a.1)) && !(t.page != 0 && b.page == 0))):=by
 rw[T.good_eq,T.slots_eq,j];simp only[T.size,j,EC,EO,Bool.not_false,Bool.true_or,Bool.and_true,ED,Bool.and_false];have m:((t.kids.map (fun t=>t.good false)).all id && t.kids.all (fun b=>!(t.page != 0 && b.page == 0)) && ((t.kids.map T.slots).flatten).all (fun a=>cy a.1))=t.kids.all (fun b=>(b.good false && b.slots.all (fun a=>cy a.1)) && !(t.page != 0 && b.page == 0)):=by
  generalize t.kids=c;generalize t.page=k
  induction c with
  | nil=>rfl
  |cons d c l=>simp only[Ex,List.all_cons,EW,List.all_append,id] at l ⊢;rw[<-l];generalize (c.map (fun t=>t.good false)).all id=e;generalize c.all (fun b=>!(k != 0 && b.page == 0))=f;generalize (c.map T.slots).flatten.all (fun a=>cy a.1)=g;generalize d.good false=h;generalize d.slots.all (fun a=>cy a.1)=i;generalize (!(k != 0 && d.page == 0))=n;cases e<;>cases f<;>cases g<;>cases h<;>cases i<;>cases n<;>rfl
 rw[<-m];generalize (t.kids.map (fun t=>t.good false)).all id=e;generalize t.kids.all (fun b=>!(t.page != 0 && b.page == 0))=f;generalize (t.kids.map T.slots).flatten.all (fun a=>cy a.1)=g;generalize decide (2<=t.kids.length∧t.kids.length<=4)=h;generalize (t.page == 0 || ir t.page)=i;cases e<;>cases f<;>cases g<;>cases h<;>cases i<;>rfl
theorem mz {j:Nat} (a:ks.length=n) (b:vs.length=n) (c:os.length=n) (d:j<n):(ks.zip (vs.zip os))[j]?=some (ks.getD j .empty,vs.getD j .empty,os.getD j 0):=by
 simp[List.getD,Eh (show j<ks.length by omega),Eh (show j<vs.length by omega),Eh (show j<os.length by omega),List.getElem?_zip_eq_some]
theorem pd {p:Int} {j:Nat} (h:ks.length=n∧vs.length=n∧os.length=n) (b:j<n) (c:fq p (ks.getD j .empty) (vs.getD j .empty) (os.getD j 0)=false):(ks.zip (vs.zip os)).all (fun a=>fq p a.1 a.2.1 a.2.2)=false:=by
 rw[<-Bool.not_eq_true];intro d;have:=Ez.1 d _ (Ew (mz h.1 h.2.1 h.2.2 b));rw[c] at this;cases this
theorem rj {p:Int} (h:ks.length=n∧vs.length=n∧os.length=n) (e:∀ a,a<n->fq p (ks.getD a .empty) (vs.getD a .empty) (os.getD a 0)=true):(ks.zip (vs.zip os)).all (fun b=>fq p b.1 b.2.1 b.2.2)=true:=by
 rw[Ez];intro b f;obtain⟨a,c⟩:=List.mem_iff_getElem?.1 f;have d:a<n:=by have:=Zc c;simp at this;omega
 rw[mz h.1 h.2.1 h.2.2 d] at c;simp at c;rw[<-c];exact e a d
structure jB (w W:World) (N:Nat) (cs:Array Value):Prop where
 box:W.heap[N]?=some (.cells cs 57)
 bel:Below N w W
theorem jB.lt {w a:World} {N:Nat} {cs:Array Value} (h:jB w a N cs):N<a.heap.size:=Za h.box
theorem jB.below {w a b:World} {N:Nat} {cs:Array Value} (h:jB w a N cs) (c:Below a.heap.size a b):jB w b N cs :=
 ⟨(c.block _ h.lt).trans h.box,h.bel.trans (c.mono (Nat.le_of_lt h.lt))⟩
theorem jB.new (w:World) (cs:Array Value):jB w (w.alloc (.cells cs 57)) w.heap.size cs:=⟨Ej w _,Zb _ _⟩
theorem sH (C:Nat) (t:T) (aE:cg t) (N:t.leaf=true):ep 34 C t [.bool false] (fun V b ar=>b=.returned (.bool (t.good false && t.slots.all (fun O=>cy O.1)))∧Below V.heap.size V ar):=by
 intro V aa c ab ac B ad ae on af ag ah ba aF n;have o:=jB.new V (Zs t.leaf t.page aa c ab ac B ad ae on af ag t.kids.length ah);have ai:=n.belowC (o.bel.mono aF);have I:=pb aE N false;have aj:t.kids.length=0:=by rw[((bj t).1 aE).1 N];rfl
 have ak:=n.keys.1;have au:=n.vals.1;have av:=n.over.1;have aV:Hid (t.size=c):=by show _=_;unfold T.size;rw[if_pos N];exact ak
 have aW:=Eo n.keys.2.1 n.keys.2.2.1;have aX:=Eo n.vals.2.1 n.vals.2.2.1;have aY:=Eo n.over.2.1 n.over.2.2.1;unfold maxLen at aW aX aY;rw[ak,au,av] at I;have aw:Hid (t.keys.length=c∧t.vals.length=B∧t.over.length=on):=⟨ak,au,av⟩;clear ak au av;have al:=ai.keys;have am:=ai.vals;have an:=ai.over;have ax:Hid (∀ W,Calls prog 53 #[.agg (Zs true t.page aa c ab ac B ad ae on af ag 0 ah)] W fun b ar=>b=.returned (.int .i64 c)∧Below W.heap.size W ar):=fun W=>by have:=fV t aa c ab ac B ad ae on af ag ah W aw.out.1;rw[N,aj,aV.out] at this;exact this
 clear n ai;obtain⟨D,aG⟩:∃ D,D=(t.good false && t.slots.all (fun O=>cy O.1)):=⟨_,rfl⟩;rw[<-aG] at I ⊢;clear aG;rw[N,aj] at o ⊢;rw[N,aj] at al am an;obtain⟨e,aH⟩:∃ e,e=t.page:=⟨_,rfl⟩;rw[<-aH] at o al am an ax I ⊢;clear aH aj;simp only[EC,EO,if_true] at I;obtain⟨z,ay⟩:∃ z,z=(decide (2<=c∧c<=4) && (e == 0 || ir e)):=⟨_,rfl⟩;rw[<-ay] at I;have X:=hidI ay;have p:=hidI I;clear ay I;generalize aI:V.alloc (.cells (Zs true e aa c ab ac B ad ae on af ag 0 ah) 57)=J at o al am an;have aZ:=hidI aI;clear aI;have az:=Eo aF (Nat.le_of_lt o.lt);go_enter func34,ntmps34;go_upto_region 4 with fail
 rw[aZ.out];have bb:=o.lt;obtain⟨q,r,s,u,v,w⟩:=aS o.box;go_cut [33] (fun h aA=>h=.bool (!z)∧Below J.heap.size J aA)
 case first =>
  go_wp2_with fail
  refine (ax.out J).mono ?_;rintro b a0 ⟨rfl,ao⟩;have aB:=o.below ao;have bc:=aB.lt;clear q r s u v w;obtain⟨q,r,s,u,v,w⟩:=aS aB.box;by_cases bd:c<2
  ·have f:z=false:=(by rw[X.out];simp;omega);go_wp2_with fail
   go_meet
   exact⟨by rw[f];rfl,ao⟩
  ·have be:decide ((c:Int)<2)=false:=(by simp<;>omega);go_wp2_with fail
   refine (ax.out a0).mono ?_;rintro b bg ⟨rfl,aJ⟩;have E:=aB.below aJ;have P:=ao.trans (aJ.mono ao.size);have a1:=E.lt;clear q r s u v w;obtain⟨q,r,s,u,v,w⟩:=aS E.box;by_cases bh:4<c
   ·have f:z=false:=(by rw[X.out];simp;omega);(go_wp2_with fail);go_meet
    exact⟨by rw[f];rfl,P⟩
   ·have bi:decide ((4:Int)<c)=false:=(by simp;omega);by_cases Y:e=0
    ·have a2:(e != 0)=false:=(by simpa using Y);have f:z=true:=(by rw[X.out];simp[Y];omega);clear Y;(go_wp2_with fail);go_meet
     exact⟨by rw[f];rfl,P⟩
    ·have a2:(e != 0)=true:=(by simpa using Y);have f:z=ir e:=by rw[X.out,show decide (2<=c∧c<=4)=true by simp;omega,show (e == 0)=false by simpa using Y];simp
     (go_wp2_with (go_at_call 18;refine (cz _ _ _ _).mono ?_;rintro b d ⟨rfl,rfl⟩));go_meet
     exact⟨by rw[f];simp[ir],P⟩
 case rest =>
  obtain⟨rfl,P⟩:=hcut;have E:=o.below P;have a1:=E.lt;clear q r s u v w;obtain⟨q,r,s,u,v,w⟩:=aS E.box;by_cases aK:z=true;rotate_left
  ·have aL:z=false:=(by simpa using aK);have f:D=false:=(by rw[p.out,aL];simp);subst aL;go_wp2_with fail
   go_ret;exact⟨by rw[f];rfl,E.bel⟩
  subst aK;by_cases aM:B=c;rotate_left
  ·have aN:((B:Int) != (c:Int))=true:=(by simp;omega);have f:D=false:=(by rw[p.out];simp[aM]);go_wp2_with fail
   go_ret;exact⟨by rw[f];rfl,E.bel⟩
  by_cases aO:on=c;rotate_left
  ·have aN:((B:Int) != (c:Int))=false:=(by simp;omega);have bk:((on:Int) != (c:Int))=true:=(by simp;omega);have f:D=false:=(by rw[p.out];simp[aO]);go_wp2_with fail
   go_ret;exact⟨by rw[f];rfl,E.bel⟩
  subst aM aO;have aN:((on:Int) != (on:Int))=false:=(by simp);have aQ:Hid (D=(t.keys.zip (t.vals.zip t.over)).all (fun aC=>fq e aC.1 aC.2.1 aC.2.2)):=(by show _=_;rw[p.out];simp);clear p X;go_wp2_with fail
  clear q r s u v w;go_loopw [6,7] (fun a l wr=>∃ (g:Nat),g<=on∧a=.int .i64 g∧Hid (∀ a,a<g->fq e (t.keys.getD a .empty) (t.vals.getD a .empty) (t.over.getD a 0)=true)∧Below J.heap.size J wr) (fun a _ _=>on - (intOf a).toNat)
  case atStart=>exact⟨0,En _,rfl,fun a aR=>by omega,P⟩
  case round =>
   obtain⟨g,bl,rfl,p,A⟩:=hrel;have F:=o.below A;have aT:=F.lt;obtain⟨q,r,s,u,v,w⟩:=aS F.box;by_cases ap:g<on
   ·obtain⟨bm,bn,rfl,_,K,a3⟩:=aP.at (al.below (A.mono az)) ap;obtain⟨bo,bp,rfl,_,G,a4⟩:=aP.at (am.below (A.mono az)) ap;obtain⟨bq,br,rfl,_,a5,a6⟩:=bf.at (an.below (A.mono az)) ap;obtain⟨i,L⟩:∃ i,i=fq e (t.keys.getD g .empty) (t.vals.getD g .empty) (t.over.getD g 0):=⟨_,rfl⟩;have aq:Hid ((i=false->D=false)∧(i=true->∀ a,a<g+1->fq e (t.keys.getD a .empty) (t.vals.getD a .empty) (t.over.getD a 0)=true)):=by
     refine⟨fun aD=>?_,fun aD a aR=>?_⟩;·rw[aQ.out];exact pd aw.out ap (L ▸ aD)
     ·by_cases a7:a=g;·subst a7;exact L ▸ aD
      ·exact p.out a (by omega)
    generalize t.keys.getD g .empty=O at K a3 L;generalize t.vals.getD g .empty=h at G a4 L;generalize t.over.getD g 0=l at a5 a6 L;have H:=hidI L;clear L;have a8:=G;unfold maxLen at a8;(go_upto_region 12 with fail);go_cut [124] (fun a9 aA=>a9=.bool (!i)∧aA=wr)
    case first =>
     by_cases m:cy O=true;rotate_left
     ·have M:cy O=false:=(by simpa using m);have j:i=false:=(by rw[H.out];simp[fq,M]);(go_wp2_with (first | (go_at_call 54;refine (eG _ K _).mono ?_;rintro b d ⟨rfl,rfl⟩;first | rw[m] | rw[M]) | (go_at_call 18;refine (cz _ _ _ _).mono ?_;rintro b d ⟨rfl,rfl⟩;rw[k]) | (go_at_call 40;refine (dH _ G _).mono ?_;rintro b d ⟨rfl,rfl⟩;rw[x])));go_meet
      exact⟨by rw[j];rfl,rfl⟩
     by_cases Q:h.size<=400;rotate_left
     ·have j:i=false:=(by rw[H.out];simp[fq,aU,Q]);(go_wp2_with (first | (go_at_call 54;refine (eG _ K _).mono ?_;rintro b d ⟨rfl,rfl⟩;first | rw[m] | rw[M]) | (go_at_call 18;refine (cz _ _ _ _).mono ?_;rintro b d ⟨rfl,rfl⟩;rw[k]) | (go_at_call 40;refine (dH _ G _).mono ?_;rintro b d ⟨rfl,rfl⟩;rw[x])));go_meet
      exact⟨by rw[j];rfl,rfl⟩
     have bs:decide ((400:Int)<h.size)=false:=(by simp;omega);by_cases R:l=0
     ·have Z:(l != 0)=false:=(by simpa using R);have S:(l == 0)=true:=(by simpa using R);by_cases y:8<h.size
      ·have x:decide (8<h.size)=true:=(by simpa using y);have j:i=!(e != 0):=(by rw[H.out];simp[fq,aU,m,Q,Z,S,y]);clear R;(go_wp2_with (first | (go_at_call 54;refine (eG _ K _).mono ?_;rintro b d ⟨rfl,rfl⟩;first | rw[m] | rw[M]) | (go_at_call 18;refine (cz _ _ _ _).mono ?_;rintro b d ⟨rfl,rfl⟩;rw[k]) | (go_at_call 40;refine (dH _ G _).mono ?_;rintro b d ⟨rfl,rfl⟩;rw[x])));go_meet
       exact⟨by rw[j];simp,rfl⟩
      ·have x:decide (8<h.size)=false:=(by simpa using y);have j:i=true:=(by rw[H.out];simp[fq,aU,m,Q,Z,S,y]);clear R;(go_wp2_with (first | (go_at_call 54;refine (eG _ K _).mono ?_;rintro b d ⟨rfl,rfl⟩;first | rw[m] | rw[M]) | (go_at_call 18;refine (cz _ _ _ _).mono ?_;rintro b d ⟨rfl,rfl⟩;rw[k]) | (go_at_call 40;refine (dH _ G _).mono ?_;rintro b d ⟨rfl,rfl⟩;rw[x])));go_meet
       exact⟨by rw[j];rfl,rfl⟩
     ·have Z:(l != 0)=true:=(by simpa using R);have S:(l == 0)=false:=(by simpa using R);by_cases U:2<=l∧l<=999;rotate_left
      ·have k:decide (2<=l∧l<=999)=false:=(by simpa using U);have j:i=false:=(by rw[H.out];simp[fq,aU,m,Q,S,ir,k]);(go_wp2_with (first | (go_at_call 54;refine (eG _ K _).mono ?_;rintro b d ⟨rfl,rfl⟩;first | rw[m] | rw[M]) | (go_at_call 18;refine (cz _ _ _ _).mono ?_;rintro b d ⟨rfl,rfl⟩;rw[k]) | (go_at_call 40;refine (dH _ G _).mono ?_;rintro b d ⟨rfl,rfl⟩;rw[x])));go_meet
       exact⟨by rw[j];rfl,rfl⟩
      have k:decide (2<=l∧l<=999)=true:=(by simpa using U);have j:i=decide (8<h.size):=by
       rw[H.out];by_cases y:8<h.size;·have:¬ h.size<=8:=(by omega);simp[fq,aU,m,Q,Z,S,k,ir,y,this]
       ·have:h.size<=8:=(by omega);simp[fq,aU,m,Q,Z,S,k,ir,y,this]
      by_cases y:8<h.size
      focus have x:decide (8<h.size)=true:=by simpa using y
      rotate_left
      focus have x:decide (8<h.size)=false:=by simpa using y
      rotate_left
      all_goals
        (go_wp2_with (first | (go_at_call 54;refine (eG _ K _).mono ?_;rintro b d ⟨rfl,rfl⟩;first | rw[m] | rw[M]) | (go_at_call 18;refine (cz _ _ _ _).mono ?_;rintro b d ⟨rfl,rfl⟩;rw[k]) | (go_at_call 40;refine (dH _ G _).mono ?_;rintro b d ⟨rfl,rfl⟩;rw[x])));go_meet
        exact⟨by rw[j,x];rfl,rfl⟩
    case rest =>
     obtain⟨rfl,rfl⟩:=hcut;by_cases U:i=true
     ·have a':Hid (∀ a,a<g+1->fq e (t.keys.getD a .empty) (t.vals.getD a .empty) (t.over.getD a 0)=true):=aq.out.2 U;subst U;clear aq p H;(go_wp2_with fail);go_roundw
      case rel=>exact⟨g+1,by omega,by go_num,a',A⟩
      case measure=>simp[intOf];omega
     ·have k:i=false:=(by simpa using U);have f:=aq.out.1 k;subst k;clear aq p H;(go_wp2_with fail);go_ret;exact⟨by rw[f];rfl,F.bel⟩
   ·have j:D=true:=by rw[aQ.out];exact rj aw.out (fun a aR=>p.out a (by omega))
    (go_wp2_with fail);go_loopw [8] (fun a wr=>a=.int .i64 0∧Below J.heap.size J wr) (fun _ _=>0)
    case atStart=>exact⟨rfl,A⟩
    case round =>clear A F q r s u v w aT;obtain⟨rfl,A⟩:=hrel;have F:=o.below A;have aT:=F.lt;obtain⟨q,r,s,u,v,w⟩:=aS F.box;(go_wp2_with fail);go_ret;exact⟨by rw[j];rfl,F.bel⟩
theorem sI (C:Nat) (t:T) (aE:cg t) (N:t.leaf=true):ep 34 C t [.bool true] (fun V b aq=>b=.returned (.bool (t.good true && t.slots.all (fun O=>cy O.1)))∧Below V.heap.size V aq):=by
 intro V Z c aa ab A ac ad on ae af ag ba aF n;have o:=jB.new V (Zs t.leaf t.page Z c aa ab A ac ad on ae af t.kids.length ag);have ah:=n.belowC (o.bel.mono aF);have I:=pb aE N true;have ai:t.kids.length=0:=by rw[((bj t).1 aE).1 N];rfl
 have aj:=n.keys.1;have ar:=n.vals.1;have au:=n.over.1;have aV:Hid (t.size=c):=by show _=_;unfold T.size;rw[if_pos N];exact aj
 have aW:=Eo n.keys.2.1 n.keys.2.2.1;have aX:=Eo n.vals.2.1 n.vals.2.2.1;have aY:=Eo n.over.2.1 n.over.2.2.1;unfold maxLen at aW aX aY;rw[aj,ar,au] at I;have av:Hid (t.keys.length=c∧t.vals.length=A∧t.over.length=on):=⟨aj,ar,au⟩;clear aj ar au;have ak:=ah.keys;have al:=ah.vals;have am:=ah.over;have aw:Hid (∀ W,Calls prog 53 #[.agg (Zs true t.page Z c aa ab A ac ad on ae af 0 ag)] W fun b aq=>b=.returned (.int .i64 c)∧Below W.heap.size W aq):=fun W=>by have:=fV t Z c aa ab A ac ad on ae af ag W av.out.1;rw[N,ai,aV.out] at this;exact this
 clear n ah;obtain⟨B,aG⟩:∃ B,B=(t.good true && t.slots.all (fun O=>cy O.1)):=⟨_,rfl⟩;rw[<-aG] at I ⊢;clear aG;rw[N,ai] at o ⊢;rw[N,ai] at ak al am;obtain⟨e,aH⟩:∃ e,e=t.page:=⟨_,rfl⟩;rw[<-aH] at o ak al am aw I ⊢;clear aH ai;simp only[EC,EO,if_true] at I;obtain⟨D,ax⟩:∃ D,D=(decide (0<=c∧c<=4) && (e == 0 || ir e)):=⟨_,rfl⟩;rw[<-ax] at I;have an:=hidI ax;have p:=hidI I;clear ax I;generalize aI:V.alloc (.cells (Zs true e Z c aa ab A ac ad on ae af 0 ag) 57)=J at o ak al am;have aZ:=hidI aI;clear aI;have ay:=Eo aF (Nat.le_of_lt o.lt);go_enter func34,ntmps34;go_upto_region 4 with fail
 rw[aZ.out];have bb:=o.lt;obtain⟨q,r,s,u,v,w⟩:=aS o.box;go_cut [33] (fun g az=>g=.bool (!D)∧Below J.heap.size J az)
 case first =>
  go_wp2_with fail
  refine (aw.out J).mono ?_;rintro b a0 ⟨rfl,aA⟩;have aB:=o.below aA;have bc:=aB.lt;clear q r s u v w;obtain⟨q,r,s,u,v,w⟩:=aS aB.box;by_cases bd:c<0;·exfalso;omega
  ·have be:decide ((c:Int)<0)=false:=(by simp<;>omega);go_wp2_with fail
   refine (aw.out a0).mono ?_;rintro b bg ⟨rfl,aJ⟩;have E:=aB.below aJ;have P:=aA.trans (aJ.mono aA.size);have a1:=E.lt;clear q r s u v w;obtain⟨q,r,s,u,v,w⟩:=aS E.box;by_cases bh:4<c
   ·have h:D=false:=(by rw[an.out];simp;omega);(go_wp2_with fail);go_meet
    exact⟨by rw[h];rfl,P⟩
   ·have bi:decide ((4:Int)<c)=false:=(by simp;omega);by_cases X:e=0
    ·have a2:(e != 0)=false:=(by simpa using X);have h:D=true:=(by rw[an.out];simp[X];omega);clear X;(go_wp2_with fail);go_meet
     exact⟨by rw[h];rfl,P⟩
    ·have a2:(e != 0)=true:=(by simpa using X);have h:D=ir e:=by rw[an.out,show decide (0<=c∧c<=4)=true by simp;omega,show (e == 0)=false by simpa using X];simp
     (go_wp2_with (go_at_call 18;refine (cz _ _ _ _).mono ?_;rintro b d ⟨rfl,rfl⟩));go_meet
     exact⟨by rw[h];simp[ir],P⟩
 case rest =>
  obtain⟨rfl,P⟩:=hcut;have E:=o.below P;have a1:=E.lt;clear q r s u v w;obtain⟨q,r,s,u,v,w⟩:=aS E.box;by_cases aK:D=true;rotate_left
  ·have aL:D=false:=(by simpa using aK);have h:B=false:=(by rw[p.out,aL];simp);subst aL;go_wp2_with fail
   go_ret;exact⟨by rw[h];rfl,E.bel⟩
  subst aK;by_cases aM:A=c;rotate_left
  ·have aN:((A:Int) != (c:Int))=true:=(by simp;omega);have h:B=false:=(by rw[p.out];simp[aM]);go_wp2_with fail
   go_ret;exact⟨by rw[h];rfl,E.bel⟩
  by_cases aO:on=c;rotate_left
  ·have aN:((A:Int) != (c:Int))=false:=(by simp;omega);have bk:((on:Int) != (c:Int))=true:=(by simp;omega);have h:B=false:=(by rw[p.out];simp[aO]);go_wp2_with fail
   go_ret;exact⟨by rw[h];rfl,E.bel⟩
  subst aM aO;have aN:((on:Int) != (on:Int))=false:=(by simp);have aQ:Hid (B=(t.keys.zip (t.vals.zip t.over)).all (fun aC=>fq e aC.1 aC.2.1 aC.2.2)):=(by show _=_;rw[p.out];simp);clear p an;go_wp2_with fail
  clear q r s u v w;go_loopw [6,7] (fun a l wr=>∃ (f:Nat),f<=on∧a=.int .i64 f∧Hid (∀ a,a<f->fq e (t.keys.getD a .empty) (t.vals.getD a .empty) (t.over.getD a 0)=true)∧Below J.heap.size J wr) (fun a _ _=>on - (intOf a).toNat)
  case atStart=>exact⟨0,En _,rfl,fun a aR=>by omega,P⟩
  case round =>
   obtain⟨f,bl,rfl,p,z⟩:=hrel;have F:=o.below z;have aT:=F.lt;obtain⟨q,r,s,u,v,w⟩:=aS F.box;by_cases ao:f<on
   ·obtain⟨bm,bn,rfl,_,K,a3⟩:=aP.at (ak.below (z.mono ay)) ao;obtain⟨bo,bp,rfl,_,G,a4⟩:=aP.at (al.below (z.mono ay)) ao;obtain⟨bq,br,rfl,_,a5,a6⟩:=bf.at (am.below (z.mono ay)) ao;obtain⟨i,L⟩:∃ i,i=fq e (t.keys.getD f .empty) (t.vals.getD f .empty) (t.over.getD f 0):=⟨_,rfl⟩;have ap:Hid ((i=false->B=false)∧(i=true->∀ a,a<f+1->fq e (t.keys.getD a .empty) (t.vals.getD a .empty) (t.over.getD a 0)=true)):=by
     refine⟨fun aD=>?_,fun aD a aR=>?_⟩;·rw[aQ.out];exact pd av.out ao (L ▸ aD)
     ·by_cases a7:a=f;·subst a7;exact L ▸ aD
      ·exact p.out a (by omega)
    generalize t.keys.getD f .empty=O at K a3 L;generalize t.vals.getD f .empty=g at G a4 L;generalize t.over.getD f 0=l at a5 a6 L;have H:=hidI L;clear L;have a8:=G;unfold maxLen at a8;(go_upto_region 12 with fail);go_cut [124] (fun a9 az=>a9=.bool (!i)∧az=wr)
    case first =>
     by_cases m:cy O=true;rotate_left
     ·have M:cy O=false:=(by simpa using m);have j:i=false:=(by rw[H.out];simp[fq,M]);(go_wp2_with (first | (go_at_call 54;refine (eG _ K _).mono ?_;rintro b d ⟨rfl,rfl⟩;first | rw[m] | rw[M]) | (go_at_call 18;refine (cz _ _ _ _).mono ?_;rintro b d ⟨rfl,rfl⟩;rw[k]) | (go_at_call 40;refine (dH _ G _).mono ?_;rintro b d ⟨rfl,rfl⟩;rw[x])));go_meet
      exact⟨by rw[j];rfl,rfl⟩
     by_cases Q:g.size<=400;rotate_left
     ·have j:i=false:=(by rw[H.out];simp[fq,aU,Q]);(go_wp2_with (first | (go_at_call 54;refine (eG _ K _).mono ?_;rintro b d ⟨rfl,rfl⟩;first | rw[m] | rw[M]) | (go_at_call 18;refine (cz _ _ _ _).mono ?_;rintro b d ⟨rfl,rfl⟩;rw[k]) | (go_at_call 40;refine (dH _ G _).mono ?_;rintro b d ⟨rfl,rfl⟩;rw[x])));go_meet
      exact⟨by rw[j];rfl,rfl⟩
     have bs:decide ((400:Int)<g.size)=false:=(by simp;omega);by_cases R:l=0
     ·have Y:(l != 0)=false:=(by simpa using R);have S:(l == 0)=true:=(by simpa using R);by_cases y:8<g.size
      ·have x:decide (8<g.size)=true:=(by simpa using y);have j:i=!(e != 0):=(by rw[H.out];simp[fq,aU,m,Q,Y,S,y]);clear R;(go_wp2_with (first | (go_at_call 54;refine (eG _ K _).mono ?_;rintro b d ⟨rfl,rfl⟩;first | rw[m] | rw[M]) | (go_at_call 18;refine (cz _ _ _ _).mono ?_;rintro b d ⟨rfl,rfl⟩;rw[k]) | (go_at_call 40;refine (dH _ G _).mono ?_;rintro b d ⟨rfl,rfl⟩;rw[x])));go_meet
       exact⟨by rw[j];simp,rfl⟩
      ·have x:decide (8<g.size)=false:=(by simpa using y);have j:i=true:=(by rw[H.out];simp[fq,aU,m,Q,Y,S,y]);clear R;(go_wp2_with (first | (go_at_call 54;refine (eG _ K _).mono ?_;rintro b d ⟨rfl,rfl⟩;first | rw[m] | rw[M]) | (go_at_call 18;refine (cz _ _ _ _).mono ?_;rintro b d ⟨rfl,rfl⟩;rw[k]) | (go_at_call 40;refine (dH _ G _).mono ?_;rintro b d ⟨rfl,rfl⟩;rw[x])));go_meet
       exact⟨by rw[j];rfl,rfl⟩
     ·have Y:(l != 0)=true:=(by simpa using R);have S:(l == 0)=false:=(by simpa using R);by_cases U:2<=l∧l<=999;rotate_left
      ·have k:decide (2<=l∧l<=999)=false:=(by simpa using U);have j:i=false:=(by rw[H.out];simp[fq,aU,m,Q,S,ir,k]);(go_wp2_with (first | (go_at_call 54;refine (eG _ K _).mono ?_;rintro b d ⟨rfl,rfl⟩;first | rw[m] | rw[M]) | (go_at_call 18;refine (cz _ _ _ _).mono ?_;rintro b d ⟨rfl,rfl⟩;rw[k]) | (go_at_call 40;refine (dH _ G _).mono ?_;rintro b d ⟨rfl,rfl⟩;rw[x])));go_meet
       exact⟨by rw[j];rfl,rfl⟩
      have k:decide (2<=l∧l<=999)=true:=(by simpa using U);have j:i=decide (8<g.size):=by
       rw[H.out];by_cases y:8<g.size;·have:¬ g.size<=8:=(by omega);simp[fq,aU,m,Q,Y,S,k,ir,y,this]
       ·have:g.size<=8:=(by omega);simp[fq,aU,m,Q,Y,S,k,ir,y,this]
      by_cases y:8<g.size
      focus have x:decide (8<g.size)=true:=by simpa using y
      rotate_left
      focus have x:decide (8<g.size)=false:=by simpa using y
      rotate_left
      all_goals
        (go_wp2_with (first | (go_at_call 54;refine (eG _ K _).mono ?_;rintro b d ⟨rfl,rfl⟩;first | rw[m] | rw[M]) | (go_at_call 18;refine (cz _ _ _ _).mono ?_;rintro b d ⟨rfl,rfl⟩;rw[k]) | (go_at_call 40;refine (dH _ G _).mono ?_;rintro b d ⟨rfl,rfl⟩;rw[x])));go_meet
        exact⟨by rw[j,x];rfl,rfl⟩
    case rest =>
     obtain⟨rfl,rfl⟩:=hcut;by_cases U:i=true
     ·have a':Hid (∀ a,a<f+1->fq e (t.keys.getD a .empty) (t.vals.getD a .empty) (t.over.getD a 0)=true):=ap.out.2 U;subst U;clear ap p H;(go_wp2_with fail);go_roundw
      case rel=>exact⟨f+1,by omega,by go_num,a',z⟩
      case measure=>simp[intOf];omega
     ·have k:i=false:=(by simpa using U);have h:=ap.out.1 k;subst k;clear ap p H;(go_wp2_with fail);go_ret;exact⟨by rw[h];rfl,F.bel⟩
   ·have j:B=true:=by rw[aQ.out];exact rj av.out (fun a aR=>p.out a (by omega))
    (go_wp2_with fail);go_loopw [8] (fun a wr=>a=.int .i64 0∧Below J.heap.size J wr) (fun _ _=>0)
    case atStart=>exact⟨rfl,z⟩
    case round =>clear z F q r s u v w aT;obtain⟨rfl,z⟩:=hrel;have F:=o.below z;have aT:=F.lt;obtain⟨q,r,s,u,v,w⟩:=aS F.box;(go_wp2_with fail);go_ret;exact⟨by rw[j];rfl,F.bel⟩
end Go.Proofs.YtggmghkcdfjdoaaGreat
