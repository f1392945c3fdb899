import Derived.Test.YtggmghkcdfjdoaaGreatHTks
import Derived.Test.YtggmghkcdfjdoaaGreatHTga
import Derived.Deep.QuietTactic
import Derived.BigQuiet
import Derived.Deep.RegionWith
import Derived.Deep.DeepCutAuto
namespace Go.Proofs.YtggmghkcdfjdoaaGreat
open Go.RowKit Tryz
set_option linter.unusedVariables false
set_option linter.unusedSimpArgs false
set_option maxRecDepth 100000
def eP {α:Type} (xs ys:List α) (d:α) (j:Nat):Prop:=∀ i,i<j->xs.getD i d=ys.getD i d
theorem eP.eq {b:Type} {a ys:List b} {d:b} {n:Nat} (h:eP a ys d n) (g:a.length=n) (i:ys.length=n):a=ys:=by
 apply List.ext_getElem (by omega);intro c e f;have:=h c (by omega);simpa[List.getD,e,f] using this
theorem eP.succ {b:Type} {a ys:List b} {d:b} {j:Nat} (h:eP a ys d j) (e:a.getD j d=ys.getD j d):eP a ys d (j+1):=fun c g=>by
 by_cases f:c=j
 ·subst f;exact e
 ·exact h c (by omega)
theorem yL {a b:ByteArray} (h:a.toList=b.toList):a=b:=by
 have c:=ByteArray.toList_eq a;have d:=ByteArray.toList_eq b;rw[c,d] at h;cases a;cases b;simp at h ⊢;exact h
theorem uL {a b:ByteArray} (h:¬ a=b):(a.toList == b.toList)=false:=by
 simpa using fun c=>h (yL c)
theorem pk (w:World) (n:Nat):Below w.heap.size w (w.drewN n):=⟨rfl,rfl,rfl,Ek _,fun _ _=>rfl⟩
set_option maxHeartbeats 4000000 in
theorem jE (x y:TN) (bw:x.over.length=x.vals.length) (z:Option Addr) (c C:Nat) (D:Option Addr) (aD E:Nat) (F:Option Addr) (on G:Nat) (H:Option Addr) (g I:Nat) (ad:Option Addr) (q iq:Nat) (ae:Option Addr) (r af:Nat) (ag:Option Addr) (s ah:Nat) (ai:Option Addr) (t aj:Nat) (w:World) (A B aE ar:Nat) (aF:B<=w.heap.size) (aG:ar<=w.heap.size)
  (au:aP w A B z c C x.keys) (av:aP w A B D aD E x.vals) (aJ:bf w A B F on G x.over) (aw:bf w A B H g I x.kids) (aK:aP w aE ar ad q iq y.keys) (aL:aP w aE ar ae r af y.vals) (aM:bf w aE ar ag s ah y.over) (aN:bf w aE ar ai t aj y.kids) :
  Calls prog 55 #[.agg (Zs x.leaf x.page z c C D aD E F on G H g I),.agg (Zs y.leaf y.page ad q iq ae r af ag s ah ai t aj)] w fun l bx=>∃ a8,l=.returned (.bool a8)∧(a8=true ↔ x=y)∧Below w.heap.size w bx:=by
 obtain⟨h,aO⟩:=Zn w.heap.size;have ax:Hid (x.keys.length=c∧x.vals.length=aD∧x.over.length=on∧x.kids.length=g∧y.keys.length=q∧y.vals.length=r∧y.over.length=s∧y.kids.length=t):=⟨au.1,av.1,aJ.1,aw.1,aK.1,aL.1,aM.1,aN.1⟩;have bz:on=aD:=by have:=ax.out;omega
 subst bz;have bA:=Eo au.2.1 au.2.2.1;have bB:=Eo av.2.1 av.2.2.1;have bC:=Eo aw.2.1 aw.2.2.1;unfold maxLen at bA bB bC;have aQ:Hid (x=y ↔ x.leaf=y.leaf∧x.page=y.page∧x.keys=y.keys∧x.vals=y.vals∧x.over=y.over∧x.kids=y.kids):=by
  show _ ↔ _;constructor;·rintro rfl;exact⟨rfl,rfl,rfl,rfl,rfl,rfl⟩
  ·intro k;cases x;cases y;simp at k ⊢;exact k
 obtain⟨m,a9⟩:∃ ak,ak=x.leaf:=⟨_,rfl⟩;obtain⟨J,a'⟩:∃ ak,ak=y.leaf:=⟨_,rfl⟩;obtain⟨n,ba⟩:∃ ak,ak=x.page:=⟨_,rfl⟩;obtain⟨Q,bb⟩:∃ ak,ak=y.page:=⟨_,rfl⟩;rw[<-a9,<-a',<-ba,<-bb] at aQ ⊢;clear a9 a' ba bb bw;have am:=Ej (w.alloc (.cells (Zs m n z c C D on E F on G H g I) 44)) (.cells (Zs J Q ad q iq ae r af ag s ah ai t aj) 44);have aR:=Ej w (.cells (Zs m n z c C D on E F on G H g I) 44);have an:(w.alloc (.cells (Zs m n z c C D on E F on G H g I) 44)).heap.size=h+1:=by simp[aO]
 have ao:=Zb (w.alloc (.cells (Zs m n z c C D on E F on G H g I) 44)) (.cells (Zs J Q ad q iq ae r af ag s ah ai t aj) 44);have i:Below w.heap.size w ((w.alloc (.cells (Zs m n z c C D on E F on G H g I) 44)).alloc (.cells (Zs J Q ad q iq ae r af ag s ah ai t aj) 44)):=(Zb _ _).alloc (by simp) _;rw[aO] at aR;have ay:=(ao.block h (by omega)).trans aR;have az:((w.alloc (.cells (Zs m n z c C D on E F on G H g I) 44)).alloc (.cells (Zs J Q ad q iq ae r af ag s ah ai t aj) 44)).heap.size=h+2:=by simp[aO]
 rw[an] at am;have bc:=au.below (i.mono aF);have bd:=av.below (i.mono aF);have be:=aJ.below (i.mono aF);have bg:=aw.below (i.mono aF);have bh:=aK.below (i.mono aG);have bi:=aL.below (i.mono aG);have bj:=aM.below (i.mono aG);have bk:=aN.below (i.mono aG);clear aR an ao au av aJ aw aK aL aM aN;go_enter func55,ntmps55;go_upto_region 1 with fail
 generalize ((w.alloc (.cells (Zs m n z c C D on E F on G H g I) 44)).alloc (.cells (Zs J Q ad q iq ae r af ag s ah ai t aj) 44))=aT at ay am az i bc bd be bg bh bi bj bk ⊢;obtain⟨R,S,T,U,V,W⟩:=aS ay;obtain⟨X,Y,Z,aa,ab,ac⟩:=aS am;have b6:h<aT.heap.size:=by omega
 have b7:h+1<aT.heap.size:=by omega
 obtain⟨u,bl⟩:∃ u,u=(decide (m=J) && decide (n=Q) && decide (c=q) && decide (on=r) && decide (on=s) && decide (g=t)):=⟨_,rfl⟩;have K:=hidI bl;clear bl;go_cut [55] (fun bD bE=>bD=.bool (!u)∧bE=aT)
 case first =>
  by_cases aU:m=J;rotate_left
  ·have v:u=false:=(by rw[K.out];simp[aU]);have bF:(m != J)=true:=(by cases m<;>cases J<;>first | rfl | exact absurd rfl aU);go_wp2_with fail
   go_meet
   exact⟨by rw[v];rfl,rfl⟩
  subst aU;have bF:(m != m)=false:=(by simp);by_cases aV:n=Q;rotate_left
  ·have v:u=false:=(by rw[K.out];simp[aV]);have bG:(n != Q)=true:=(by simpa using aV);go_wp2_with fail
   go_meet
   exact⟨by rw[v];rfl,rfl⟩
  subst aV;have bG:(n != n)=false:=(by simp);by_cases bm:c=q;rotate_left
  ·have v:u=false:=(by rw[K.out];simp[bm]);have bn:((c:Int) != (q:Int))=true:=(by simp;omega);go_wp2_with fail
   go_meet
   exact⟨by rw[v];rfl,rfl⟩
  subst bm;have bn:((c:Int) != (c:Int))=false:=(by simp);by_cases bo:on=r;rotate_left
  ·have v:u=false:=(by rw[K.out];simp[bo]);have bH:((on:Int) != (r:Int))=true:=(by simp;omega);go_wp2_with fail
   go_meet
   exact⟨by rw[v];rfl,rfl⟩
  subst bo;have bH:((on:Int) != (on:Int))=false:=(by simp);by_cases bp:on=s;rotate_left
  ·have v:u=false:=(by rw[K.out];simp[bp]);have aH:((on:Int) != (s:Int))=true:=(by simp;omega);go_wp2_with fail
   go_meet
   exact⟨by rw[v];rfl,rfl⟩
  subst bp;have v:u=decide (g=t):=(by rw[K.out];simp);go_wp2_with fail
  go_meet
  exact⟨by rw[v];by_cases k:g=t<;>simp[k];omega,rfl⟩
 case rest =>
  obtain⟨rfl,rfl⟩:=hcut;by_cases bq:u=true;rotate_left
  ·have br:u=false:=(by simpa using bq);have L:¬ x=y:=(by rw[aQ.out];rintro ⟨bI,bJ,bK,bL,bM,bN⟩;have o:=ax.out;have:=K.out;rw[br] at this;rw[bK,bL,bM,bN] at o;simp[bI,bJ] at this;omega);subst br;go_wp2_with fail
   go_ret;exact⟨false,rfl,by simp[L],i⟩
  subst bq;have bs:=K.out;simp only[Bool.true_eq,Em,Es] at bs;obtain⟨⟨⟨⟨⟨rfl,rfl⟩,rfl⟩,rfl⟩,bO⟩,rfl⟩:=bs;subst bO;clear K R S T U V W X Y Z aa ab ac;have bn:((c:Int) != (c:Int))=false:=(by simp);go_wp2_with fail
  go_loopw [5] (fun j wr=>∃ a:Nat,a<=c∧j=.int .i64 a∧Hid (eP x.keys y.keys ByteArray.empty a)∧Below wc.heap.size wc wr) (fun j _=>c - (intOf j).toNat)
  case atStart=>exact⟨0,En _,rfl,fun j aW=>by omega,Ev _ _⟩
  case round =>
   obtain⟨a,aI,rfl,e,b⟩:=hrel;have M:=(b.block h (by omega)).trans ay;have N:=(b.block (h+1) (by omega)).trans am;obtain⟨R,S,T,U,V,W⟩:=aS M;obtain⟨X,Y,Z,aa,ab,ac⟩:=aS N;have ap:h<wr.heap.size:=(by have:=b.size;omega);have aq:h+1<wr.heap.size:=(by have:=b.size;omega);by_cases p:a<c
   ·obtain⟨ao,bP,rfl,bQ,aX,aY⟩:=aP.at (bc.below (b.mono (by omega))) p;obtain⟨aZ,bR,rfl,bS,a0,a1⟩:=aP.at (bh.below (b.mono (by omega))) p;have bt:=b.size;have bT:ao<wr.heap.size:=(by omega);have bU:aZ<wr.heap.size:=(by omega);have f:Hid (x.keys.getD a .empty=y.keys.getD a .empty->eP x.keys y.keys ByteArray.empty (a+1)):=fun l=>e.out.succ l;have d:Hid (¬ x.keys.getD a .empty=y.keys.getD a .empty->¬ x=y):=fun k l=>k (by rw[l]);generalize x.keys.getD a .empty=an at aY f d aX;generalize y.keys.getD a .empty=az at a1 f d a0;by_cases al:an=az
    ·subst al;have aA:Hid _:=f.out rfl;clear f d e;(go_wp2_with fail);go_quiet (fail)
     have aB:=b.trans ((pk wr nq).mono b.size);(go_wp2_with fail);go_roundw
     case rel=>exact⟨a+1,by omega,by go_num,aA,aB⟩
     case measure=>simp[intOf];omega
    ·have L:=d.out al;have bV:=uL al;clear f d e;(go_wp2_with fail);go_quiet (fail)
     (go_wp2_with fail);go_ret;exact⟨false,rfl,by simp[L],i.trans ((b.trans ((pk wr nq).mono b.size)).mono (by omega))⟩
   ·have bW:Hid (x.keys=y.keys):=(by have o:=ax.out;obtain rfl:a=c:=(by omega);exact e.out.eq o.1 o.2.2.2.2.1);generalize wr=bX at b M N R S T U V W X Y Z aa ab ac ap aq ⊢;(go_wp2_with fail);clear R S T U V W X Y Z aa ab ac M N ap aq e p aI;go_loopw [6] (fun j wr=>∃ a:Nat,a<=on∧j=.int .i64 a∧Hid (eP x.vals y.vals ByteArray.empty a∧eP x.over y.over 0 a)∧Below wc.heap.size wc wr) (fun j _=>on - (intOf j).toNat)
    case atStart=>exact⟨0,En _,rfl,⟨fun j aW=>by omega,fun j aW=>by omega⟩,b⟩
    case round =>
     clear b;obtain⟨a,aI,rfl,e,b⟩:=hrel;have M:=(b.block h (by omega)).trans ay;have N:=(b.block (h+1) (by omega)).trans am;obtain⟨R,S,T,U,V,W⟩:=aS M;obtain⟨X,Y,Z,aa,ab,ac⟩:=aS N;have ap:h<wr.heap.size:=(by have:=b.size;omega);have aq:h+1<wr.heap.size:=(by have:=b.size;omega);by_cases p:a<on
     ·obtain⟨ao,bP,rfl,bQ,aX,aY⟩:=aP.at (bd.below (b.mono (by omega))) p;obtain⟨aZ,bR,rfl,bS,a0,a1⟩:=aP.at (bi.below (b.mono (by omega))) p;obtain⟨a2,bY,rfl,bZ,a3,a4⟩:=bf.at (be.below (b.mono (by omega))) p;obtain⟨a5,b0,rfl,b1,a6,a7⟩:=bf.at (bj.below (b.mono (by omega))) p;have bt:=b.size;have bT:ao<wr.heap.size:=(by omega);have bU:aZ<wr.heap.size:=(by omega);have b2:a2<wr.heap.size:=(by omega);have b3:a5<wr.heap.size:=(by omega);have f:Hid (x.vals.getD a .empty=y.vals.getD a .empty->x.over.getD a 0=y.over.getD a 0->eP x.vals y.vals ByteArray.empty (a+1)∧eP x.over y.over 0 (a+1)):=fun l b4=>⟨e.out.1.succ l,e.out.2.succ b4⟩;have d:Hid (¬ (x.vals.getD a .empty=y.vals.getD a .empty∧x.over.getD a 0=y.over.getD a 0)->¬ x=y):=fun k l=>k (by rw[l];exact⟨rfl,rfl⟩);generalize x.vals.getD a .empty=an at aY f d aX;generalize y.vals.getD a .empty=az at a1 f d a0;generalize x.over.getD a 0=O at a4 f d a3;generalize y.over.getD a 0=aC at a7 f d a6;by_cases al:an=az
      ·subst al;by_cases P:O=aC
       ·subst P;have aH:(O != O)=false:=(by simp);have aA:Hid _:=f.out rfl rfl;clear f d e;(go_wp2_with fail);go_quiet (fail)
        have aB:=b.trans ((pk wr nq).mono b.size);(go_wp2_with fail);go_roundw
        case rel=>exact⟨a+1,by omega,by go_num,aA,aB⟩
        case measure=>simp[intOf];omega
       ·have L:=d.out (fun k=>P k.2);have aH:(O != aC)=true:=(by simpa using P);clear f d e P;(go_wp2_with fail);go_quiet (fail)
        (go_wp2_with fail);go_ret;exact⟨false,rfl,by simp[L],i.trans ((b.trans ((pk wr nq).mono b.size)).mono (by omega))⟩
      ·have L:=d.out (fun k=>al k.1);have bV:=uL al;clear f d e;(go_wp2_with fail);go_quiet (fail)
       (go_wp2_with fail);go_ret;exact⟨false,rfl,by simp[L],i.trans ((b.trans ((pk wr nq).mono b.size)).mono (by omega))⟩
     ·have bu:Hid (x.vals=y.vals∧x.over=y.over):=(by have o:=ax.out;obtain rfl:a=on:=(by omega);exact⟨e.out.1.eq o.2.1 o.2.2.2.2.2.1,e.out.2.eq o.2.2.1 o.2.2.2.2.2.2.1⟩);generalize wr=bX at b M N R S T U V W X Y Z aa ab ac ap aq ⊢;(go_wp2_with fail);clear R S T U V W X Y Z aa ab ac M N ap aq e p aI;go_loopw [7] (fun j wr=>∃ a:Nat,a<=g∧j=.int .i64 a∧Hid (eP x.kids y.kids 0 a)∧Below wc.heap.size wc wr) (fun j _=>g - (intOf j).toNat)
      case atStart=>exact⟨0,En _,rfl,fun j aW=>by omega,b⟩
      case round =>
       clear b;obtain⟨a,aI,rfl,e,b⟩:=hrel;have M:=(b.block h (by omega)).trans ay;have N:=(b.block (h+1) (by omega)).trans am;obtain⟨R,S,T,U,V,W⟩:=aS M;obtain⟨X,Y,Z,aa,ab,ac⟩:=aS N;have ap:h<wr.heap.size:=(by have:=b.size;omega);have aq:h+1<wr.heap.size:=(by have:=b.size;omega);by_cases p:a<g
       ·obtain⟨a2,bY,rfl,bZ,a3,a4⟩:=bf.at (bg.below (b.mono (by omega))) p;obtain⟨a5,b0,rfl,b1,a6,a7⟩:=bf.at (bk.below (b.mono (by omega))) p;have bt:=b.size;have b2:a2<wr.heap.size:=(by omega);have b3:a5<wr.heap.size:=(by omega);have f:Hid (x.kids.getD a 0=y.kids.getD a 0->eP x.kids y.kids 0 (a+1)):=fun l=>e.out.succ l;have d:Hid (¬ x.kids.getD a 0=y.kids.getD a 0->¬ x=y):=fun k l=>k (by rw[l]);generalize x.kids.getD a 0=O at a4 f d a3;generalize y.kids.getD a 0=aC at a7 f d a6;by_cases P:O=aC
        ·subst P;have aH:(O != O)=false:=(by simp);have aA:Hid _:=f.out rfl;clear f d e;(go_wp2_with fail);go_quiet (fail)
         have aB:=b.trans ((pk wr nq).mono b.size);(go_wp2_with fail);go_roundw
         case rel=>exact⟨a+1,by omega,by go_num,aA,aB⟩
         case measure=>simp[intOf];omega
        ·have L:=d.out P;have aH:(O != aC)=true:=(by simpa using P);clear f d e P;(go_wp2_with fail);go_quiet (fail)
         (go_wp2_with fail);go_ret;exact⟨false,rfl,by simp[L],i.trans ((b.trans ((pk wr nq).mono b.size)).mono (by omega))⟩
       ·have bv:x=y:=(by have o:=ax.out;obtain rfl:a=g:=(by omega);rw[aQ.out];exact⟨trivial,trivial,bW.out,bu.out.1,bu.out.2,e.out.eq o.2.2.2.1 o.2.2.2.2.2.2.2⟩);have b5:=hidI bv;clear bv e;(go_wp2_with fail);go_ret;exact⟨true,rfl,by simp[b5.out],i.trans (b.mono (by omega))⟩
end Go.Proofs.YtggmghkcdfjdoaaGreat
