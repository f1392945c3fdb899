import Derived.Test.YtggmghkcdfjdoaaGreatHTks
import Derived.Test.YtggmghkcdfjdoaaGreatHTlc
namespace Go.Proofs.YtggmghkcdfjdoaaGreat
open Go.RowKit Tryz
set_option linter.unusedVariables false
set_option linter.unusedSimpArgs false
set_option maxRecDepth 100000
set_option maxHeartbeats 4000000 in
theorem sJ (C:Nat) (t:T) (O:t.leaf=false) (H:Bool) (ax:∀ a ∈ t.kids,ep 34 C a [.bool false] (fun u r I=>r=.returned (.bool (a.good false && a.slots.all (fun f=>cy f.1)))∧Below u.heap.size u I)):ep 34 C t [.bool H] (fun u r I=>r=.returned (.bool (t.good H && t.slots.all (fun f=>cy f.1)))∧Below u.heap.size u I):=by
 intro u P Q R S U V W on X Y Z bl ay y;have e:=jB.new u (Zs t.leaf t.page P Q R S U V W on X Y t.kids.length Z);have J:=y.belowC (e.bel.mono ay);have E:=uC O H;have aN:Hid (t.size=t.kids.length):=by show _=_;unfold T.size;rw[O];rfl
 have az:=Eo y.cap.1 y.cap.2;have aO:=Eo y.keys.2.1 y.keys.2.2.1;unfold maxLen at az aO;obtain⟨d,aa⟩:∃ d,d=t.kids.length:=⟨_,rfl⟩;have aA:=hidI aa;have af:Hid (∀ K,Calls prog 53 #[.agg (Zs false t.page P Q R S U V W on X Y d Z)] K fun r I=>r=.returned (.int .i64 d)∧Below K.heap.size K I):=fun K=>by have:=fV t P Q R S U V W on X Y Z K y.keys.1;rw[O,aN.out,<-aa] at this;exact this
 have aP:=hidI ax;clear y ax;obtain⟨F,aB⟩:∃ F,F=(t.good H && t.slots.all (fun f=>cy f.1)):=⟨_,rfl⟩;rw[<-aB] at E ⊢;clear aB;rw[<-aa] at e J az E ⊢;clear aa;rw[O] at e J ⊢;have ag:Hid _:=J;obtain⟨b,ah⟩:∃ b,b=t.page:=⟨_,rfl⟩;rw[<-ah] at e J af E ⊢;rw[<-ah] at ag;clear ah J;obtain⟨s,ai⟩:∃ s,s=(decide (2<=d∧d<=4) && (b == 0 || ir b)):=⟨_,rfl⟩;rw[<-ai] at E;have L:=hidI ai;have q:=hidI E;clear ai E;generalize aC:u.alloc (.cells (Zs false b P Q R S U V W on X Y d Z) 57)=z at e ag;have aQ:=hidI aC;clear aC;have aR:=Eo ay (Nat.le_of_lt e.lt);cases H
 all_goals
  go_enter func34,ntmps34;go_upto_region 4 with fail
  rw[aQ.out];have bm:=e.lt;obtain⟨h,j,k,l,m,n⟩:=aS e.box;go_cut [33] (fun aT aU=>aT=.bool (!s)∧Below z.heap.size z aU)
  case first =>
   go_wp2_with fail
   refine (af.out z).mono ?_;rintro r aj ⟨rfl,v⟩;have ak:=e.below v;have bn:=ak.lt;clear h j k l m n;obtain⟨h,j,k,l,m,n⟩:=aS ak.box;by_cases bo:d<2
   ·have g:s=false:=(by rw[L.out];simp;omega);(go_wp2_with fail);go_meet
    exact⟨by rw[g];rfl,v⟩
   ·have aV:decide ((d:Int)<2)=false:=(by simp<;>omega);(go_wp2_with fail);refine (af.out aj).mono ?_;rintro r bp ⟨rfl,aD⟩;have A:=ak.below aD;have B:=v.trans (aD.mono v.size);have aE:=A.lt;clear h j k l m n;obtain⟨h,j,k,l,m,n⟩:=aS A.box;by_cases bq:4<d
    ·have g:s=false:=(by rw[L.out];simp;omega);(go_wp2_with fail);go_meet
     exact⟨by rw[g];rfl,B⟩
    ·have br:decide ((4:Int)<d)=false:=(by simp;omega);by_cases M:b=0
     ·have aW:(b != 0)=false:=(by simpa using M);have g:s=true:=(by rw[L.out];simp[M];omega);clear M;(go_wp2_with fail);go_meet
      exact⟨by rw[g];rfl,B⟩
     ·have aW:(b != 0)=true:=(by simpa using M);have g:s=ir b:=by rw[L.out,show decide (2<=d∧d<=4)=true by simp;omega,show (b == 0)=false by simpa using M];simp
      (go_wp2_with (go_at_call 18;refine (cz _ _ _ _).mono ?_;rintro r bs ⟨rfl,rfl⟩));go_meet
      exact⟨by rw[g];simp[ir],B⟩
  case rest =>
   obtain⟨rfl,B⟩:=hcut;have A:=e.below B;have aE:=A.lt;clear h j k l m n;obtain⟨h,j,k,l,m,n⟩:=aS A.box;by_cases aF:s=true;rotate_left;·have aG:s=false:=(by simpa using aF);have g:F=false:=(by rw[q.out,aG];simp);subst aG;(go_wp2_with fail);go_ret;exact⟨by rw[g];rfl,A.bel⟩
   subst aF;have aH:Hid (F=t.kids.all (fun a=>(a.good false && a.slots.all (fun f=>cy f.1)) && !(b != 0 && a.page == 0))):=(by show _=_;rw[q.out];simp);clear q L;go_wp2_with fail
   clear h j k l m n;go_loopw [6,7] (fun c aX wr=>c=.int .i64 0∧aX=undef∧Below z.heap.size z wr) (fun c _ _=>0)
   case atStart=>exact⟨rfl,rfl,B⟩
   case round =>
    obtain⟨rfl,rfl,w⟩:=hrel;clear B A aE;have D:=e.below w;have aI:=D.lt;obtain⟨h,j,k,l,m,n⟩:=aS D.box;go_wp2_with fail
    all_goals
     clear h j k l m n;go_loopw [8] (fun c wr=>∃ (o:Nat),o<=d∧c=.int .i64 o∧Hid (∀ c a,c<o->t.kids[c]?=some a->((a.good false && a.slots.all (fun f=>cy f.1)) && !(b != 0 && a.page == 0))=true)∧Below z.heap.size z wr) (fun c _=>d - (intOf c).toNat)
     case atStart=>exact⟨0,En _,rfl,fun c a ab=>by omega,w⟩
     case round =>
      clear w D aI;obtain⟨o,bt,rfl,q,w⟩:=hrel;have D:=e.below w;have aI:=D.lt;obtain⟨h,j,k,l,m,n⟩:=aS D.box;by_cases bu:o<d
      ·obtain⟨al,aY,rfl,bv,a,aJ,am,aZ,a0,a1,a2,a3,a4,a5,a6,a7,a8,a9,a',aK,ba,aL,bb,bc,bd,be⟩:=(ag.out.belowC (w.mono aR)).at (i:=o) (by have:=aA.out;omega);have an:=aP.out a am;obtain⟨G,ac⟩:∃ G,G=(a.good false && a.slots.all (fun f=>cy f.1)):=⟨_,rfl⟩;rw[<-ac] at an;have x:Hid (((G && !(b != 0 && a.page == 0))=false->F=false)∧((G && !(b != 0 && a.page == 0))=true->∀ c a,c<o+1->t.kids[c]?=some a->((a.good false && a.slots.all (fun f=>cy f.1)) && !(b != 0 && a.page == 0))=true)):=by
        refine⟨fun ao=>?_,fun ao c bf ab ap=>?_⟩;·rw[aH.out,<-Bool.not_eq_true];intro bg;have:=Ez.1 bg a am;rw[<-ac,ao] at this;cases this
        ·by_cases bh:c=o;·subst bh;rw[aJ] at ap;cases ap;rw[<-ac];exact ao
         ·exact q.out c bf (by omega) ap
       clear aJ am ac;(go_wp2_with fail);refine (an wr aZ a0 a1 a2 a3 a4 a5 a6 a7 a8 a9 a' (by omega) aK).mono ?_;rintro r aj ⟨rfl,v⟩;have aq:=w.trans (v.mono w.size);have ad:=e.below aq;have bw:=ad.lt;have aV:=(v.cell (p:=⟨al,aY+o*6+1,none⟩) (show al<wr.heap.size by have:=e.lt;omega)).trans aL;have bx:al<aj.heap.size:=(by have:=v.size;omega);clear ba aL bb bc bd be aK an h j k l m n;obtain⟨h,j,k,l,m,n⟩:=aS ad.box;generalize a.page=ar at *;by_cases aM:G=true
       ·subst aM;by_cases N:b=0
        ·have au:(b != 0)=false:=(by simpa using N);have av:=hidI (x.out.2 (by simp[au]));clear x q N;(go_wp2_with fail);go_roundw
         case rel=>exact⟨o+1,by omega,by go_num,av,aq⟩
         case measure=>simp[intOf];omega
        ·have au:(b != 0)=true:=(by simpa using N);by_cases ae:ar=0;·have aw:(ar == 0)=true:=(by simpa using ae);have g:=x.out.1 (by simp[au,aw]);clear x q N ae;(go_wp2_with fail);go_ret;exact⟨by rw[g];rfl,ad.bel⟩
         ·have aw:(ar == 0)=false:=(by simpa using ae);have av:=hidI (x.out.2 (by simp[aw]));clear x q N ae;(go_wp2_with fail);go_roundw
          case rel=>exact⟨o+1,by omega,by go_num,av,aq⟩
          case measure=>simp[intOf];omega
       ·have bi:G=false:=(by simpa using aM);subst bi;have g:=x.out.1 (by simp);clear x q;(go_wp2_with fail);go_ret;exact⟨by rw[g];rfl,ad.bel⟩
      ·have bj:F=true:=by rw[aH.out,Ez];intro a bk;obtain⟨c,ab⟩:=List.mem_iff_getElem?.1 bk;exact q.out c a (by have:=Zc ab;have:=aA.out;omega) ab
       (go_wp2_with fail);go_ret;exact⟨by rw[bj];rfl,D.bel⟩
theorem wt (C:Nat) (t:T) (b:cg t):∀ a,ep 34 C t [.bool a] (fun d g i=>g=.returned (.bool (t.good a && t.slots.all (fun j=>cy j.1)))∧Below d.heap.size d i):=by
 induction t using T.ind with
 |h t k=>
  intro a;by_cases c:t.leaf=true
  ·cases a;·exact sH C t b c
   ·exact sI C t b c
  ·exact sJ C t (by simpa using c) a (fun e f=>k e f (((bj t).1 b).2 e f) false)
end Go.Proofs.YtggmghkcdfjdoaaGreat
