import Derived.Test.YtggmghkcdfjdoaaGreatHTks
import Derived.Test.YtggmghkcdfjdoaaGreatHTga
import Derived.Test.YtggmghkcdfjdoaaGreatHTpw
import Derived.Test.YtggmghkcdfjdoaaGreatHTlh
import Derived.Test.YtggmghkcdfjdoaaGreatHIn
import Derived.Test.YtggmghkcdfjdoaaGreatHTge
import Derived.Test.YtggmghkcdfjdoaaGreatHTli
import Derived.BigQuiet
import Derived.Laws.Tables
import Derived.Shelf.Spec.SlicesInsertGrow
import Derived.Deep.RegionLaw
import Derived.Laws.AppendOwn
import Derived.ArgAppend
import Derived.Deep.QuietTactic
namespace Go.Proofs.YtggmghkcdfjdoaaGreat
set_option maxHeartbeats 4000000
open Go.RowKit Tryz
set_option linter.unusedVariables false
set_option linter.unusedSimpArgs false
set_option maxRecDepth 100000
variable {P:Nat->Prop} {a:Option Addr} {base c f n nx:Nat} {met:Int->Bool} {ts:List TN} {w:World}
theorem iz.up {d w':World} {b:Nat} {f:Option (T × Nat × (Int->Bool))} {e:Ending} (h:iz d b a n c f e w') (g:Fr (fun k=>k=b) w d):iz w b a n c f e w':=by
 obtain⟨l,m,o⟩:=h;refine⟨l,fun i p q r=>?_,g.trans o⟩;obtain⟨j,s,t,u⟩:=m i p q r;have:=g.size;exact⟨j,s,GM.keep i _ _ j (fun _ _=>rfl) (fun x v=>⟨by omega,v.2⟩) t,u⟩
theorem Bf {m:Int->Bool} (c:¬ nx=ts.length) (d:eT met (ts.getD nx dT).page=some m) (e:(ts.getD nx dT).leaf=true):gr ts (f+1) nx met=iA (ts.getD nx dT) (nx+1) m:=by
 unfold gr iA;rw[if_neg c,d];simp only[e,if_true];generalize ts.getD nx dT=a;by_cases b:4<a.keys.length∨a.vals.length≠a.keys.length∨a.over.length≠a.keys.length∨0<a.kids.length;·rw[if_pos b,if_pos b]
 ·rw[if_neg b,if_neg b];cases gH a.page (a.vals.zip a.over) m<;>rfl
theorem zU {m:Int->Bool} (c:¬ nx=ts.length) (d:eT met (ts.getD nx dT).page=some m) (e:(ts.getD nx dT).leaf=false):gr ts (f+1) nx met=gi ts f (ts.getD nx dT) (nx+1) m:=by
 unfold gr gi;rw[if_neg c,d];simp only[e,EC,EO];generalize ts.getD nx dT=a;by_cases b:a.kids.length<2∨4<a.kids.length∨a.keys.length+1≠a.kids.length∨0<a.vals.length∨0<a.over.length;·rw[if_pos b,if_pos b]
 ·rw[if_neg b,if_neg b];cases nh a.page a.keys (gr ts f) a.kids [] (nx+1) m with
  | none=>rfl
  | some g=>obtain⟨h,i,j⟩:=g;rfl
theorem Bg (a:eT met (ts.getD nx dT).page=none):gr ts (f+1) nx met=none:=by
 unfold gr;split;·rfl
 ·rw[a]
theorem Ce (h:nx=ts.length):gr ts (f+1) nx met=none:=by
 unfold gr;rw[if_pos h]
theorem my (ts:List TN) (ay:ts.length<=1000) (a:Option Addr) (n c A B e:Nat) (V:B<=e):∀ f,zT ts f a n c A B e
 | 0=>fun nx met w W a2 _ _=>by omega
 | f+1=>by
  have X:=my ts ay a n c A B e V f
  intro nx met w bB bC G C
  have az:=C.c0
  have aA:=C.c1
  have bD:=C.lt
  have M:=hidI G.1
  by_cases N:nx=ts.length
  ·have Y:gr ts (f+1) nx met=none:=Ce N
   have aB:=hidI Y
   have a3:nx=n:=by have:=M.out;omega
   rw[Y]
   clear Y N G C X
   subst a3
   have a4:((nx:Int) == (nx:Int))=true:=by simp
   go_enter func44,ntmps44
   go_upto_region 1 with fail
   go_quiet (fail)
   go_wp2_with fail
   refine bodyPost_ret (v:=.tuple #[.nilIface,.bool false]) (by simp[results,results44,go_sem]) rfl ?_
   exact⟨fun _=>rfl,(fun Z aa a5 O=>by cases O),⟨rfl,rfl,rfl,Ek _,fun _ _ _=>rfl⟩⟩
  ·have a6:nx<n:=by have:=M.out;omega
   obtain⟨b,d,rfl,bE,g,h,i,j,k,l,m,on,o,p,q,r,H⟩:=G.at a6
   have aC:=hidI N
   have a7:=hidI X
   have a8:=hidI G
   have aD:=hidI C
   have aE:Hid (aP w A B g h i (ts.getD nx dT).keys∧aP w A B j k l (ts.getD nx dT).vals∧bf w A B m on o (ts.getD nx dT).over∧bf w A B p q r (ts.getD nx dT).kids):=⟨H.keys,H.vals,H.over,H.kids⟩
   obtain⟨I,P,aF,aG,aH,aI,_,_,_,_,_⟩:=H
   obtain⟨s,ab⟩:=Zn (ts.getD nx dT)
   have u:=hidI ab
   rw[ab] at aE I P
   obtain⟨x,ac⟩:=Zn s.leaf
   obtain⟨y,ad⟩:=Zn s.page
   have D:Hid (s.leaf=x∧s.page=y):=⟨ac,ad⟩
   rw[ac] at I
   rw[ad] at P
   have bF:=aO I
   have a4:((nx:Int) == (n:Int))=false:=by simp;omega
   obtain⟨Q,z⟩:=Zn (gr ts (f+1) nx met)
   have ae:=hidI z
   rw[z]
   obtain⟨J,a9⟩:=Zn w.heap.size
   have bG:n<=1000:=by have:=M.out;omega
   clear G C X N ab ac ad z
   go_enter func44,ntmps44
   go_upto_region 1 with fail
   go_quiet (fail)
   have a':Hid (Fr (fun ag=>ag=e) w (w.drewN nq)):=⟨rfl,rfl,rfl,Ek _,fun _ _ _=>rfl⟩
   have ba:Hid (eN (w.drewN nq) e (some ⟨b,d,none⟩) n c nx met):=aD.out.keep rfl
   have bb:(w.drewN nq).heap.size=J:=a9
   have bc:(w.drewN nq).cell? ⟨b,d+nx*6,none⟩=some (.bool x):=I
   have bd:(w.drewN nq).cell? ⟨b,d+nx*6+1,none⟩=some (.int .i64 y):=P
   have be:(w.drewN nq).cell? ⟨b,d+nx*6+2,none⟩=some (.slice g h i):=aF
   have bg:(w.drewN nq).cell? ⟨b,d+nx*6+3,none⟩=some (.slice j k l):=aG
   have bh:(w.drewN nq).cell? ⟨b,d+nx*6+4,none⟩=some (.slice m on o):=aH
   have bi:(w.drewN nq).cell? ⟨b,d+nx*6+5,none⟩=some (.slice p q r):=aI
   have bj:(w.drewN nq).cell? ⟨e,0,none⟩=some (.slice (some ⟨b,d,none⟩) n c):=az
   have bk:(w.drewN nq).cell? ⟨e,1,none⟩=some (.int .i64 nx):=aA
   clear I P aF aG aH aI az aA aD
   generalize w.drewN nq=E at *
   have bH:b<E.heap.size:=by omega
   have bl:e<E.heap.size:=by omega
   go_upto_region 3 with fail
   go_cut [4] (fun bm aJ=>bm=.pointer (some ⟨J,0,none⟩)∧aJ.heap[J]?=some (.cells (Zs x y g h i j k l m on o p q r) 44)∧Below E.heap.size E aJ)
   case first =>
    go_region_held3 (fun t=>t.cell? ⟨e,0,none⟩=some (.slice (some ⟨b,d,none⟩) n c)∧t.cell? ⟨e,1,none⟩=some (.int .i64 nx)∧t.cell? ⟨b,d+nx*6,none⟩=some (.bool x)∧t.cell? ⟨b,d+nx*6+1,none⟩=some (.int .i64 y)∧t.cell? ⟨b,d+nx*6+2,none⟩=some (.slice g h i)∧t.cell? ⟨b,d+nx*6+3,none⟩=some (.slice j k l)∧t.cell? ⟨b,d+nx*6+4,none⟩=some (.slice m on o)∧t.cell? ⟨b,d+nx*6+5,none⟩=some (.slice p q r)) (go_keep) (fail)
    have bn:=Zb E (.cells (Zs x y g h i j k l m on o p q r) 44)
    have aK:=Ej E (.cells (Zs x y g h i j k l m on o p q r) 44)
    rw[bb] at aK
    go_wp2_with fail
    go_meet
    exact⟨rfl,aK,bn.drew⟩
   case rest =>
    obtain⟨rfl,ah,ai⟩:=hcut
    have K:=ba.out.keep (ai.block e bl)
    have bo:=hidI (a'.out.trans (Fr.of_below ai))
    have bp:=Za ah
    have aj:=K.step (nx+1)
    have ak:=af wc e 1 (.int .i64 ((nx+1:Nat):Int))
    have aL:=hidI (bo.out.trans ak)
    have L:=(ak.block J bp (by omega)).trans ah
    have W:=K.c1
    have bq:=K.thaw
    have br:=K.lt
    have bs:((nx+1:Nat):Int)=(nx:Int)+1:=by omega
    rw[bs] at aj aL L
    clear bc bd be bg bh bi bj bk ai ak ah K
    go_upto_region 5 with fail
    generalize wc.setCell ⟨e,1,none⟩ (.int .i64 ((nx:Int)+1))=bt at *
    obtain⟨aM,aN,aQ,aR,aS,aT⟩:=aq L
    have bu:=Za L
    have aU:=ux bt e (some ⟨b,d,none⟩) n c (nx+1) met y aj
    clear W bq br
    go_wp2_with fail
    refine aU.mono ?_
    rintro bv al ⟨bw,rfl,am,an,ao⟩
    have ap:=hidI (aL.out.trans ao)
    have R:=(ao.block J bu (by omega)).trans L
    clear aU aM aN aQ aR aS aT aj ao L
    cases bw
    ·have aB:Hid (Q=none):=by
      show _=_;rw[<-ae.out];refine Bg ?_;rw[u.out,D.out.2];exact an rfl
     clear am an R;(go_wp2_with fail);refine bodyPost_ret (v:=.tuple #[.nilIface,.bool false]) (by simp[results,results44,go_sem]) rfl ?_;exact⟨fun _=>rfl,(fun Z aa a5 O=>by rw[aB.out] at O;cases O),ap.out⟩
    ·obtain⟨S,aV,ar⟩:=am rfl;clear am an;obtain⟨aM,aN,aQ,aR,aS,aT⟩:=aq R;have bI:=Za R;have F:eS A B w al:=fun ag W a2=>ap.out.block ag (by omega) (by omega);have aW:=a8.out.keep F;obtain⟨aX,aY,aZ,a0⟩:=aE.out;have au:=aX.keep F;have av:=aY.keep F;have aw:=aZ.keep F;have ax:=a0.keep F;clear aX aY aZ a0;cases x
     focus
       have z:Q=gi ts f s (nx+1) S:=(by rw[<-ae.out,<-u.out];exact zU aC.out (by rw[u.out,D.out.2];exact aV) (by rw[u.out];exact D.out.1));have T:=qH ts ay f (some ⟨b,d,none⟩) n c A B e a7.out s g h i j k l m on o p q r false al (nx+1) S V (by have:=M.out;omega) (by omega) aW ar au av aw ax
     rotate_left
     focus
       have z:Q=iA s (nx+1) S:=(by rw[<-ae.out,<-u.out];exact Bf aC.out (by rw[u.out,D.out.2];exact aV) (by rw[u.out];exact D.out.1));have T:=sF s g h i j k l m on o p q r true al e (some ⟨b,d,none⟩) n c (nx+1) S A B V ar au av aw ax
     rotate_left
     all_goals
       rw[<-z,D.out.2] at T;clear z aW au av aw ax F R ar;(go_wp2_with fail);refine T.mono ?_;intro bv bJ a1;have U:=a1.up ap.out;clear a1 T;cases Q with
       |none=>obtain rfl:=U.1 rfl;(go_wp2_with fail);refine bodyPost_ret (v:=.tuple #[.nilIface,.bool false]) (by simp[results,results44,go_sem]) rfl ?_;exact U
       |some bx=>obtain⟨Z,aa,bz⟩:=bx;obtain⟨bA,rfl,_⟩:=U.2.1 Z aa bz rfl;(go_wp2_with fail);refine bodyPost_ret (v:=.tuple #[bA,.bool true]) (by simp[results,results44,go_sem]) rfl ?_;exact U
theorem mB {P:Program} (w:World) {ops:Array Oper} {rest:List Oper} {o:Oper} {a:Act} {Q:Exit->Act->World->Prop} (q:o.guard=none) (s x:Operand) (t:TypeId)
  (r:o.op=.call { callee:=.builtin .append,args:=#[s,x],argTypes:=#[t,t] })
  (base:Nat) (e:TypeId) (i:TypeInfo) (z:Value) (k:Nat) (ht:P.underlying t=some (.slice e)) (u:P.info? e=some i) (F:i.zero=some z)
  (G:i.size=3) (H:i.bytes=k) (I:z.cells.size=3)
  (v:Value) (n:Nat) (f:List Value) (y:a.eval s=v) (l:w.ownsRow base e 3 v n f)
  {J:Nat->Prop} {b:Option Addr} {m c:Nat} {zs:List (ByteArray × ByteArray × Int)} (A:a.eval x=.slice b m c) (K:qF w J b m c zs)
  (L:n+m<=maxLen) (M:(n+m)*k<=140737488355328) (N:base<=w.heap.size)
  (h:∀ g d,d.ownsRow base e 3 g (n+m) (f++aa aB zs)->w.grownBy d v.ownBlock->wpList P ops Q rest (a.put o.dst g) d):wpList P ops Q (o::rest) a w:=by
 obtain⟨p,Z,ab,B⟩:=K;cases b with
 |none=>
  have O:m=0:=by
   rcases Fo m with h | h;·exact h
   ·obtain⟨R,e,_⟩:=B h;cases e
  subst O;have j:=E7 p;subst j;refine wpList_plain q fun _ S=>?_;have T:=iQ (P:=P) w base t o.type e i 3 ht u _ n f l c;unfold Oper.wp execOp;simp only[r,resolve,invoke,builtin,Sem.run_bind,Sem.run_pure,Result.andThen_ok,List.map_toArray,Ex,E6,y,A,T];exact S _ _ (h v w (by simpa[aa] using l) ⟨rfl,rfl,rfl,Ek _,fun _ _ _=>rfl⟩)
 |some b=>
  refine ak w q s x t r base e i z 3 k ht u F G H I (by omega) v n f y l b m c (aa aB zs) A (by rw[ay uo,p]) (fun C U D=>?_) (fun U E=>?_) L M N (fun g d V W _=>h g d V W)
  ·have X:C<m*3:=by
    have:=Zc D
    rwa [ay uo,p] at this
   obtain⟨R,e,ac,Y⟩:=B (by omega);cases e;rw[nt,Y C X,D]
  ·simp only[aa,List.mem_flatMap,aB] at E;obtain⟨ad,_,j⟩:=E;simp at j;rcases j with rfl | rfl | rfl<;>rfl
def CM (base:Nat) (w:World) (zs:List (ByteArray × ByteArray × Int)) (ty:TypeId) (v:Value):Prop :=
 (∀ w,(nilAhead 290 ty v "loop.example/s02098/impl.slots").run prog w=.ok (some false) w)∧∃ f r,(∀ w,(method 290 ty v "loop.example/s02098/impl.slots").run prog w=.ok (f,r) w)∧(∀ x w,(callFunc f #[r,x]).run prog w=.ok (.enter f #[r,x]) w) ∧
  ∀ (w':World),Below base w w'->∀ (oa:Option Addr) (on oc:Nat) (xs:List Value),w'.ownsRow base 75 3 (.slice oa on oc) on xs->on+zs.length<=100000->base<=w'.heap.size->Calls prog f #[r,.slice oa on oc] w' fun e w2=>∃ oa' oc',e=.returned (.slice oa' (on+zs.length) oc')∧w2.ownsRow base 75 3 (.slice oa' (on+zs.length) oc') (on+zs.length) (xs++aa aB zs)∧Fr (fun k=>base<=k) w' w2
theorem uH {t:T} {L:Nat} (h:gI w P t L a n c) (k:∀ b,P b->b<base) (w':World) (l:Below base w w') (f:Option Addr) (on g:Nat) (i:List Value) (m:w'.ownsRow base 75 3 (.slice f on g) on i) (H:on+n<=100000) (q:base<=w'.heap.size) :
  Calls prog 115 #[.pointer (some ⟨L,0,none⟩),.slice f on g] w' fun r j=>∃ d e,r=.returned (.slice d (on+n) e)∧j.ownsRow base 75 3 (.slice d (on+n) e) (on+n) (i++aa aB (t.keys.zip (t.vals.zip t.over)))∧Fr (fun s=>base<=s) w' j:=by
 have u:=k L h.at';have o:=(l.block L u).trans h.box;obtain⟨I,J⟩:=au o;have K:L<w'.heap.size:=by omega
 have v:=h.row.keep (fun b x=>l.block b (k b x)) (fun b h=>h);have y:=fun z A=>(m.lt z A).1;obtain⟨B,C,D,E,F⟩:=info_parts iN;clear h o;generalize t.keys.zip (t.vals.zip t.over)=M at *;generalize t.page=N at *;go_enter func115,ntmps115;go_wp2_with (at_builtin;refine mB _ rfl _ _ 119 rfl base 75 B _ 40 underlying119 C D E F rfl (.slice f on g) on i rfl m rfl v (by unfold maxLen;omega) (by omega) q ?_;intro O j p G)
 obtain⟨d,e,rfl⟩:=ao p;go_ret;exact⟨d,e,rfl,p,Fr.of_grown G y⟩
theorem sM {t:T} {L:Nat} {us:Nat->Value} (h:eM w P t L a n c us) (D:∀ g,P g->g<base) (E:∀ e b,t.kids[e]?=some b->∃ v x,us e=.iface v x∧CM base w b.slots v x) (w':World) (q:Below base w w') (y:Option Addr) (on z:Nat) (r:List Value) (k:w'.ownsRow base 75 3 (.slice y on z) on r) (X:on+((t.kids.map T.slots).flatten).length<=100000) (Y:base<=w'.heap.size) :
  Calls prog 94 #[.pointer (some ⟨L,0,none⟩),.slice y on z] w' fun j s=>∃ F G,j=.returned (.slice F (on+((t.kids.map T.slots).flatten).length) G)∧s.ownsRow base 75 3 (.slice F (on+((t.kids.map T.slots).flatten).length) G) (on+((t.kids.map T.slots).flatten).length) (r++aa aB (t.kids.map T.slots).flatten)∧Fr (fun b=>base<=b) w' s:=by
 have Z:=D L h.at';have H:=(q.block L Z).trans h.box;obtain⟨ab,ac⟩:=au H;have az:L<w'.heap.size:=by omega
 have I:=hidI h.len.1;have ad:=Eo h.len.2.1 h.len.2.2;unfold maxLen at ad;have ae:Hid (∀ wr,Fr (fun b=>base<=b) w' wr->∀ e,e<n->∃ g,a=some ⟨g,0,none⟩∧g<wr.heap.size∧wr.cell? ⟨g,e,none⟩=some (us e)):=fun wr af e ag=>by obtain⟨g,j,ah,ai⟩:=h.row (by omega);have:=D g ah;have u:wr.cell? ⟨g,e,none⟩=some (us e):=(by rw[Ep (w:=w) (a:=⟨g,e,none⟩) ((af.block g (by omega) (by omega)).trans (q.block g this))];exact ai e ag);exact⟨g,j,aO u,u⟩
 have aj:=hidI E;obtain⟨ak,A⟩:=Zn ((t.kids.map T.slots).flatten);have J:=hidI A;rw[A] at X ⊢;have al:=hidI q;clear h E H A q;generalize t.page=aA at *;go_enter func94,ntmps94;go_wp2_with fail
 clear ab ac;go_loopw [1,12] (fun am e wr=>∃ (d i:Nat) (l:Option Addr) (m:Nat),d<=n∧e=.int .i64 d∧am=.slice l i m∧Hid (i=on+(((t.kids.map T.slots).take d).flatten).length)∧wr.ownsRow base 75 3 (.slice l i m) i (r++aa aB ((t.kids.map T.slots).take d).flatten)∧Fr (fun b=>base<=b) w' wr) (fun _ e _=>n - (intOf e).toNat)
 case atStart=>exact⟨0,on,y,z,En _,rfl,rfl,by show _=_;simp,by simpa[aa] using k,Fr.refl _ _⟩
 case round =>
  clear k;obtain⟨d,i,l,m,aC,rfl,rfl,o,k,p⟩:=hrel;by_cases an:d<n
  ·obtain⟨g,rfl,aE,u⟩:=ae.out wr p d an;obtain⟨b,K⟩:∃ b,t.kids[d]?=some b:=⟨_,Eh (by have:=I.out;omega)⟩;obtain⟨v,x,M,aF,f,aG,aH,N,O⟩:=aj.out d b K;rw[M] at u;have B:((t.kids.map T.slots).take (d+1)).flatten=((t.kids.map T.slots).take d).flatten++b.slots:=(by obtain⟨ao,j⟩:=EQ.1 K;rw[ER (by simpa using ao),Fc];simp[j]);have Q:=jd (t.kids.map T.slots) (d+1);have ap:i+b.slots.length<=100000:=(by rw[B,El,J.out] at Q;have:=o.out;omega);have R:=O wr (al.out.trans (p.below Y (fun aI j=>j))) l i m _ k ap (by have:=p.size;omega);have C:Hid _:=B;have aJ:=N (.slice l i m);clear B Q O k M N;go_wp2_with fail
   refine R.mono ?_;rintro j s ⟨S,U,rfl,V,W⟩;have aq:s.ownsRow base 75 3 (.slice S (i+b.slots.length) U) (i+b.slots.length) (r++aa aB ((t.kids.map T.slots).take (d+1)).flatten):=(by rw[C.out,aD,<-EA];exact V);have ar:Hid (i+b.slots.length=on+(((t.kids.map T.slots).take (d+1)).flatten).length):=(by show _=_;rw[C.out,El];have:=o.out;omega);have av:=p.trans W;clear R V o p W C;generalize b.slots.length=aw at *;go_wp2_with fail
   go_roundw
   case rel=>exact⟨d+1,i+aw,S,U,by omega,by go_num,rfl,ar,aq,av⟩
   case measure=>simp[intOf];omega
  ·have ax:Hid (((t.kids.map T.slots).take d).flatten=ak):=(by show _=_;rw[<-J.out,Ey (by simp;have:=I.out;omega)]);rw[ax.out] at k o;have ay:=o.out;clear o;subst ay;go_wp2_with fail
   go_ret;exact⟨l,m,rfl,k,p⟩
theorem gf.slots (A:∀ b,P b->b<base):∀ (d:T) (i:TypeId) (j:Value),cg d->gf w P d (.iface i j)->CM base w d.slots i j:=by
 intro d
 induction d using T.ind with
 |h d G=>
  intro i j k B;rw[bj] at k;cases e:d.leaf;·obtain⟨l,a,n,c,K,m,f⟩:=B.inner e;cases m;have o:d.slots=(d.kids.map T.slots).flatten:=(by rw[T.slots_eq,if_neg (by simp[e]),ED]);rw[o];refine⟨fun w=>by kernel_rfl,94,.pointer (some ⟨l,0,none⟩),fun w=>by kernel_rfl,fun H w=>by kernel_rfl,fun p q r on s t u g v=>?_⟩;refine sM f A (fun I x C=>?_) p q r on s t u g v;have y:=Ew C;have z:=f.kid I x y C;obtain⟨D,E,F⟩:=z.shape;rw[F] at z;exact⟨D,E,F,G x y D E (k.2 x y) z⟩
  ·obtain⟨l,a,n,c,m,f⟩:=B.leaf e;cases m;have o:d.slots=d.keys.zip (d.vals.zip d.over):=(by rw[T.slots_eq,if_pos e,k.1 e];simp);rw[o];have J:=f.row.1;refine⟨fun w=>by kernel_rfl,115,.pointer (some ⟨l,0,none⟩),fun w=>by kernel_rfl,fun H w=>by kernel_rfl,fun p q r on s t u g v=>?_⟩;rw[J] at g ⊢;exact uH f A p q r on s t u g v
theorem iJ {g e size:Nat}:∀ (f:List Value) (a:Nat) (w:World) (b:List Value),w.ownsRow base e size (.slice (some ⟨g,0,none⟩) n c) n b->∃ d,(w.setCells g a f).ownsRow base e size (.slice (some ⟨g,0,none⟩) n c) n d∧d.take a=b.take a∧Fr (fun i=>i=g) w (w.setCells g a f)
 | [],a,w,b,h=>⟨b,h,rfl,Fr.refl _ _⟩
 | v::r,a,w,b,h=>by
  obtain⟨j,k⟩:=h.stored a v
  obtain⟨d,l,m,o⟩:=iJ r (a+1) (w.setCell ⟨g,a,none⟩ v) _ j
  refine⟨d,l,?_,(Fr.of_grown k (fun i e=>by cases e;rfl)).trans o⟩
  have:=congrArg (List.take a) m
  rw[List.take_take,List.take_take,show min a (a+1)=a by omega] at this
  rw[this,List.take_set_of_le (Ek _)]
theorem vA {g e size i:Nat} {b:List Value} (h:w.ownsRow base e size (.slice (some ⟨g,0,none⟩) n c) n b) (d:i<=n):w.ownsRow base e size (.slice (some ⟨g,0,none⟩) i c) i (b.take (i*size)):=by
 have f:i*size<=n*size:=Nat.mul_le_mul_right _ d;refine⟨by rw[Eu,h.1];omega,.inr ?_⟩;rcases h.2 with ⟨j,_⟩ | ⟨r,s,k,a,l,m,t,o,p,q⟩;·simp at j
 ·injection a with a e2 e3;cases a;subst e3;refine⟨g,c,k,rfl,l,m,by omega,o,p,?_⟩;rw[<-q,List.take_take,Nat.min_eq_left f]
theorem vB {b:Type} (C a:List b) (p q n:Nat) (e:a.length=n) (c:C.take n=a) (f:p+q<=n) (g:n<=C.length) :
  (C.take p++a.drop (p+q)++C.drop (p+(a.drop (p+q)).length)).take (n - q)=a.take p++a.drop (p+q)∧(C.take p++a.drop (p+q)++C.drop (p+(a.drop (p+q)).length)).length=C.length:=by
 have d:C.take p=a.take p:=by
  have:=congrArg (List.take p) c
  rwa [List.take_take,Nat.min_eq_left (by omega)] at this
 constructor;·rw[d,EM (by simp;omega),Ey (by simp;omega)]
 ·simp;omega
theorem eK {P:Program} {ops:Array Oper} {o:Oper} {a:Act} {K:Act->World->Prop} {Q:Exit->Act->World->Prop} {E:Prop}
  (b:o.guard=none) (s x:Operand) (t:TypeId) (c:o.op=Op.call { callee:=Callee.builtin Builtin.append,args:=#[s,x],argTypes:=#[t,t] })
  (v u:Value) (d:a.eval s=v) (e:a.eval x=u) {v':Value} {w':World} (f:(Builtin.append_ #[t,t] o.type #[v,u]).run P w=.ok v' w') (g:K (a.put o.dst v') w') :
  if Region.wanted o (yielded ops a.tmps)=true then Oper.wp P o a w K Q else E:=by
 have h:Region.wanted o (yielded ops a.tmps)=true:=by simp[Region.wanted,b]
 rw[if_pos h];unfold Oper.wp;simp[execOp,c,resolve,invoke,builtin,d,e,f,Result.andThen];exact g
theorem AA:(Builtin.zeroCells #[.string ⟨#[]⟩,.string ⟨#[]⟩,.int .i64 0] 1).toList=[.string ⟨#[]⟩,.string ⟨#[]⟩,.int .i64 0]:=by
 simp[Builtin.zeroCells];rfl
theorem qO (w:World) (ty:TypeId) (b o c:Nat) (e:∀ j,j<3->(w.cell? ⟨b,o+j,none⟩).isSome=true) (f:∀ j,j<3->w.frozen? ⟨b,o+j,none⟩=false) :
  (Builtin.clear_ #[119] ty #[.slice (some ⟨b,o,none⟩) 1 c]).run prog w=.ok (.tuple #[]) (w.setCells b o [.string ⟨#[]⟩,.string ⟨#[]⟩,.int .i64 0]):=by
 have a:=run_storeCells_cells (P:=prog) b o [.string ⟨#[]⟩,.string ⟨#[]⟩,.int .i64 0] 0 w (by simpa using e) (by simpa using f) (by intro g d;simp at d;rcases d with rfl | rfl | rfl<;>rfl);simp only[Fu] at a;rw[<-AA] at a ⊢;simp[Builtin.clear_,run_underlying underlying119,Value.cells,a]
theorem pT (i m c:Nat) (a:Option Addr) (e:List Value) (w:World) (o:w.ownsRow 0 75 3 (.slice a (m+1) c) (m+1) e) (ai:i<=m) (aj:m<=1000) (G:∀ p ∈ e,p.oneCell'=true) :
  Calls prog 118 #[.slice a (m+1) c,.int .i64 i,.int .i64 ((i:Int)+1)] w fun h H=>h=.returned (.slice a m c)∧H.ownsRow 0 75 3 (.slice a m c) m (e.take (i*3)++e.drop ((i+1)*3))∧Fr (fun j=>(Value.slice a (m+1) c).ownBlock=some j) w H:=by
 obtain⟨V,I,W,q,X⟩:=info_parts iN;have J:=o.1;rcases o.2 with ⟨h,ak⟩ | ⟨b,al,l,h,_,r,Y,K,s,L⟩;·omega
 simp only[Value.slice.injEq] at h;obtain⟨rfl,_,rfl⟩:=h;have M:∀ (b D k:Nat),(⟨b,D,none⟩:Addr).add k=⟨b,D+k,none⟩:=fun b D k=>by simp[Addr.add]
 obtain⟨d,t⟩:∃ d:Array Value,(l.toList.take (i*3)++e.drop ((i+1)*3)++l.toList.drop (i*3+(e.drop ((i+1)*3)).length)).toArray=d:=⟨_,rfl⟩;have u:=vB l.toList e (i*3) 3 ((m+1)*3) (by omega) L (by omega) (by simp[s];omega);rw[show i*3+3=(i+1)*3 by omega] at u;have v:d.size=c*3:=by rw[<-t];simpa[s] using u.2
 have N:d.toList.take (m*3)=e.take (i*3)++e.drop ((i+1)*3):=by rw[<-t];have:=u.1;rw[show (m+1)*3 - 3=m*3 by omega] at this;exact this
 have O:=setRow_heap w.drew b l d _ _ r;have am:=Za r;have x:(e.drop ((i+1)*3)).length=(m - i)*3:=by rw[ET,J];omega
 have y:∀ f (z:Addr) g,(i<m->z=⟨b,(i+1)*3,none⟩)->(Builtin.append_ #[119,119] f #[.slice (some ⟨b,0,none⟩) i c,.slice (some z) (m - i) g]).run prog w.drew=.ok (.slice (some ⟨b,0,none⟩) m c) (w.drew.setRow b d):=fun f z g Z=>by have A:=run_append_room (P:=prog) (w:=w.drew) 119 f 75 V underlying119 I b i c l r z (m - i) g (e.drop ((i+1)*3)) (by rw[q,x]) (fun E p n=>by have aa:=Zc n;rw[x] at aa;rw[Z (by omega),M];rw[E2] at n;have:=o.cellAt ((i+1)*3+E) (by omega);exact this.trans n) (fun p ab=>G p (EF ab)) (by omega) (by rw[q,x,s];omega);rw[q,t,show i+(m - i)=m by omega] at A;exact A
 have B:(w.drew.setRow b d).ownsRow 0 75 3 (.slice (some ⟨b,0,none⟩) (m+1) c) (m+1) (d.toList.take ((m+1)*3)):=⟨by rw[Eu,Array.length_toList,v];omega,.inr ⟨b,c,d,rfl,En _,O,Y,K,v,rfl⟩⟩;have Q:∀ f g,(Builtin.clear_ #[119] f #[.slice (some ⟨b,m*3,none⟩) 1 g]).run prog (w.drew.setRow b d)=.ok (.tuple #[]) ((w.drew.setRow b d).setCells b (m*3) [.string ⟨#[]⟩,.string ⟨#[]⟩,.int .i64 0]):=fun f g =>qO _ f b (m*3) g (fun E n=>by rw[B.cellAt _ (by omega),Eh (by rw[Eu,Array.length_toList,v];omega)];rfl) (fun E n=>B.frozenAt _);obtain⟨ac,q1,q2,q3⟩:=iJ [.string ⟨#[]⟩,.string ⟨#[]⟩,.int .i64 0] (m*3) _ _ B;have F:=vA q1 (show m<=m+1 by omega);rw[q2,List.take_take,Nat.min_eq_left (by omega),N] at F;have R:Fr (fun j=>(Value.slice (some ⟨b,0,none⟩) (m+1) c).ownBlock=some j) w (w.drew.setRow b d):=⟨rfl,rfl,rfl,by simp,fun k an ad=>by have ae:k≠b:=fun h=>ad (by rw[h];rfl);rw[setRow_other _ b k d ae];rfl⟩;have S:=R.trans (q3.weak (T:=fun j=>(Value.slice (some ⟨b,0,none⟩) (m+1) c).ownBlock=some j) (fun ao h=>by subst h;rfl));have af:=K;unfold maxLen at af;have U:Hid (((w.drew.setRow b d).setCells b (m*3) [.string ⟨#[]⟩,.string ⟨#[]⟩,.int .i64 0]).ownsRow 0 75 3 (.slice (some ⟨b,0,none⟩) m c) m (e.take (i*3)++e.drop ((i+1)*3))∧Fr (fun j=>(Value.slice (some ⟨b,0,none⟩) (m+1) c).ownBlock=some j) w ((w.drew.setRow b d).setCells b (m*3) [.string ⟨#[]⟩,.string ⟨#[]⟩,.int .i64 0])):=⟨F,S⟩;clear q1 q2 q3 F R S B u v N O x o r s L J G ac t W q X I M;have ap:¬ ((i:Int)=(i:Int)+1):=by omega
 have aq:(i:Int)+1<=(m:Int)+1:=by omega
 have ar:(i:Int)<=(m:Int)+1:=by omega
 have au:((i:Int)+1).toNat=i+1:=by omega
 have av:((m:Int)+1).toNat=m+1:=by omega
 have aw:(0:Int)<=(i:Int)+1:=by omega
 have ax:¬ (c=m):=by omega
 have ay:m+1 - (i+1)=m - i:=by omega
 have az:m+1 - m=1:=by omega
 have aA:i<=i+1:=by omega
 have aB:i<=c:=by omega
 have aC:i+1<=m+1:=by omega
 have aD:(i:Int)<=(i:Int)+1:=by omega
 by_cases ag:c=i+1
 ·have ah:m=i:=(by omega);have C:∀ f g,_:=fun f g=>y f ⟨b,0,none⟩ g (fun A=>by omega);subst ah;subst ag;clear y;simp only[Nat.sub_self] at C;go_enter func118,ntmps118;go_wp2_with fail
  go_region_law (refine eK rfl _ _ 119 rfl (.slice (some ⟨b,0,none⟩) m (m+1)) (.slice (some ⟨b,0,none⟩) 0 0) (by simp[Act.eval,Act.put]) (by simp[Act.eval,Act.put]) (C _ _) ?_)
  go_wp2_with (simp only[Q])
  go_ret;exact⟨rfl,U.out⟩
 ·have C:∀ f g,_:=fun f g=>y f ⟨b,(i+1)*3,none⟩ g (fun A=>rfl);clear y;go_enter func118,ntmps118;go_wp2_with fail
  go_region_law (refine eK rfl _ _ 119 rfl (.slice (some ⟨b,0,none⟩) i c) (.slice (some ⟨b,(i+1)*3,none⟩) (m - i) (c - (i+1))) (by simp[Act.eval,Act.put]) (by simp[Act.eval,Act.put]) (C _ _) ?_)
  go_wp2_with (simp only[Q])
  go_ret;exact⟨rfl,U.out⟩
theorem AB:(Builtin.zeroCells #[.nilIface] 1).toList=[.nilIface]:=by
 simp[Builtin.zeroCells]
theorem qP (w:World) (ty:TypeId) (b o c:Nat) (e:∀ j,j<1->(w.cell? ⟨b,o+j,none⟩).isSome=true) (f:∀ j,j<1->w.frozen? ⟨b,o+j,none⟩=false) :
  (Builtin.clear_ #[79] ty #[.slice (some ⟨b,o,none⟩) 1 c]).run prog w=.ok (.tuple #[]) (w.setCells b o [.nilIface]):=by
 have a:=run_storeCells_cells (P:=prog) b o [.nilIface] 0 w (by simpa using e) (by simpa using f) (by intro g d;simp at d;subst d;rfl);simp only[Fu] at a;rw[<-AB] at a ⊢;simp[Builtin.clear_,run_underlying underlying79,Value.cells,a]
theorem pU (i m c:Nat) (a:Option Addr) (e:List Value) (w:World) (p:w.ownsRow 0 68 1 (.slice a (m+1) c) (m+1) e) (ai:i<=m) (aj:m<=1000) (I:∀ q ∈ e,q.oneCell'=true) :
  Calls prog 104 #[.slice a (m+1) c,.int .i64 i,.int .i64 ((i:Int)+1)] w fun h J=>h=.returned (.slice a m c)∧J.ownsRow 0 68 1 (.slice a m c) m (e.take (i)++e.drop ((i+1)))∧Fr (fun j=>(Value.slice a (m+1) c).ownBlock=some j) w J:=by
 obtain⟨V,K,W,r,X⟩:=info_parts nr;have L:=p.1;rcases p.2 with ⟨h,ak⟩ | ⟨b,al,l,h,_,s,Y,M,t,N⟩;·omega
 simp only[Value.slice.injEq] at h;obtain⟨rfl,_,rfl⟩:=h;have O:∀ (b E k:Nat),(⟨b,E,none⟩:Addr).add k=⟨b,E+k,none⟩:=fun b E k=>by simp[Addr.add]
 obtain⟨d,u⟩:∃ d:Array Value,(l.toList.take (i*1)++e.drop ((i+1)*1)++l.toList.drop (i*1+(e.drop ((i+1)*1)).length)).toArray=d:=⟨_,rfl⟩;have v:=vB l.toList e (i*1) 1 ((m+1)*1) (by omega) N (by omega) (by simp[t];omega);rw[show i*1+1=(i+1)*1 by omega] at v;have x:d.size=c*1:=by rw[<-u];simpa[t] using v.2
 have Q:d.toList.take (m*1)=e.take (i*1)++e.drop ((i+1)*1):=by rw[<-u];have:=v.1;rw[show (m+1)*1 - 1=m*1 by omega] at this;exact this
 have R:=setRow_heap w.drew b l d _ _ s;have am:=Za s;have y:(e.drop ((i+1)*1)).length=(m - i)*1:=by rw[ET,L];omega
 have n:∀ f (z:Addr) g,(i<m->z=⟨b,(i+1)*1,none⟩)->(Builtin.append_ #[79,79] f #[.slice (some ⟨b,0,none⟩) i c,.slice (some z) (m - i) g]).run prog w.drew=.ok (.slice (some ⟨b,0,none⟩) m c) (w.drew.setRow b d):=fun f z g Z=>by have A:=run_append_room (P:=prog) (w:=w.drew) 79 f 68 V underlying79 K b i c l s z (m - i) g (e.drop ((i+1)*1)) (by rw[r,y]) (fun F q o=>by have aa:=Zc o;rw[y] at aa;rw[Z (by omega),O];rw[E2] at o;have:=p.cellAt ((i+1)*1+F) (by omega);exact this.trans o) (fun q ab=>I q (EF ab)) (by omega) (by rw[r,y,t];omega);rw[r,u,show i+(m - i)=m by omega] at A;exact A
 have B:(w.drew.setRow b d).ownsRow 0 68 1 (.slice (some ⟨b,0,none⟩) (m+1) c) (m+1) (d.toList.take ((m+1)*1)):=⟨by rw[Eu,Array.length_toList,x];omega,.inr ⟨b,c,d,rfl,En _,R,Y,M,x,rfl⟩⟩;have G:∀ f g,(Builtin.clear_ #[79] f #[.slice (some ⟨b,m*1,none⟩) 1 g]).run prog (w.drew.setRow b d)=.ok (.tuple #[]) ((w.drew.setRow b d).setCells b (m*1) [.nilIface]):=fun f g =>qP _ f b (m*1) g (fun F o=>by rw[B.cellAt _ (by omega),Eh (by rw[Eu,Array.length_toList,x];omega)];rfl) (fun F o=>B.frozenAt _);obtain⟨ac,q1,q2,q3⟩:=iJ [.nilIface] (m*1) _ _ B;have C:=vA q1 (show m<=m+1 by omega);rw[q2,List.take_take,Nat.min_eq_left (by omega),Q] at C;have S:Fr (fun j=>(Value.slice (some ⟨b,0,none⟩) (m+1) c).ownBlock=some j) w (w.drew.setRow b d):=⟨rfl,rfl,rfl,by simp,fun k an ad=>by have ae:k≠b:=fun h=>ad (by rw[h];rfl);rw[setRow_other _ b k d ae];rfl⟩;have H:=S.trans (q3.weak (T:=fun j=>(Value.slice (some ⟨b,0,none⟩) (m+1) c).ownBlock=some j) (fun ao h=>by subst h;rfl));have af:=M;unfold maxLen at af;simp only[Fv] at n G C H;have U:Hid (((w.drew.setRow b d).setCells b (m) [.nilIface]).ownsRow 0 68 1 (.slice (some ⟨b,0,none⟩) m c) m (e.take (i)++e.drop ((i+1)))∧Fr (fun j=>(Value.slice (some ⟨b,0,none⟩) (m+1) c).ownBlock=some j) w ((w.drew.setRow b d).setCells b (m) [.nilIface])):=⟨C,H⟩;clear q1 q2 q3 C S H B v x Q R y p s t N L I ac u W r X K O;have ap:¬ ((i:Int)=(i:Int)+1):=by omega
 have aq:(i:Int)+1<=(m:Int)+1:=by omega
 have ar:(i:Int)<=(m:Int)+1:=by omega
 have au:((i:Int)+1).toNat=i+1:=by omega
 have av:((m:Int)+1).toNat=m+1:=by omega
 have aw:(0:Int)<=(i:Int)+1:=by omega
 have ax:¬ (c=m):=by omega
 have ay:m+1 - (i+1)=m - i:=by omega
 have az:m+1 - m=1:=by omega
 have aA:i<=i+1:=by omega
 have aB:i<=c:=by omega
 have aC:i+1<=m+1:=by omega
 have aD:(i:Int)<=(i:Int)+1:=by omega
 by_cases ag:c=i+1
 ·have ah:m=i:=(by omega);have D:∀ f g,_:=fun f g=>n f ⟨b,0,none⟩ g (fun A=>by omega);subst ah;subst ag;clear n;simp only[Nat.sub_self] at D;go_enter func104,ntmps104;go_wp2_with fail
  go_region_law (refine eK rfl _ _ 79 rfl (.slice (some ⟨b,0,none⟩) m (m+1)) (.slice (some ⟨b,0,none⟩) 0 0) (by simp[Act.eval,Act.put]) (by simp[Act.eval,Act.put]) (D _ _) ?_)
  go_wp2_with (simp only[G])
  go_ret;exact⟨rfl,U.out⟩
 ·have D:∀ f g,_:=fun f g=>n f ⟨b,(i+1),none⟩ g (fun A=>rfl);clear n;go_enter func104,ntmps104;go_wp2_with fail
  go_region_law (refine eK rfl _ _ 79 rfl (.slice (some ⟨b,0,none⟩) i c) (.slice (some ⟨b,(i+1),none⟩) (m - i) (c - (i+1))) (by simp[Act.eval,Act.put]) (by simp[Act.eval,Act.put]) (D _ _) ?_)
  go_wp2_with (simp only[G])
  go_ret;exact⟨rfl,U.out⟩
abbrev dP:ByteArray × ByteArray:=(ByteArray.empty,ByteArray.empty)
def Do (zs:List (ByteArray × ByteArray)) (j:Nat):Bool:=cy (zs.getD j dP).1 && decide ((zs.getD j dP).2.size<=400) && (decide (j=0) || aH (zs.getD (j - 1) dP).1 (zs.getD j dP).1)
def Cq (zs:List (ByteArray × ByteArray)):Bool:=(List.range zs.length).all (Do zs)
def nQ (zs:List (ByteArray × ByteArray)):List TN:=if Cq zs=false then [] else if zs.length=0 then [⟨true,0,[],[],[],[]⟩] else if 1000<(BS zs).nodes then [] else (BS zs).flat 0
def Da (w:World) (zs:List (ByteArray × ByteArray)) (e:Ending) (w':World):Prop:=∃ oa oc us,e=.returned (.agg #[.slice oa (nQ zs).length oc])∧cj w' w.heap.size (.slice oa (nQ zs).length oc) ((nQ zs).map TN.nd) us∧Below w.heap.size w w'
def dS:ByteArray × ByteArray × Int:=(ByteArray.empty,ByteArray.empty,0)
abbrev Db (w:World) (A B:Nat) (a:Option Addr) (n c:Nat) (zs:List (ByteArray × ByteArray × Int)):Prop:=aR w A B 2 aG (fun _=>True) dS a n c zs
def DG (k n:Nat):List (ByteArray × ByteArray × Int):=(List.range n).map fun j=>(Di (k+2*j),Di (k+2*j+1),0)
theorem fc (s:ByteArray) (F:s.size<=16) (n:Nat) (R:n<=1000) (w:World) :
  Calls prog 16 #[.string s,.int .i64 n] w fun j G=>∃ r:ByteArray,j=.returned (.string r)∧r.size=s.size*n∧Below w.heap.size w G:=by
 go_enter func16,ntmps16;go_wp2_with fail
 have t:Below w.heap.size w (w.alloc (.cells #[] 5)):=Zb _ _;have u:(w.alloc (.cells #[] 5)).ownsRow w.heap.size 5 1 (.slice (some ⟨w.heap.size,0,none⟩) 0 0) 0 (wm []):=by have:=World.ownsRow_made w #[] (base:=w.heap.size) (e:=5) (size:=1) 0 (by simp) (by unfold maxLen;omega) (by simp);simpa[wm] using this
 go_loopw [5,6] (fun H k wr=>∃ (b:Nat) (a:Option Addr) (c:Nat) (d:List Int),b<=n∧k=.int .i64 b∧d.length=s.size*b∧(∀ f ∈ d,0<=f∧f<=255)∧H=.slice a (s.size*b) c∧wr.ownsRow w.heap.size 5 1 (.slice a (s.size*b) c) (s.size*b) (wm d)∧Below w.heap.size w wr) (fun _ k _=>n - (intOf k).toNat)
 case atStart=>exact⟨0,some ⟨w.heap.size,0,none⟩,0,[],En _,rfl,by simp,(by intro f l;cases l),rfl,u,t⟩
 case round =>
  clear u t;obtain⟨b,a,c,d,S,rfl,x,y,rfl,g,m⟩:=hrel;have I:s.size*b<=16*1000:=Nat.mul_le_mul F (by omega);have h:=hidI x;clear x;generalize z:s.size*b=i at I h g ⊢;have A:=hidI z;clear z;by_cases T:b<n
  ·have U:=m.size;go_wp2_with (at_builtin;refine zu rfl _ _ rfl w.heap.size _ i d rfl g s rfl (by omega) (by omega) ?_;intro V W B C)
   obtain⟨J,K,rfl⟩:=ao B;have L:=m.grown C (by omega) (fun M N=>(g.lt M N).1);have o:s.size*(b+1)=i+s.size:=(by rw[Nat.mul_succ,A.out]);have D:=hidI o;have O:Hid ((d++qS s).length=s.size*(b+1)):=(by show _=_;rw[El,AL,h.out,o]);have P:Hid (∀ f ∈ d++qS s,0<=f∧f<=255):=(by intro f l;rcases EG.1 l with p | p;exact y f p;exact zt s f p);clear C g o;go_roundw
   case rel=>exact⟨b+1,J,K,d++qS s,by omega,by go_num,O.out,P.out,by rw[D.out],by rw[D.out];exact B,L⟩
   case measure=>simp[intOf];omega
  ·have Q:b=n:=(by omega);subst Q;have E:=h.out;have q:cd wr w.heap.size wr.heap.size a i c d:=(by have:=oU (v:=.slice a i c) (bs:=d) (by rw[E];exact g) y;obtain⟨X,Y,Z,j,q⟩:=this;cases j;exact q);have aa:=gA q;clear g h;go_wp2
   go_ret;exact⟨_,rfl,by rw[eE,E,A.out],m⟩
theorem dk.frg {w':World} {C A B:Nat} {S:Nat->Prop} (h:dk w C A B) (d:Fr S w w') (e:∀ g,S g->C<g):dk w' C A B:=by
 obtain⟨i,a,n,c,j,k,l,f,m,o⟩:=h;have p:=Za f;exact⟨i,a,n,c,j,k,l,(d.block C p (fun b=>by have:=e _ b;omega)).trans f,m,o.keep (fun q r s=>d.block q (by omega) (fun b=>by have:=e _ b;omega))⟩
theorem Fr.up2 {S T:Nat->Prop} {a b c:World} (h:Fr S a b) (k:Fr T b c) (f:∀ d,T d->a.heap.size<=d):Fr S a c :=
 ⟨k.1.trans h.1,k.2.trans h.2,k.3.trans h.3,Eo h.size k.size,fun d e g=>(k.block d (Er e h.size) (fun i=>by have:=f d i;omega)).trans (h.block d e g)⟩
theorem fe (w:World) (y:Int) (h:0<=y∧y<=255):cd (w.alloc (.cells #[.int .u8 y] 5)) w.heap.size (w.heap.size+1) (some ⟨w.heap.size,0,none⟩) 1 1 [y]:=by
 refine⟨rfl,Ek _,by unfold maxLen;omega,fun e a=>by simp at a;omega,fun _=>⟨w.heap.size,0,rfl,⟨Ek _,by omega⟩,fun b f=>?_⟩,fun c=>by cases c⟩;obtain rfl:b=0:=by omega
 have d:=Ej w (.cells #[.int .u8 y] 5);unfold World.cell?;rw[d];rfl
theorem rV (C A B:Nat) (w:World) (h:dk w C A B) :
  Calls prog 14 #[.pointer (some ⟨C,0,none⟩)] w fun e z=>∃ f:ByteArray,e=.returned (.string f)∧f.size<=400∧dk z C A B∧Fr (fun L=>L=C) w z:=by
 go_enter func14,ntmps14;go_wp2_with fail
 refine (bo C A B w h 8 (by omega) (by omega)).mono ?_;rintro e M ⟨r,rfl,T,D,E⟩;go_wp2_with fail
 refine (bo C A B M D 26 (by omega) (by omega)).mono ?_;rintro e N ⟨a,rfl,U,F,G⟩;go_wp2_with fail
 refine (bo C A B N F 8 (by omega) (by omega)).mono ?_;rintro e k ⟨H,rfl,V,m,I⟩;have n:=(E.trans G).trans I;clear E G I D F h;by_cases O:r=0
 ·subst O;go_wp2_with fail
  refine (bo C A B k m 3 (by omega) (by omega)).mono ?_;rintro e c ⟨o,rfl,P,p,l⟩;have s:=n.trans l;clear l m n;have i:=Ej c (.cells #[.int .u8 (97+(a:Int))] 5);have b:Below c.heap.size c (c.alloc (.cells #[.int .u8 (97+(a:Int))] 5)):=Zb _ _;have q:=gA (fe c (97+(a:Int)) (by omega));have j:=dk.below p b;have d:=Fr.trans s (Fr.of_below b);clear i b;go_wp2_with fail
  rw[show (8:Int)+(o:Int)=((8+o:Nat):Int) by omega];refine (fc (AN [97+(a:Int)]) (by rw[eE];simp) (8+o) (by omega) _).mono ?_;rintro e J ⟨f,rfl,ht,g⟩;have t:f.size<=400:=(by rw[ht,eE];show 1*_<=400;omega);have u:=j.below g;have v:=d.trans (Fr.of_below g);clear ht q j d g;go_wp2_with fail
  go_ret;exact⟨f,rfl,t,u,v⟩
 ·have W:((r:Int) == 0)=false:=(by simp;omega);by_cases Q:r=1
  ·subst Q;go_wp2_with fail
   refine (bo C A B k m 3 (by omega) (by omega)).mono ?_;rintro e c ⟨o,rfl,P,p,l⟩;go_wp2_with fail
   refine (bo C A B c p 3 (by omega) (by omega)).mono ?_;rintro e x ⟨y,rfl,X,j,d⟩;have s:=(n.trans l).trans d;clear l m n d p;have Y:96*(1+(o:Int))+(y:Int) - 1=((96*(1+o)+y - 1:Nat):Int):=(by omega);have i:=Ej x (.cells #[.int .u8 (97+(a:Int))] 5);have b:Below x.heap.size x (x.alloc (.cells #[.int .u8 (97+(a:Int))] 5)):=Zb _ _;have q:=gA (fe x (97+(a:Int)) (by omega));have K:=dk.below j b;have d:=Fr.trans s (Fr.of_below b);clear i b;go_wp2_with fail
   refine (fc (AN [97+(a:Int)]) (by rw[eE];simp) (96*(1+o)+y - 1) (by omega) _).mono ?_;rintro e J ⟨f,rfl,ht,g⟩;have t:f.size<=400:=(by rw[ht,eE];show 1*_<=400;omega);have u:=K.below g;have v:=d.trans (Fr.of_below g);clear ht q K d g;go_wp2_with fail
   go_ret;exact⟨f,rfl,t,u,v⟩
  ·have Z:((r:Int) == 1)=false:=(by simp;omega);by_cases R:r=2
   focus
     subst R;(go_wp2_with fail);refine (p9 C A B k m 6 (by omega) (by omega)).mono ?_;rintro e c ⟨S,rfl,p,l⟩;have s:=n.trans l;clear l m n;cases S
   focus
     have i:=Ej c (.cells #[.int .u8 (97+(a:Int))] 5);have b:Below c.heap.size c (c.alloc (.cells #[.int .u8 (97+(a:Int))] 5)):=Zb _ _;have q:=gA (fe c (97+(a:Int)) (by omega));have j:=dk.below p b;have d:=Fr.trans s (Fr.of_below b);clear i b;(go_wp2_with fail);refine (fc (AN [97+(a:Int)]) (by rw[eE];simp) H (by omega) _).mono ?_
   rotate_left
   focus
     have i:=Ej c (.cells #[.int .u8 (97+(a:Int))] 5);have b:Below c.heap.size c (c.alloc (.cells #[.int .u8 (97+(a:Int))] 5)):=Zb _ _;have q:=gA (fe c (97+(a:Int)) (by omega));have j:=dk.below p b;have d:=Fr.trans s (Fr.of_below b);clear i b;(go_wp2_with fail);refine (fc (AN [97+(a:Int)]) (by rw[eE];simp) 400 (by omega) _).mono ?_
   rotate_left
   focus
     have aa:((r:Int) == 2)=false:=(by simp;omega);have i:=Ej k (.cells #[.int .u8 (97+(a:Int))] 5);have b:Below k.heap.size k (k.alloc (.cells #[.int .u8 (97+(a:Int))] 5)):=Zb _ _;have q:=gA (fe k (97+(a:Int)) (by omega));have j:=dk.below m b;have d:=Fr.trans n (Fr.of_below b);clear i b;(go_wp2_with fail);refine (fc (AN [97+(a:Int)]) (by rw[eE];simp) H (by omega) _).mono ?_
   rotate_left
   all_goals
     rintro e J ⟨f,rfl,ht,g⟩;have t:f.size<=400:=(by rw[ht,eE];show 1*_<=400;omega);have u:=j.below g;have v:=d.trans (Fr.of_below g);clear ht q j d g;(go_wp2_with fail);go_ret;exact⟨f,rfl,t,u,v⟩
def DK (zs:List (ByteArray × ByteArray)):Prop:=∀ z ∈ zs,z.1.size<=1000∧z.2.size<=1000
theorem vX (zs:List (ByteArray × ByteArray)) (j:Nat) (h:j<zs.length):(aa aG (ms zs))[j*2]?=some (.string (zs.getD j dP).1)∧(aa aG (ms zs))[j*2+1]?=some (.string (zs.getD j dP).2):=by
 have a:j<(ms zs).length:=by simp[ms];exact h
 have d:(ms zs).getD j (ByteArray.empty,ByteArray.empty,0)=((zs.getD j dP).1,(zs.getD j dP).2,0):=by simp[ms,List.getD,h]
 have b:=bI Cf (ByteArray.empty,ByteArray.empty,0) (ms zs) j 0 a (by omega);have c:=bI Cf (ByteArray.empty,ByteArray.empty,0) (ms zs) j 1 a (by omega);rw[d] at b c;exact⟨b,c⟩
end Go.Proofs.YtggmghkcdfjdoaaGreat
