import Derived.Test.YtggmghkcdfjdoaaGreatHTks
import Derived.Test.YtggmghkcdfjdoaaGreatHTlh
import Derived.Test.YtggmghkcdfjdoaaGreatHTvi
import Derived.Test.YtggmghkcdfjdoaaGreatHTfa
namespace Go.Proofs.YtggmghkcdfjdoaaGreat
set_option maxHeartbeats 2000000
open Go.RowKit Tryz
set_option linter.unusedVariables false
set_option linter.unusedSimpArgs false
set_option maxRecDepth 100000
variable {L c n:Nat} {P:Nat->Prop} {a:Option Addr} {t:T} {w:World}
def jK (w:World) (P:Nat->Prop) (t:T) (u:Value) (e:Ending) (w':World):Prop:=e=.returned (.tuple #[])∧(∃ P':Nat->Prop,GM w' P' t u∧∀ b,P' b->(P b∨w.heap.size<=b)∧b<w'.heap.size)∧Fr P w w'
theorem eV {w':World} (h:Fr (fun b=>P b∨w.heap.size<=b) w w'):Fr P w w':=⟨h.os,h.tape,h.output,h.size,fun c d e=>h.block c d (fun a=>by rcases a with a | a;exact e a;omega)⟩
theorem gu {p:Int} {s:Value} {ty:TypeId} (h:w.heap[L]?=some (.cells #[.int .i64 p,s] ty)):Calls prog 95 #[.pointer (some ⟨L,0,none⟩)] w fun a b=>a=.returned (.tuple #[])∧b=w.setCell ⟨L,0,none⟩ (.int .i64 0):=by
 obtain⟨c,d⟩:=au h;have e:=Za h;have f:=ar h;clear h;go_enter func95,ntmps95;go_wp2
 go_end0
 exact⟨rfl,rfl⟩
theorem jL {w5:World} {zs:List (ByteArray × ByteArray × Int)} (i:Fr (fun d=>P d∨w.heap.size<=d) w w5) (f:w5.heap[L]?=some (.cells #[.int .i64 0,.slice a zs.length c] 125)) (g:w5.ownsRow 0 75 3 (.slice a zs.length c) zs.length (aa aB zs)) (j:P L) (h:∀ b,(Value.slice a zs.length c).ownBlock=some b->(P b∨w.heap.size<=b)∧b≠L) :
  jK w P (cw zs) (.iface 123 (.pointer (some ⟨L,0,none⟩))) (.returned (.tuple #[])) w5:=by
 have k:=Za f;refine⟨rfl,⟨fun d=>(P d∨w.heap.size<=d)∧d<w5.heap.size,?_,fun d l=>l⟩,eV i⟩;refine su.is (a:=a) (n:=zs.length) (c:=c) ⟨⟨.inl j,k⟩,f,?_,fun b e=>⟨⟨(h b e).1,(g.lt b e).2⟩,(h b e).2⟩,by simp[cw]⟩ rfl;rw[rx];exact g
theorem dM {c:Type} {m:Nat} {cs:c->List Value} (b:∀ x,(cs x).length=m):∀ (d:List c) (a:Nat),aa cs (d.take a)=(aa cs d).take (a*m)
 | [],a=>by simp[aa]
 | x::r,0=>by simp[aa]
 | x::r,a+1=>by
  have e:=dM b r a
  have f:aa cs (x::r)=cs x++aa cs r:=rfl
  have g:aa cs ((x::r).take (a+1))=cs x++aa cs (r.take a):=rfl
  have h:(cs x).take ((a+1)*m)=cs x:=Ey (by rw[b];exact Nat.le_mul_of_pos_left m (Nat.succ_pos a))
  rw[f,g,e,List.take_append,h,b,Nat.succ_mul,Nat.add_sub_cancel]
theorem eH {c:Type} {m:Nat} {cs:c->List Value} (b:∀ x,(cs x).length=m):∀ (d:List c) (a:Nat),aa cs (d.drop a)=(aa cs d).drop (a*m)
 | [],a=>by simp[aa]
 | x::r,0=>by simp
 | x::r,a+1=>by
  have e:=eH b r a
  have f:aa cs (x::r)=cs x++aa cs r:=rfl
  have g:aa cs ((x::r).drop (a+1))=aa cs (r.drop a):=rfl
  have h:(cs x).drop ((a+1)*m)=[]:=List.drop_of_length_le (by rw[b];exact Nat.le_mul_of_pos_left m (Nat.succ_pos a))
  rw[f,g,e,List.drop_append,h,b,Nat.succ_mul,Nat.add_sub_cancel,ED]
theorem j6 (zs:List (ByteArray × ByteArray × Int)):∀ b ∈ aa aB zs,b.oneCell'=true:=by
 intro b a;unfold aa at a;obtain⟨c,_,a⟩:=List.mem_flatMap.1 a;simp[aB] at a;rcases a with rfl | rfl | rfl<;>rfl
def wJ (w:World) (b o:Nat) (u0 u1 u2:Value):World:=((w.setCell ⟨b,o,none⟩ u0).setCell ⟨b,o+1,none⟩ u1).setCell ⟨b,o+2,none⟩ u2
theorem rz (w:World) (b o:Nat) (a c u2:Value):Fr (fun d=>d=b) w (wJ w b o a c u2):=((af w b o a).trans (af _ b (o+1) c)).trans (af _ b (o+2) u2)
theorem yN {b:Type} (l:List b) (o n:Nat) (c d u2:b) (h:o+3<=n) (k:n<=l.length):(((l.set o c).set (o+1) d).set (o+2) u2).take n=(l.take n).take o++[c,d,u2]++(l.take n).drop (o+3):=by
 apply List.ext_getElem?;intro a;simp only[E9,List.getElem?_set,EP,List.getElem?_append,El,Eu,EU,List.length_nil,E2];by_cases e:a<o;·simp[show a<n by omega,show ¬ (o+2=a) by omega,show ¬ (o+1=a) by omega,show ¬ (o=a) by omega,show a<min o (min n l.length) by omega,show a<min o (min n l.length)+3 by omega,e]
 ·by_cases f:a=o;·subst f;simp[show a<n by omega,show ¬ (a<min a (min n l.length)) by omega,show a<min a (min n l.length)+3 by omega,show min a (min n l.length)=a by omega,show a<l.length by omega]
  ·by_cases g:a=o+1;·subst g;simp[show ¬ (o+1<o) by omega,show o+1<n by omega,show min o (min n l.length)=o by omega,show o+1<l.length by omega]
   ·by_cases i:a=o+2;·subst i;simp[show ¬ (o+2<o) by omega,show o+2<n by omega,show min o (min n l.length)=o by omega,show o+2<l.length by omega]
    ·have j:o+3+(a - (o+3))=a:=(by omega);simp[show ¬ (o+2=a) by omega,show ¬ (o+1=a) by omega,show ¬ (o=a) by omega,show min o (min n l.length)=o by omega,show ¬ (a<o+3) by omega,j]
theorem wK {b o:Nat} {f:List Value} {a d u2:Value} (h:w.ownsRow 0 75 3 (.slice (some ⟨b,0,none⟩) n c) n f) (i:o+3<=n*3):(wJ w b o a d u2).ownsRow 0 75 3 (.slice (some ⟨b,0,none⟩) n c) n (f.take o++[a,d,u2]++f.drop (o+3)):=by
 have j:=h.1;rcases h.2 with ⟨e,_⟩ | ⟨u,v,k,e,_,l,m,p,g,q⟩;·cases e
 ·simp only[Value.slice.injEq,Option.some.injEq,Addr.mk.injEq] at e;obtain⟨⟨rfl,_⟩,_,rfl⟩:=e;have r:=aj l o a;have s:=aj r (o+1) d;have t:=aj s (o+2) u2;refine⟨by simp[j];omega,.inr ⟨b,c,_,rfl,En _,t,m,p,by simpa using g,?_⟩⟩;simp only[Array.toList_setIfInBounds];rw[yN k.toList o (n*3) a d u2 i (by simp[g];omega),q]
theorem uU (h:su w P t L a n c) (ae:bl (t.keys.zip (t.vals.zip t.over))) (a9:n<=4) (aA:∀ l,P l->l<w.heap.size) (key val:ByteArray) :
  Calls prog 113 #[.pointer (some ⟨L,0,none⟩),.agg #[.string key,.string val,.int .i64 0]] w fun d s=>jK w P (cw (ej key val (t.keys.zip (t.vals.zip t.over)))) (.iface 123 (.pointer (some ⟨L,0,none⟩))) d s:=by
 obtain⟨i,Q⟩:=Zn w.heap.size;obtain⟨e,ag⟩:=Zn (t.keys.zip (t.vals.zip t.over));have R:=h.row;rw[ag] at R ae ⊢;have a':e.length=n:=by have:=R.1;rw[ay uo] at this;omega
 have ba:L<i:=by have:=aA L h.at';omega
 have m:∀ b,(Value.slice a n c).ownBlock=some b->P b∧b≠L∧b<i:=fun b g=>⟨(h.blk b g).1,(h.blk b g).2,by have:=aA b (h.blk b g).1;omega⟩;have S:=Zb w (.cells #[.string key,.string val,.int .i64 0] 75);have ah:=Ej w (.cells #[.string key,.string val,.int .i64 0] 75);have bb:(w.alloc (.cells #[.string key,.string val,.int .i64 0] 75)).heap.size=i+1:=by simp[Q]
 rw[Q] at ah;have T:=(S.block L (by omega)).trans h.box;have aC:=an R S;have K:=h.at';have ai:∃ aE,t.page=aE:=⟨_,rfl⟩;obtain⟨aE,ai⟩:=ai;rw[ai] at T;have U:Hid (n=t.keys.length∧t.keys.zip (t.vals.zip t.over)=e):=⟨h.len,ag⟩;have aF:=gu T;go_enter func113,ntmps113;go_upto_region 1 with fail
 generalize w.alloc (.cells #[.string key,.string val,.int .i64 0] 75)=aW at *;clear R ag h;go_wp2_with fail
 refine aF.mono ?_;rintro d y ⟨rfl,ak⟩;have D:=af aW L 0 (.int .i64 0);rw[<-ak] at D;have al:y.heap[L]?=some (.cells #[.int .i64 0,.slice a n c] 125):=by rw[ak];simpa using aj T 0 (.int .i64 0)
 have ao:=(D.block i (by omega) (by omega)).trans ah;have ap:=am aC D (fun b g d=>(m b g).2.1 d);have bc:=D.size;have aG:Fr (fun l=>P l∨i<=l) w y:=(Fr.of_below S).trans (D.weak (fun b d=>.inl (by rw[d];exact K)));clear ak D T ah aC aF S;have aH:gI y P { t with page:=0 } L a n c:=by refine su.see ⟨K,al,by show y.ownsRow 0 _ 3 _ n (aa aB (t.keys.zip (t.vals.zip t.over)));rw[U.out.2];exact ap,fun b g=>⟨(m b g).1,(m b g).2.1⟩,U.out.1⟩
 have aI:=gV aH (by show bl (t.keys.zip (t.vals.zip t.over));rw[U.out.2];exact ae) (by omega) key;have aJ:Calls prog 117 #[.pointer (some ⟨L,0,none⟩),.string key] y fun d s=>ny e key y d s:=by have:=aI;simp only[U.out.2] at this;exact this
 obtain⟨aq,q1,q2⟩:=gU ao;have aX:i<y.heap.size:=by omega
 clear aI aH ae;go_wp2_with fail
 refine aJ.mono ?_;rintro d f ⟨j,aY,rfl,V,av,aw,E⟩;have F:=wG key e j aw;have z:=(E.block i aX).trans ao;have M:=(E.block L (by omega)).trans al;have N:=an ap E;have bd:=E.size;have W:=aG.trans (Fr.of_below E);have be:=aw.1;clear aJ aq q1 q2 ao al ap aG E aw;cases aY
 ·have O:Hid (ej key val e=e.take j++(key,val,0)::e.drop j):=(by show _=_;have aZ:bO key e=false:=(by unfold bO;rw[<-F];simp only[decide_eq_false_iff_not,not_and];exact fun aK=>av rfl j aK);unfold ej;rw[aZ,<-F];rfl);clear V av F;go_upto_region 5 with fail
  have G:Below f.heap.size f (f.alloc (.cells #[.string key,.string val,.int .i64 0] 75)):=Zb _ _;have aL:(f.alloc (.cells #[.string key,.string val,.int .i64 0] 75)).drew.heap[f.heap.size]?=some (.cells #[.string key,.string val,.int .i64 0] 75):=Ej f _;have aM:=an N G.drew;have aN:=pp j n c f.heap.size a (aa aB e) [.string key,.string val,.int .i64 0] _ aM (by omega) (by omega) rfl aL (fun d=>by have:=(m _ d).2.2;omega) (by simp[Value.oneCell']) (j6 e);have bf:(f.alloc (.cells #[.string key,.string val,.int .i64 0] 75)).drew.heap.size=f.heap.size+1:=(by show (f.alloc _).heap.size=_;simp);have aO:=(G.block i (by omega)).trans z;have aP:(f.alloc (.cells #[.string key,.string val,.int .i64 0] 75)).drew.heap[L]?=some (.cells #[.int .i64 0,.slice a n c] 125):=(G.block L (by omega)).trans M;have X:Hid (∀ r o p,r.ownsRow 0 75 3 (.slice o (n+1) p) (n+1) ((aa aB e).take (j*3)++[.string key,.string val,.int .i64 0]++(aa aB e).drop (j*3))->(f.alloc (.cells #[.string key,.string val,.int .i64 0] 75)).drew.grownBy r (Value.slice a n c).ownBlock->((Value.slice o (n+1) p).ownBlock=(Value.slice a n c).ownBlock∨∀ b,(Value.slice o (n+1) p).ownBlock=some b->(f.alloc (.cells #[.string key,.string val,.int .i64 0] 75)).drew.heap.size<=b)->r.heap[L]?=some (.cells #[.int .i64 0,.slice a n c] 125)∧r.heap[i]?=some (.cells #[.string key,.string val,.int .i64 0] 75)∧jK w P (cw (ej key val e)) (.iface 123 (.pointer (some ⟨L,0,none⟩))) (.returned (.tuple #[])) (r.setCell ⟨L,1,none⟩ (.slice o (n+1) p))):=by
   intro r o p Y A Z;have B:=(A.block L (by omega) (fun d=>(m L d.symm).2.1 rfl)).trans aP;have H:=(A.block i (by omega) (fun d=>by have:=(m i d.symm).2.2;omega)).trans aO;refine⟨B,H,?_⟩;have C:(ej key val e).length=n+1:=(by rw[O.out];simp;omega);have u:=af r L 1 (.slice o (n+1) p);have bg:=A.size;have aQ:∀ b,(Value.slice o (n+1) p).ownBlock=some b->(P b∨w.heap.size<=b)∧b≠L:=fun b g=>by
    rcases Z with d | d;·rw[d] at g;exact⟨.inl (m b g).1,(m b g).2.1⟩
    ·have:=d b g;exact⟨.inr (by omega),by omega⟩
   refine jL (a:=o) (c:=p) ?_ ?_ ?_ K ?_;·rw[Q];refine (W.trans ((Fr.of_below G.drew).trans (Fr.of_grown A (fun b g=>.inl (m b g).1)))).trans (u.weak (fun b d=>.inl (by rw[d];exact K)))
   ·rw[C];simpa using aj B 1 (.slice o (n+1) p)
   ·rw[C];have ab:aa aB (ej key val e)=(aa aB e).take (j*3)++[.string key,.string val,.int .i64 0]++(aa aB e).drop (j*3):=(by rw[O.out,aD,dM uo,<-eH uo,EA];rfl);rw[ab];exact am Y u (fun b g d=>(aQ b g).2 d)
   ·rw[C];exact aQ
  have ac:i<f.heap.size:=(by omega);have aR:L<f.heap.size:=(by omega);clear m aM aO N aL W;refine Zg (fun s:World=>s.heap[i]?=some (.cells #[.string key,.string val,.int .i64 0] 75)) (z) (fun v=>?_);refine Zx .a0 ?_;refine Zx .a1 ?_;refine Zx .a2 ?_;refine Zx .a3 ?_;try simp only[Zq]
  refine Zx .a5 ?_;refine Zy .a6 (fun aS x=>by (try dsimp only at x);obtain⟨aq,q1,q2⟩:=gU x;go_simp;rfl) ?_;try simp only[Zq]
  refine Zr [4,7] ?_;refine rdA .a4 (fun q k=>?_) ?_;rotate_left 1;refine rdA .a7 (fun q k=>?_) ?_;rotate_left 1;exact Ei
  focus
    obtain⟨I,J⟩:=au M;go_simp;clear I J;refine k.out _ _ (z) (fun v=>?_);clear k q;(try simp only[Zq]);refine Zr [7] ?_;refine rdA .a7 (fun q k=>?_) Ei;go_simp
  rotate_left
  focus
    go_simp;refine k.out _ _ ((G.block i ac).trans z) (fun v=>?_);clear k q;(try simp only[Zq]);refine Zr [4] ?_;refine rdA .a4 (fun q k=>?_) Ei;obtain⟨I,J⟩:=au aP;have bh:L<f.heap.size+1:=(by omega);go_simp;clear I J
  rotate_left
  all_goals
    refine k.out _ _ ((G.block i ac).trans z) (fun v=>?_);clear k q;(try simp only[Zq]);refine Zr [8] ?_;refine rdA .a8 (fun q k=>?_) Ei;go_simp;refine aN.mono ?_;rintro d r ⟨o,p,rfl,Y,A,Z⟩;obtain⟨B,H,aT⟩:=X.out r o p Y A Z;have a0:Hid _:=aT;clear Y A Z aT X aN;(go_wp2_with fail);refine k.out _ _ (H) (fun v=>?_);clear k q;refine Zx .a9 ?_;refine Zx (.t .a0) ?_;(try simp only[Zq]);refine Zr [11] ?_;refine rdA (.t .a1) (fun q k=>?_) Ei;obtain⟨I,J⟩:=au B;have a1:=ar B;have bi:=Za B;have aU:=((af r L 1 (.slice o (n+1) p)).block i (Za H) (by omega)).trans H;go_simp;clear I J a1;refine k.out _ _ (aU) (fun v=>?_);clear k q;(try simp only[Zq]);refine Zd ?_;clear v aU B H;(go_wp2_with fail);go_end0
    exact⟨rfl,a0.out.2⟩
 ·have aK:=(V rfl).1;have O:Hid (ej key val e=e.take j++(key,val,0)::e.drop (j+1)):=(by show _=_;have a2:bO key e=true:=(by unfold bO;rw[<-F];simpa using V rfl);unfold ej;rw[a2,<-F];rfl);rcases N.2 with ⟨_,d⟩ | ⟨l,bj,bk,d,_,g,bm,bn,aV,a3⟩;·omega
  simp only[Value.slice.injEq] at d;obtain⟨rfl,_,rfl⟩:=d;have ax:=m l rfl;have bo:j<n:=(by omega);have ad:∀ az,az<3->∃ a4,f.cell? ⟨l,j*3+az,none⟩=some a4:=fun az ab=>⟨_,by simp only[World.cell?,g];exact Array.getElem?_eq_getElem (by rw[aV];omega)⟩;obtain⟨bp,a5⟩:=ad 0 (by omega);rw[Fu] at a5;obtain⟨bq,br⟩:=ad 1 (by omega);obtain⟨bs,bt⟩:=ad 2 (by omega);have bu:=ar g;have X:Hid (jK w P (cw (ej key val e)) (.iface 123 (.pointer (some ⟨L,0,none⟩))) (.returned (.tuple #[])) (wJ f.drew l (j*3) (.string key) (.string val) (.int .i64 0))):=by
   have a6:f.drew.ownsRow 0 75 3 (.slice (some ⟨l,0,none⟩) n c) n (aa aB e):=N;have u:=rz f.drew l (j*3) (.string key) (.string val) (.int .i64 0);have C:(ej key val e).length=n:=(by rw[O.out];simp;omega);refine jL (a:=some ⟨l,0,none⟩) (c:=c) ?_ ?_ ?_ K ?_;·rw[Q];exact (W.trans (Fr.of_below ((Ev _ f).drew))).trans (u.weak (fun b d=>.inl (by rw[d];exact ax.1)))
   ·rw[C];exact (u.block L (by show L<f.heap.size;omega) (fun d=>ax.2.1 d.symm)).trans M
   ·rw[C];have ab:aa aB (ej key val e)=(aa aB e).take (j*3)++[.string key,.string val,.int .i64 0]++(aa aB e).drop (j*3+3):=(by rw[O.out,aD,dM uo,show j*3+3=(j+1)*3 by omega,<-eH uo,EA];rfl);rw[ab];exact wK a6 (by omega)
   ·rw[C];exact fun b g=>⟨.inl (m b g).1,(m b g).2.1⟩
  have ac:i<f.heap.size:=(by omega);have aR:L<f.heap.size:=(by omega);have bv:l<f.heap.size:=(by omega);have a7:l≠i:=(by omega);have a8:=ax.2.1;clear m N W V av F ad g aV a3;go_upto_region 4 with fail
  refine Zg (fun s:World=>s.heap[i]?=some (.cells #[.string key,.string val,.int .i64 0] 75)∧s.heap[L]?=some (.cells #[.int .i64 0,.slice (some ⟨l,0,none⟩) n c] 125)) (⟨z,M⟩) (fun v=>?_);refine Zx .a0 ?_;refine Zx .a1 ?_;refine Zx .a2 ?_;refine Zy .a3 (fun aS x=>by (try dsimp only at x);obtain⟨I,J⟩:=au x.2;go_simp;rfl) ?_;try simp only[Zq]
  refine Zx .a4 ?_;refine Zy .a5 (fun aS x=>by (try dsimp only at x);obtain⟨aq,q1,q2⟩:=gU x.1;go_simp;rfl) ?_;refine Zx .a6 ?_;try simp only[Zq]
  refine Zr [7] ?_;refine rdA .a7 (fun q k=>?_) Ei;go_simp;have u:=rz f.drew l (j*3) (.string key) (.string val) (.int .i64 0);refine k.out _ _ (⟨(u.block i ac (Ne.symm a7)).trans z,(u.block L aR (Ne.symm a8)).trans M⟩) (fun v=>?_);clear k q;try simp only[Zq]
  refine Zd ?_;go_wp2_with fail
  go_end0
  exact X.out
theorem Ck (w:World):(w.alloc (.cells #[] 75)).ownsRow w.heap.size 75 3 (.slice (some ⟨w.heap.size,0,none⟩) 0 0) 0 []:=by
 have:=World.ownsRow_made w #[] (base:=w.heap.size) (e:=75) (size:=3) 0 (by simp) (by unfold maxLen;omega) (by simp);simpa using this
theorem wQ (b h n c:Nat) (f:List Value) (w:World) (H:f.length=n*3) (I:0<n) (J:n<=1048576) (s:b<w.heap.size) (t:∀ d ∈ f,d.oneCell'=true) (u:∀ e d,f[e]?=some d->w.cell? ((⟨b,h,none⟩:Addr).add e)=some d) :
  Calls prog 48 #[.slice (some ⟨b,h,none⟩) n c] w fun k o=>∃ i q,k=.returned (.slice (some ⟨i,0,none⟩) n q)∧o.ownsRow w.heap.size 75 3 (.slice (some ⟨i,0,none⟩) n q) n f∧Below w.heap.size w o:=by
 have K:∀ (w:World) (a:Option Addr) (n c g l:Nat),(binOp .eql 119 (.slice a n c) (.slice none g l)).run prog w=.ok (.bool a.isNone) w:=fun w a n c g l=>Lib.run_eql_slice_nil w _ _ a n c g l underlying119;obtain⟨v,x,y,z,A⟩:=info_parts iN;have j:Below w.heap.size w (w.alloc (.cells #[] 75)):=Zb _ _;have r:=Ck w;have B:∀ e d,f[e]?=some d->(w.alloc (.cells #[] 75)).cell? ((⟨b,h,none⟩:Addr).add e)=some d:=fun e d C=>(j.cell (p:=(⟨b,h,none⟩:Addr).add e) (by unfold Addr.add;split<;>exact s)).trans (u e d C);go_enter func48,ntmps48;go_wp2_with (at_builtin;refine ak _ rfl _ _ 119 rfl w.heap.size 75 v _ 3 40 underlying119 x y z A rfl (by decide) _ _ _ rfl r ⟨b,h,none⟩ n c f rfl (by omega) B t (by unfold maxLen;omega) (by omega) j.size ?_;intro L M m D N;obtain⟨g,rfl⟩:∃ g,n=g+1:=⟨n - 1,by omega⟩;rw[EK,ED] at m;obtain⟨E,F,rfl⟩:=fD m)
 have G:=j.grown D j.size (fun i k=>(r.lt i k).1);go_ret;exact⟨E,F,rfl,m,G⟩
theorem cC {g y:Nat} (h:(Value.slice (some ⟨g,0,none⟩) n c).ownBlock=some y):g=y:=by simpa[Value.ownBlock] using h
theorem BT (v:Value) (a:World):(Instr.typeAssert (.iface 123 v) 68 123 true).run prog a=.ok (.tuple #[v,.bool true]) a:=by kernel_rfl
theorem BU (v:Value) (a:World):(Instr.typeAssert (.iface 77 v) 68 123 true).run prog a=.ok (.tuple #[.pointer none,.bool false]) a:=by kernel_rfl
theorem Ah (v:Value) (a:World):(Instr.typeAssert (.iface 77 v) 68 77 true).run prog a=.ok (.tuple #[v,.bool true]) a:=by kernel_rfl
def j8 (w:World) (P:Nat->Prop) (t:T) (k:Nat) (u:Value) (e:Ending) (w':World):Prop:=∃ u2,e=.returned u2∧(∃ P1 P2:Nat->Prop,GM w' P1 (t.fore k) u∧GM w' P2 (t.rest k) u2∧(∀ b,P1 b->¬ P2 b)∧∀ b,P1 b∨P2 b->(P b∨w.heap.size<=b)∧b<w'.heap.size)∧Fr P w w'
theorem rA {base e size b k:Nat} {a:List Value} (h:w.ownsRow base e size (.slice (some ⟨b,0,none⟩) n c) n a) (d:k<=n):w.ownsRow base e size (.slice (some ⟨b,0,none⟩) k c) k (a.take (k*size)):=by
 have p:=h.1;have f:=Nat.mul_le_mul_right size d;rcases h.2 with ⟨e,_⟩ | ⟨q,r,g,e,i,j,s,l,m,o⟩;·cases e
 ·simp only[Value.slice.injEq,Option.some.injEq,Addr.mk.injEq] at e;obtain⟨⟨rfl,_⟩,_,rfl⟩:=e;refine⟨by rw[Eu];omega,.inr ⟨b,c,g,rfl,i,j,by omega,l,m,?_⟩⟩;rw[<-o,List.take_take,Nat.min_eq_left f]
theorem rB (k:Nat) (a:List ByteArray) (b:List ByteArray) (c:List Int):(a.take k).zip ((b.take k).zip (c.take k))=(a.zip (b.zip c)).take k:=by
 simp[List.zip,List.take_zipWith]
theorem rC (k:Nat) (a:List ByteArray) (b:List ByteArray) (c:List Int):(a.drop k).zip ((b.drop k).zip (c.drop k))=(a.zip (b.zip c)).drop k:=by
 simp[List.zip,List.drop_zipWith]
theorem tw (h:su w P t L a n c) (N:t.leaf=true) (k:Nat) (ax:0<k) (az:k<n) (aA:n<=1000) (O:∀ b,P b->b<w.heap.size) :
  Calls prog 26 #[.iface 123 (.pointer (some ⟨L,0,none⟩)),.int .i64 k] w fun d ae=>j8 w P t k (.iface 123 (.pointer (some ⟨L,0,none⟩))) d ae:=by
 obtain⟨Q,ag⟩:=Zn w.heap.size;obtain⟨u,C⟩:=Zn (t.keys.zip (t.vals.zip t.over));have j:=h.row;rw[C] at j;have aC:u.length=n:=by have:=j.1;rw[ay uo] at this;omega
 have aD:L<Q:=by have:=O L h.at';omega
 rcases j.2 with ⟨_,d⟩ | ⟨b,aE,aF,d,_,D,aG,aH,ah,ai⟩;·omega
 simp only[Value.slice.injEq] at d;obtain⟨rfl,_,rfl⟩:=d;obtain⟨R,E⟩:=h.blk b rfl;have aI:=O b R;have F:=h.at';have v:=h.box;obtain⟨aJ,ak⟩:=Zn t.page;rw[ak] at v;have S:=gu v;have x:Hid (n=t.keys.length∧t.keys.zip (t.vals.zip t.over)=u):=⟨h.len,C⟩;have aK:∀ w,(nilAhead 290 123 (.pointer (some ⟨L,0,none⟩)) "loop.example/s02098/impl.soil").run prog w=.ok (some false) w:=fun w=>by kernel_rfl
 have aL:∀ w,(method 290 123 (.pointer (some ⟨L,0,none⟩)) "loop.example/s02098/impl.soil").run prog w=.ok (95,.pointer (some ⟨L,0,none⟩)) w:=fun w=>by kernel_rfl
 clear C;have aM:=BT;go_enter func26,ntmps26;go_wp2_with fail
 refine S.mono ?_;rintro d y ⟨rfl,G⟩;have l:=af w L 0 (.int .i64 0);rw[<-G] at l;have H:y.heap[L]?=some (.cells #[.int .i64 0,.slice (some ⟨b,0,none⟩) n c] 125):=by rw[G];simpa using aj v 0 (.int .i64 0)
 have m:=am j l (fun e D d=>by cases D;exact E d);have aN:=l.size;have T:Fr (fun b=>P b∨Q<=b) w y:=l.weak (fun e d=>.inl (by rw[d];exact F));have U:=wQ b (k*3) (n - k) (c - k) ((aa aB u).drop (k*3)) y (by rw[ET,m.1];omega) (by omega) (by omega) (by omega) (fun V al=>j6 u V (EF al)) (fun I V J=>by rw[E2] at J;have W:=Zc J;rw[m.1] at W;have d:(⟨b,k*3,none⟩:Addr).add I=⟨b,k*3+I,none⟩:=(by simp[Addr.add]);rw[d,m.cellAt (k*3+I) W];exact J);obtain⟨X,Y⟩:=au H;have aO:L<y.heap.size:=by omega
 have aP:¬ (c=k):=by omega
 have aQ:k<=n:=by omega
 clear S G l v j D ai ah;go_wp2_with fail
 refine U.mono ?_;rintro d o ⟨e,p,rfl,K,q⟩;have aR:=q.size;have ao:=K.lt e rfl;have r:=Zb o (.cells #[.int .i64 0,.slice (some ⟨e,0,none⟩) (n - k) p] 125);have M:=Ej o (.cells #[.int .i64 0,.slice (some ⟨e,0,none⟩) (n - k) p] 125);have z:=(r.block L (by omega)).trans ((q.block L (by omega)).trans H);have Z:=an (an m q) r;have ab:=an K r;obtain⟨s,ac⟩:=Zn o.heap.size;have aS:(o.alloc (.cells #[.int .i64 0,.slice (some ⟨e,0,none⟩) (n - k) p] 125)).heap.size=s+1:=by simp[ac]
 rw[ac] at M;have ad:=(T.trans (Fr.of_below q)).trans (Fr.of_below r);go_upto_region 6 with fail
 generalize o.alloc (.cells #[.int .i64 0,.slice (some ⟨e,0,none⟩) (n - k) p] 125)=i at *;clear U X Y q r H m K T;obtain⟨X,Y⟩:=au z;have aT:=ar z;have aU:L<i.heap.size:=by omega
 have ap:Hid (j8 w P t k (.iface 123 (.pointer (some ⟨L,0,none⟩))) (.returned (.iface 123 (.pointer (some ⟨s,0,none⟩)))) (i.setCell ⟨L,1,none⟩ (.slice (some ⟨b,0,none⟩) k c))):=by
  have A:=af i L 1 (.slice (some ⟨b,0,none⟩) k c);have aq:(i.setCell ⟨L,1,none⟩ (.slice (some ⟨b,0,none⟩) k c)).heap.size=i.heap.size:=(by simp[World.setCell]);have av:(i.setCell ⟨L,1,none⟩ (.slice (some ⟨b,0,none⟩) k c)).heap[L]?=some (.cells #[.int .i64 0,.slice (some ⟨b,0,none⟩) k c] 125):=(by simpa using aj z 1 (.slice (some ⟨b,0,none⟩) k c));refine⟨_,rfl,⟨fun f=>f=L∨f=b,fun f=>f=s∨f=e,?_,?_,fun f aV aW=>by omega,fun f aw=>?_⟩,?_⟩;·refine su.is (a:=some ⟨b,0,none⟩) (n:=k) (c:=c) ⟨.inl rfl,av,?_,fun B g=>by cases g;exact⟨.inr rfl,E⟩,by show k=(t.keys.take k).length;rw[Eu,<-x.out.1];omega⟩ N;show World.ownsRow _ 0 _ 3 _ k (aa aB ((t.keys.take k).zip ((t.vals.take k).zip (t.over.take k))));rw[rB,x.out.2,dM uo];exact am (rA Z (by omega)) A (fun B g d=>by cases g;exact E d)
  ·refine su.is (a:=some ⟨e,0,none⟩) (n:=n - k) (c:=p) ⟨.inl rfl,(A.block s (by omega) (by omega)).trans M,?_,fun B g=>by cases g;exact⟨.inr rfl,by show e≠s;omega⟩,by show n - k=(t.keys.drop k).length;rw[ET,<-x.out.1]⟩ N;show World.ownsRow _ 0 _ 3 _ (n - k) (aa aB ((t.keys.drop k).zip ((t.vals.drop k).zip (t.over.drop k))));rw[rC,x.out.2,eH uo];exact am (cr ab (En _)) A (fun B g d=>by have:=cC g;omega)
  ·rw[aq];rcases aw with (rfl | rfl) | (rfl | rfl);·exact⟨.inl F,by omega⟩
   ·exact⟨.inl R,by omega⟩
   ·exact⟨.inr (by omega),by omega⟩
   ·exact⟨.inr (by omega),by omega⟩
  ·refine eV ?_;rw[ag];exact ad.trans (A.weak (fun B d=>.inl (by rw[d];exact F)))
 clear z Z ab M ad ao;go_wp2_with fail
 go_ret;exact ap.out
theorem qN {ul:List Value} {Q:Nat->Nat->Prop} (h:gC w P t L a n c ul Q) (ab:t.leaf=false) (k:Nat) (aK:0<k) (aL:k<n) (aM:n<=1000) (O:∀ f,P f->f<w.heap.size) (q:∀ H ∈ ul,H.oneCell'=true) :
  Calls prog 26 #[.iface 77 (.pointer (some ⟨L,0,none⟩)),.int .i64 k] w fun e ax=>j8 w P t k (.iface 77 (.pointer (some ⟨L,0,none⟩))) e ax:=by
 obtain⟨R,ay⟩:=Zn w.heap.size;have I:=h.row;have az:ul.length=n:=by have:=I.1;omega
 have aN:L<R:=by have:=O L h.at';omega
 rcases I.2 with ⟨_,e⟩ | ⟨f,aO,aP,e,_,S,aQ,aR,aA,aB⟩;·omega
 simp only[Value.slice.injEq] at e;obtain⟨rfl,_,rfl⟩:=e;obtain⟨ac,U⟩:=h.blk f rfl;have aS:=O f ac;have ad:=h.at';have J:=h.box;obtain⟨aT,aC⟩:=Zn t.page;rw[aC] at J;have ae:=gu J;have aD:=hidI h;have aU:∀ w,(nilAhead 290 77 (.pointer (some ⟨L,0,none⟩)) "loop.example/s02098/impl.soil").run prog w=.ok (some false) w:=fun w=>by kernel_rfl
 have aV:∀ w,(method 290 77 (.pointer (some ⟨L,0,none⟩)) "loop.example/s02098/impl.soil").run prog w=.ok (95,.pointer (some ⟨L,0,none⟩)) w:=fun w=>by kernel_rfl
 clear h;have aW:=BU;have aX:=Ah;go_enter func26,ntmps26;go_wp2_with fail
 refine ae.mono ?_;rintro e K ⟨rfl,V⟩;have y:=af w L 0 (.int .i64 0);rw[<-V] at y;have W:K.heap[L]?=some (.cells #[.int .i64 0,.slice (some ⟨f,0,none⟩) n c] 83):=by rw[V];simpa using aj J 0 (.int .i64 0)
 have X:=am I y (fun o S e=>by cases S;exact U e);have aY:=y.size;have ag:Fr (fun f=>f=L∨R<=f) w K:=y.weak (fun o e=>.inl e);have ah:=wP f k (n - k) (c - k) (ul.drop k) K (by rw[ET,az]) (by omega) (by omega) (by omega) (fun H aE=>q H (EF aE)) (fun l H v=>by rw[E2] at v;have aZ:=Zc v;have e:(⟨f,k,none⟩:Addr).add l=⟨f,k+l,none⟩:=(by simp[Addr.add]);rw[e,X.cellAt (k+l) (by omega)];exact v);obtain⟨ai,ak⟩:=au W;have a0:L<K.heap.size:=by omega
 have a1:¬ (c=k):=by omega
 have a2:k<=n:=by omega
 clear ae V y J I S aB aA;go_wp2_with fail
 refine ah.mono ?_;rintro e z ⟨o,A,rfl,Y,B⟩;have a3:=B.size;have aF:=Y.lt o rfl;have C:=Zb z (.cells #[.int .i64 0,.slice (some ⟨o,0,none⟩) (n - k) A] 83);have Z:=Ej z (.cells #[.int .i64 0,.slice (some ⟨o,0,none⟩) (n - k) A] 83);have M:=(C.block L (by omega)).trans ((B.block L (by omega)).trans W);have al:=an (an X B) C;have ao:=an Y C;obtain⟨D,ap⟩:=Zn z.heap.size;have a4:(z.alloc (.cells #[.int .i64 0,.slice (some ⟨o,0,none⟩) (n - k) A] 83)).heap.size=D+1:=by simp[ap]
 rw[ap] at Z;have aq:=(ag.trans (Fr.of_below B)).trans (Fr.of_below C);go_upto_region 11 with fail
 generalize z.alloc (.cells #[.int .i64 0,.slice (some ⟨o,0,none⟩) (n - k) A] 83)=r at *;clear ah ai ak B C W X Y ag;obtain⟨ai,ak⟩:=au M;have a5:=ar M;have a6:L<r.heap.size:=by omega
 have aG:Hid (j8 w P t k (.iface 77 (.pointer (some ⟨L,0,none⟩))) (.returned (.iface 77 (.pointer (some ⟨D,0,none⟩)))) (r.setCell ⟨L,1,none⟩ (.slice (some ⟨f,0,none⟩) k c))):=by
  have N:=af r L 1 (.slice (some ⟨f,0,none⟩) k c);have aH:(r.setCell ⟨L,1,none⟩ (.slice (some ⟨f,0,none⟩) k c)).heap.size=r.heap.size:=(by simp[World.setCell]);have aI:(r.setCell ⟨L,1,none⟩ (.slice (some ⟨f,0,none⟩) k c)).heap[L]?=some (.cells #[.int .i64 0,.slice (some ⟨f,0,none⟩) k c] 83):=(by simpa using aj M 1 (.slice (some ⟨f,0,none⟩) k c));have av:=aq.trans (N.weak (fun E e=>.inl e));have i:=aD.out;have s:∀ b d,Q b d->d<R:=fun b d g=>(by have:=O d (i.sub b d g).1;omega);have aw:∀ b m,t.kids[b]?=some m->GM (r.setCell ⟨L,1,none⟩ (.slice (some ⟨f,0,none⟩) k c)) (Q b) m (ul.getD b .nilIface):=fun b m x =>
   GM.keep m (Q b) (Q b) _ (fun d g=>av.block d (by have:=s b d g;omega) (fun e=>by
    rcases e with e | e;·exact (i.sub b d g).2.1 e
    ·have:=s b d g;omega)) (fun _ h=>h) (i.kid b m (Ew x) x)
  refine⟨_,rfl,⟨fun d=>d=L∨d=f∨∃ b,b<k∧Q b d,fun d=>d=D∨d=o∨∃ b,k<=b∧Q b d,?_,?_,fun d q j=>?_,fun d g=>?_⟩,?_⟩
  ·refine gC.is (a:=some ⟨f,0,none⟩) (n:=k) (c:=c) (ul:=ul.take k) (Q:=fun b d=>b<k∧Q b d) ⟨.inl rfl,aI,?_,fun E u=>by cases u;exact⟨.inr (.inl rfl),U⟩,by show k=(t.kids.take k).length;rw[Eu,<-i.len];omega,fun b l d q j=>i.dis b l d q.2 j.2,fun b d g=>⟨.inr (.inr ⟨b,g⟩),(i.sub b d g.2).2.1,(i.sub b d g.2).2.2⟩,fun b m aJ F=>?_⟩ ab;·have:=am (rA al (k:=k) (by omega)) N (fun E u e=>by cases u;exact U e);rw[Fv] at this;exact this
   ·have aa:b<k:=(by have:=Zc F;simp[T.fore] at this;omega);have x:t.kids[b]?=some m:=(by simpa[T.fore,E9,aa] using F);have e:(ul.take k).getD b .nilIface=ul.getD b .nilIface:=(by simp[List.getD,E9,aa]);rw[e];exact GM.keep m (Q b) _ _ (fun _ _=>rfl) (fun d g=>⟨aa,g⟩) (aw b m x)
  ·refine gC.is (a:=some ⟨o,0,none⟩) (n:=n - k) (c:=A) (ul:=ul.drop k) (Q:=fun b d=>Q (k+b) d) ⟨.inl rfl,(N.block D (by omega) (by omega)).trans Z,?_,fun E u=>by cases u;exact⟨.inr (.inl rfl),by show o≠D;omega⟩,by show n - k=(t.kids.drop k).length;rw[ET,<-i.len],fun b l d q j=>by have:=i.dis _ _ d q j;omega,fun b d g=>⟨.inr (.inr ⟨k+b,by omega,g⟩),by have:=s _ d g;omega,fun e=>by have:=cC e;have:=s _ _ g;omega⟩,fun b m aJ F=>?_⟩ ab;·exact am (cr ao (En _)) N (fun E u e=>by have:=cC u;omega)
   ·have x:t.kids[k+b]?=some m:=(by simpa[T.rest,E2] using F);have e:(ul.drop k).getD b .nilIface=ul.getD (k+b) .nilIface:=(by simp[List.getD,E2]);rw[e];exact aw (k+b) m x
  ·rcases q with rfl | rfl | ⟨b,F,p⟩
   ·rcases j with j | j | ⟨l,v,G⟩;·omega
    ·omega
    ·exact (i.sub l _ G).2.1 rfl
   ·rcases j with j | j | ⟨l,v,G⟩;·omega
    ·omega
    ·exact (i.sub l _ G).2.2 rfl
   ·have g:=s b d p;rcases j with j | j | ⟨l,v,G⟩;·omega
    ·omega
    ·have:=i.dis b l d p G;omega
  ·rw[aH];rcases g with (rfl | rfl | ⟨b,_,p⟩) | (rfl | rfl | ⟨b,_,p⟩);·exact⟨.inl ad,by omega⟩
   ·exact⟨.inl ac,by omega⟩
   ·exact⟨.inl (i.sub b d p).1,by have:=s b d p;omega⟩
   ·exact⟨.inr (by omega),by omega⟩
   ·exact⟨.inr (by omega),by omega⟩
   ·exact⟨.inl (i.sub b d p).1,by have:=s b d p;omega⟩
  ·refine eV ?_;rw[ay];exact av.weak (fun E e=>by rcases e with e | e;exact .inl (by rw[e];exact ad);exact .inr e)
 clear M al ao Z aq aF;go_wp2_with fail
 go_ret;exact aG.out
end Go.Proofs.YtggmghkcdfjdoaaGreat
