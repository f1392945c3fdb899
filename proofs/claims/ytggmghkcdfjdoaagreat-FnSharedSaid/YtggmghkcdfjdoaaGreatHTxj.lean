import Derived.Test.YtggmghkcdfjdoaaGreatHTks
import Derived.Test.YtggmghkcdfjdoaaGreatHTwq
namespace Go.Proofs.YtggmghkcdfjdoaaGreat
set_option maxHeartbeats 8000000
open Go.RowKit Tryz
set_option linter.unusedVariables false
set_option linter.unusedSimpArgs false
set_option maxRecDepth 100000
variable {w:World}
theorem xd:(prog.info? 75).map (fun a=>(a.zero,a.size,a.bytes))=some (some (.agg #[.string ByteArray.empty,.string ByteArray.empty,.int .i64 0]),3,40):=by kernel_rfl
theorem tJ {base e size n c:Nat} {a:Option Addr} {g:List Value} (h:w.ownsRow base e size (.slice a n c) n g) (l:∀ j ∈ g,j.oneCell'=true) (m:n<=1048576):bi w w.heap.size size n (.slice a n c) g:=by
 refine⟨h.1,m,l,a,c,rfl,?_⟩;rcases h.2 with ⟨b,s⟩ | ⟨f,t,u,b,v,x,y,z,_⟩;·simp only[Value.slice.injEq] at b;obtain⟨rfl,rfl,rfl⟩:=b;have d:=List.length_eq_zero_iff.1 (by rw[h.1];simp);subst d;exact⟨fun _=>rfl,fun o=>absurd o (by simp),fun p d=>by cases d⟩
 ·simp only[Value.slice.injEq] at b;obtain⟨rfl,_,rfl⟩:=b;refine⟨(fun e=>by cases e),fun _=>⟨f,0,rfl⟩,fun p d i j k=>?_⟩;cases d;have q:=h.lt f rfl;have r:=Zc k;have e:(⟨f,0,none⟩:Addr).add i=⟨f,i,none⟩:=(by rw[gy,EK]);rw[e];exact⟨q.2,by rw[h.cellAt i (by rw[<-h.1];exact r)];exact k⟩
def kD (w:World) (P1 P2:Nat->Prop) (t1 t2:T) (u:Value) (e:Ending) (w':World):Prop:=e=.returned (.tuple #[])∧(∃ P:Nat->Prop,GM w' P (ag t1 t2) u∧∀ b,P b->(P1 b∨P2 b∨w.heap.size<=b)∧b<w'.heap.size)∧Fr P1 w w'
theorem tK {P1 P2:Nat->Prop} {g j:T} {e p:Nat} {L D:Option Addr} {m M l E:Nat} (h:su w P1 g e L m M) (k:su w P2 j p D l E) (X:g.leaf=true) (ap:j.leaf=true) (Y:g.vals.length=g.keys.length∧g.over.length=g.keys.length∧g.kids=[]) (Z:j.vals.length=j.keys.length∧j.over.length=j.keys.length∧j.kids=[]) (aV:m<=1000) (aW:l<=1000) (N:∀ b,P1 b->b<w.heap.size) (O:∀ b,P2 b->b<w.heap.size) (P:∀ b,P1 b->¬ P2 b) :
  Calls prog 103 #[.iface 123 (.pointer (some ⟨e,0,none⟩)),.iface 123 (.pointer (some ⟨p,0,none⟩))] w fun d Q=>kD w P1 P2 g j (.iface 123 (.pointer (some ⟨e,0,none⟩))) d Q:=by
 obtain⟨aX,aY⟩:=Zn w.heap.size;obtain⟨aZ,ab⟩:=Zn g.page;obtain⟨ac,ad⟩:=Zn j.page;have R:=h.box;have ae:=k.box;rw[ab] at R;rw[ad] at ae;have a0:=N e h.at';have aq:=O p k.at';have ag:e≠p:=fun d=>P e h.at' (d ▸ k.at');have q:Hid (su w P1 g e L m M∧su w P2 j p D l E):=⟨h,k⟩;have ah:Hid ((∀ b,P1 b->b<w.heap.size)∧(∀ b,P2 b->b<w.heap.size)∧∀ b,P1 b->¬ P2 b):=⟨N,O,P⟩;have A:Hid ((g.vals.length=g.keys.length∧g.over.length=g.keys.length∧g.kids=[])∧(j.vals.length=j.keys.length∧j.over.length=j.keys.length∧j.kids=[])∧g.leaf=true):=⟨Y,Z,X⟩;have ai:=gu R;have a1:∀ w,(nilAhead 290 123 (.pointer (some ⟨e,0,none⟩)) "loop.example/s02098/impl.soil").run prog w=.ok (some false) w:=fun w=>by kernel_rfl
 have a2:∀ w,(method 290 123 (.pointer (some ⟨e,0,none⟩)) "loop.example/s02098/impl.soil").run prog w=.ok (95,.pointer (some ⟨e,0,none⟩)) w:=fun w=>by kernel_rfl
 have a3:=BT;obtain⟨av,aw,ax,ay,az⟩:=info_parts xd;clear X ap Y Z N O P ab ad h k;go_enter func103,ntmps103;go_upto_region 1 with (refine ai.mono ?_;rintro d r ⟨rfl,F⟩)
 have x:=af w e 0 (.int .i64 0);rw[<-F] at x;have ak:r.heap[e]?=some (.cells #[.int .i64 0,.slice L m M] 125):=by rw[F];simpa using aj R 0 (.int .i64 0)
 have aA:=(x.block p aq (Ne.symm ag)).trans ae;have aC:=am q.out.1.row x (fun f o d=>(q.out.1.blk f o).2 d);have aE:=am q.out.2.row x (fun f o d=>ah.out.2.2 f (by rw[d];exact q.out.1.at') (q.out.2.blk f o).1);have a4:=x.size;have a5:e<r.heap.size:=by omega
 have a6:p<r.heap.size:=by omega
 have aF:=tJ aE (fun aG aH=>j6 _ aG aH) (by omega);have aI:Hid (Fr P1 w r):=x.weak (fun f d=>by rw[d];exact q.out.1.at');try rw[<-F]
 clear ai F x;go_upto_region 6 with fail
 have S:r.drew.heap[p]?=some (.cells #[.int .i64 ac,.slice D l E] 125):=aA;refine Zg (fun Q:World=>Q.heap[p]?=some (.cells #[.int .i64 ac,.slice D l E] 125)) (S) (fun G=>?_);refine Zx .a0 ?_;refine Zx .a1 ?_;refine Zx .a2 ?_;refine Zx .a3 ?_;try simp only[Zq]
 refine Zx .a5 ?_;refine Zx .a6 ?_;refine Zx .a7 ?_;refine Zy .a8 (fun al H=>by (try dsimp only at H);obtain⟨a7,a8⟩:=au H;go_simp;rfl) ?_;try simp only[Zq]
 obtain⟨a9,a'⟩:=au ak;refine Zr [4] ?_;refine rdA .a4 (fun B u=>?_) Ei;go_simp;refine u.out _ _ (S) (fun G=>?_);clear u B;try simp only[Zq]
 refine Zr [9] ?_;refine rdA .a9 (fun B u=>?_) Ei;refine aN rfl _ _ 119 rfl 0 75 av _ 3 40 underlying119 aw ax ay az rfl (by decide) (by decide) _ m _ rfl (an aC (Ev _ _).drew) (by omega) _ r.heap.size l _ rfl (aF.below (Ev _ _).drew) (En _) ?_;intro ba y U z aJ;obtain⟨s,t,rfl⟩:=ao U;have bb:r.drew.heap.size=r.heap.size:=rfl;have aK:=z.size;have C:=q.out.1.blk;have I:=(z.block e (by omega) (fun d=>(C _ d.symm).2 rfl)).trans ak;have J:=(z.block p (by omega) (fun d=>ah.out.2.2 p (C _ d.symm).1 q.out.2.at')).trans S;have V:=af y e 1 (.slice s (m+l) t);have aL:(y.setCell ⟨e,1,none⟩ (.slice s (m+l) t)).heap[e]?=some (.cells #[.int .i64 0,.slice s (m+l) t] 125):=by simpa using aj I 1 (.slice s (m+l) t)
 have W:∀ f,(Value.slice s (m+l) t).ownBlock=some f->(P1 f∨r.heap.size<=f)∧f≠e:=fun f o=>by
  rcases aJ with d | d;·rw[d] at o;exact⟨.inl (C f o).1,(C f o).2⟩
  ·have:=d f o;exact⟨.inr (by omega),by omega⟩
 have aM:Hid (kD w P1 P2 g j (.iface 123 (.pointer (some ⟨e,0,none⟩))) (.returned (.tuple #[])) (y.setCell ⟨e,1,none⟩ (.slice s (m+l) t))):=by
  have aO:=V;refine⟨rfl,⟨fun b=>b=e∨(Value.slice s (m+l) t).ownBlock=some b,?_,fun b K=>?_⟩,?_⟩;·refine su.is (a:=s) (n:=m+l) (c:=t) ⟨.inl rfl,aL,?_,fun f o=>⟨.inr o,(W f o).2⟩,by show m+l=(g.keys++j.keys).length;rw[El,q.out.1.len,q.out.2.len]⟩ A.out.2.2;show World.ownsRow _ 0 _ 3 _ _ (aa aB ((g.keys++j.keys).zip ((g.vals++j.vals).zip (g.over++j.over))));rw[List.zip_append (by rw[A.out.1.1,A.out.1.2.1]),List.zip_append (by rw[List.length_zip,A.out.1.1,A.out.1.2.1,Nat.min_self]),aD];exact am U aO (fun f o d=>(W f o).2 d)
  ·have aP:(y.setCell ⟨e,1,none⟩ (.slice s (m+l) t)).heap.size=y.heap.size:=(by simp[World.setCell]);rw[aP];rcases K with rfl | K;·exact⟨.inl q.out.1.at',by omega⟩
   ·refine⟨(W b K).1.elim .inl (fun h=>.inr (.inr (by omega))),(U.lt b K).2⟩
  ·refine eV ?_;have q1:Fr (fun b=>P1 b∨w.heap.size<=b) w r:=aI.out.weak (fun f d=>.inl d);have q2:Fr (fun b=>P1 b∨w.heap.size<=b) r y:=⟨z.os,z.tape,z.output,aK,fun f o aQ=>z.block f o (fun d=>aQ (.inl (C f d.symm).1))⟩;exact (q1.trans q2).trans (V.weak (fun f d=>.inl (by rw[d];exact q.out.1.at')))
 refine u.out _ _ (J) (fun G=>?_);clear u B;try simp only[Zq]
 refine un (i:=10) (v:=.pointer (some ⟨e,0,none⟩)) (.t .a0) (by kernel_rfl) (fun _ _ _ h=>h) (Fq ⟨by rfl,?_⟩) J ?_;·intro al H;go_simp
 try simp only[Zq]
 refine un (i:=11) (v:=.pointer (some ⟨e,1,none⟩)) (.t .a1) (by kernel_rfl) (fun _ _ _ h=>h) (Fq ⟨by rfl,?_⟩) J ?_;·intro al H;go_simp
 try simp only[Zq]
 obtain⟨aR,aS⟩:=au I;have aT:=ar I;have bc:=Za I;have aU:(y.setCell ⟨e,1,none⟩ (.slice s (m+l) t)).heap[p]?=_:=(V.block p (by omega) (Ne.symm ag)).trans J;refine Zr [12] ?_;refine rdA (.t .a2) (fun B u=>?_) Ei;go_simp;clear aR aS aT;refine u.out _ _ (aU) (fun G=>?_);clear u B;try simp only[Zq]
 refine Zd ?_;clear G;go_wp2_with fail
 go_end0
 exact aM.out
theorem xe:(prog.info? 68).map (fun a=>(a.zero,a.size,a.bytes))=some (some .nilIface,1,16):=by kernel_rfl
theorem qQ {P1 P2:Nat->Prop} {x E:T} {f q:Nat} {F W:Option Addr} {g G o X:Nat} {H J:List Value} {O K:Nat->Nat->Prop} (h:gC w P1 x f F g G H O) (k:gC w P2 E q W o X J K) (aC:x.leaf=false) (bf:g<=1000) (bg:o<=1000) (ai:∀ b,P1 b->b<w.heap.size) (ak:∀ b,P2 b->b<w.heap.size) (al:∀ b,P1 b->¬ P2 b) :
  Calls prog 103 #[.iface 77 (.pointer (some ⟨f,0,none⟩)),.iface 77 (.pointer (some ⟨q,0,none⟩))] w fun e ap=>kD w P1 P2 x E (.iface 77 (.pointer (some ⟨f,0,none⟩))) e ap:=by
 obtain⟨bh,bi⟩:=Zn w.heap.size;obtain⟨bj,aD⟩:=Zn x.page;obtain⟨aE,aF⟩:=Zn E.page;have aq:=h.box;have aG:=k.box;rw[aD] at aq;rw[aF] at aG;have bk:=ai f h.at';have aS:=ak q k.at';have aH:f≠q:=fun e=>al f h.at' (e ▸ k.at');have y:Hid (gC w P1 x f F g G H O∧gC w P2 E q W o X J K):=⟨h,k⟩;have av:Hid ((∀ b,P1 b->b<w.heap.size)∧(∀ b,P2 b->b<w.heap.size)∧(∀ b,P1 b->¬ P2 b)∧x.leaf=false):=⟨ai,ak,al,aC⟩;have aI:=gu aq;have bl:∀ w,(nilAhead 290 77 (.pointer (some ⟨f,0,none⟩)) "loop.example/s02098/impl.soil").run prog w=.ok (some false) w:=fun w=>by kernel_rfl
 have bm:∀ w,(method 290 77 (.pointer (some ⟨f,0,none⟩)) "loop.example/s02098/impl.soil").run prog w=.ok (95,.pointer (some ⟨f,0,none⟩)) w:=fun w=>by kernel_rfl
 have bn:=BU;have bo:=Ah;obtain⟨aT,aU,aV,aW,aX⟩:=info_parts xe;clear aC ai ak al aD aF h k;go_enter func103,ntmps103;go_upto_region 1 with (refine aI.mono ?_;rintro e u ⟨rfl,Y⟩)
 have I:=af w f 0 (.int .i64 0);rw[<-Y] at I;have aJ:u.heap[f]?=some (.cells #[.int .i64 0,.slice F g G] 83):=by rw[Y];simpa using aj aq 0 (.int .i64 0)
 have aY:=(I.block q aS (Ne.symm aH)).trans aG;have aZ:=am y.out.1.row I (fun l m e=>(y.out.1.blk l m).2 e);have a0:=am y.out.2.row I (fun l m e=>av.out.2.2.1 l (by rw[e];exact y.out.1.at') (y.out.2.blk l m).1);have bp:=I.size;have bq:f<u.heap.size:=by omega
 have br:q<u.heap.size:=by omega
 have a1:=tJ a0 y.out.2.one (by omega);have aK:=hidI I;try rw[<-Y]
 clear aI Y I;go_upto_region 11 with fail
 have aw:u.drew.heap[q]?=some (.cells #[.int .i64 aE,.slice W o X] 83):=aY;refine Zg (fun ap:World=>ap.heap[q]?=some (.cells #[.int .i64 aE,.slice W o X] 83)) (aw) (fun Z=>?_);refine Zx .a0 ?_;refine Zx .a1 ?_;refine Zx .a2 ?_;refine Zx .a3 ?_;try simp only[Zq]
 refine Zx .a5 ?_;refine Zx .a6 ?_;refine Zx .a7 ?_;refine Zy .a8 (fun aL aa=>by (try dsimp only at aa);obtain⟨bs,bt⟩:=au aa;go_simp;rfl) ?_;try simp only[Zq]
 obtain⟨bu,bv⟩:=au aJ;refine Zr [4] ?_;refine rdA .a4 (fun P B=>?_) Ei;go_simp;refine B.out _ _ (aw) (fun Z=>?_);clear B P;try simp only[Zq]
 refine Zr [9] ?_;refine rdA .a9 (fun P B=>?_) Ei;refine aN rfl _ _ 79 rfl 0 68 aT _ 1 16 underlying79 aU aV aW aX rfl (by decide) (by decide) _ g _ rfl (an aZ (Ev _ _).drew) (by omega) _ u.heap.size o _ rfl (a1.below (Ev _ _).drew) (En _) ?_;intro bw C ax D a2;obtain⟨s,t,rfl⟩:=ao ax;have bx:u.drew.heap.size=u.heap.size:=rfl;have a3:=D.size;have L:=y.out.1.blk;have ab:=(D.block f (by omega) (fun e=>(L _ e.symm).2 rfl)).trans aJ;have ac:=(D.block q (by omega) (fun e=>av.out.2.2.1 q (L _ e.symm).1 y.out.2.at')).trans aw;have ad:=af C f 1 (.slice s (g+o) t);have a4:(C.setCell ⟨f,1,none⟩ (.slice s (g+o) t)).heap[f]?=some (.cells #[.int .i64 0,.slice s (g+o) t] 83):=by simpa using aj ab 1 (.slice s (g+o) t)
 have ae:∀ l,(Value.slice s (g+o) t).ownBlock=some l->((Value.slice F g G).ownBlock=some l∨u.heap.size<=l)∧l≠f:=fun l m=>by
  rcases a2 with e | e;·rw[e] at m;exact⟨.inl m,(L l m).2⟩
  ·have:=e l m;exact⟨.inr (by omega),by omega⟩
 have aM:∀ b,b<w.heap.size->b≠f->(Value.slice F g G).ownBlock≠some b->(C.setCell ⟨f,1,none⟩ (.slice s (g+o) t)).heap[b]?=w.heap[b]?:=fun b j aO a5=>(ad.block b (by omega) aO).trans ((D.block b (by omega) (fun e=>a5 e.symm)).trans (aK.out.block b j aO));have a6:Hid (kD w P1 P2 x E (.iface 77 (.pointer (some ⟨f,0,none⟩))) (.returned (.tuple #[])) (C.setCell ⟨f,1,none⟩ (.slice s (g+o) t))):=by
  obtain⟨r,ag⟩:=y.out;obtain⟨R,ay,ah,a7⟩:=av.out;have a8:(C.setCell ⟨f,1,none⟩ (.slice s (g+o) t)).heap.size=C.heap.size:=(by simp[World.setCell]);have a9:H.length=g:=(by have:=r.row.1;omega);have z:=r.sub;have A:∀ d b,K d b->P2 b:=fun d b j=>(ag.sub d b j).1;have az:∀ b,P2 b->b≠f∧(Value.slice F g G).ownBlock≠some b:=fun b j=>⟨fun e=>ah f r.at' (e ▸ j),fun e=>ah b (L b e).1 j⟩;refine⟨rfl,⟨fun b=>b=f∨(Value.slice s (g+o) t).ownBlock=some b∨∃ d,O d b∨K d b,?_,fun b j=>?_⟩,?_⟩
  ·refine gC.is (a:=s) (n:=g+o) (c:=t) (ul:=H++J) (Q:=fun d b=>(d<g∧O d b)∨(g<=d∧K (d - g) b)) ⟨.inl rfl,a4,am ax ad (fun l m e=>(ae l m).2 e),fun l m=>⟨.inr (.inl m),(ae l m).2⟩,by show g+o=(x.kids++E.kids).length;rw[El,r.len,ag.len],?_,?_,?_⟩ a7
   ·intro d aP b M a';rcases M with ⟨S,p⟩ | ⟨S,p⟩<;>rcases a' with ⟨ba,U⟩ | ⟨ba,U⟩;·exact r.dis d aP b p U
    ·exact absurd (A _ b U) (ah b (z d b p).1)
    ·exact absurd (A _ b p) (ah b (z aP b U).1)
    ·have:=ag.dis _ _ b p U;omega
   ·intro d b M;have aA:(P1 b∨P2 b)∧b≠f∧(Value.slice F g G).ownBlock≠some b:=by
     rcases M with ⟨S,p⟩ | ⟨S,p⟩;·exact⟨.inl (z d b p).1,(z d b p).2⟩
     ·exact⟨.inr (A _ b p),az b (A _ b p)⟩
    refine⟨.inr (.inr ?_),aA.2.1,fun e=>?_⟩
    ·rcases M with ⟨S,p⟩ | ⟨S,p⟩;·exact⟨d,.inl p⟩
     ·exact⟨d - g,.inr p⟩
    ·rcases (ae b e).1 with aQ | aQ;·exact aA.2.2 aQ
     ·rcases aA.1 with aB | aB;·have:=R b aB;omega
      ·have:=ay b aB;omega
   ·intro d V bz M;have N:(x.kids++E.kids)[d]?=some V:=M;by_cases aR:d<g;·rw[EE (by rw[<-r.len];exact aR)] at N;have m:=r.kid d V (Ew N) N;have e:(H++J).getD d .nilIface=H.getD d .nilIface:=(by simp only[List.getD];rw[EE (by omega)]);rw[e];exact GM.keep V (O d) _ _ (fun b j=>aM b (R b (z d b j).1) (z d b j).2.1 (z d b j).2.2) (fun b j=>.inl ⟨aR,j⟩) m
    ·rw[EB (by rw[<-r.len];omega),<-r.len] at N;have m:=ag.kid (d - g) V (Ew N) N;have e:(H++J).getD d .nilIface=J.getD (d - g) .nilIface:=(by simp only[List.getD];rw[EB (by omega),a9]);rw[e];exact GM.keep V (K (d - g)) _ _ (fun b j=>aM b (ay b (A _ b j)) (az b (A _ b j)).1 (az b (A _ b j)).2) (fun b j=>.inr ⟨by omega,j⟩) m
  ·rw[a8];rcases j with rfl | j | ⟨d,j | j⟩;·exact⟨.inl r.at',by omega⟩
   ·exact⟨(ae b j).1.elim (fun h=>.inl (L b h).1) (fun h=>.inr (.inr (by omega))),(ax.lt b j).2⟩
   ·exact⟨.inl (z d b j).1,by have:=R b (z d b j).1;omega⟩
   ·exact⟨.inr (.inl (A d b j)),by have:=ay b (A d b j);omega⟩
  ·refine eV ?_;have q1:Fr (fun b=>P1 b∨w.heap.size<=b) w u:=aK.out.weak (fun l e=>.inl (by rw[e];exact r.at'));have q2:Fr (fun b=>P1 b∨w.heap.size<=b) u C:=⟨D.os,D.tape,D.output,a3,fun l m bb=>D.block l m (fun e=>bb (.inl (L l e.symm).1))⟩;exact (q1.trans q2).trans (ad.weak (fun l e=>.inl (by rw[e];exact r.at')))
 refine B.out _ _ (ac) (fun Z=>?_);clear B P;try simp only[Zq]
 refine un (i:=10) (v:=.pointer (some ⟨f,0,none⟩)) (.t .a0) (by kernel_rfl) (fun _ _ _ h=>h) (Fq ⟨by rfl,?_⟩) ac ?_;·intro aL aa;go_simp
 try simp only[Zq]
 refine un (i:=11) (v:=.pointer (some ⟨f,1,none⟩)) (.t .a1) (by kernel_rfl) (fun _ _ _ h=>h) (Fq ⟨by rfl,?_⟩) ac ?_;·intro aL aa;go_simp
 try simp only[Zq]
 obtain⟨bc,R⟩:=au ab;have bd:=ar ab;have bA:=Za ab;have be:(C.setCell ⟨f,1,none⟩ (.slice s (g+o) t)).heap[q]?=_:=(ad.block q (by omega) (Ne.symm aH)).trans ac;refine Zr [12] ?_;refine rdA (.t .a2) (fun P B=>?_) Ei;go_simp;clear bc R bd;refine B.out _ _ (be) (fun Z=>?_);clear B P;try simp only[Zq]
 refine Zd ?_;clear Z;go_wp2_with fail
 go_end0
 exact a6.out
def ig (ys:List T) (i:Int):Bool:=decide (0<=i∧i<ys.length∧2<(ys.getD i.toNat br).size)
theorem oy {P:Nat->Prop} {t:T} {L:Nat} {a:Option Addr} {n c:Nat} {ul:List Value} {Q:Nat->Nat->Prop} (h:gC w P t L a n c ul Q) (M:n<=1000) (i:Int) (N:-1<=i∧i<=n):Calls prog 101 #[.pointer (some ⟨L,0,none⟩),.int .i64 i] w fun b x=>b=.returned (.bool (ig t.kids i))∧x=w:=by
 have k:=hidI h.len;have j:=h.box;obtain⟨O,l⟩:=Zn t.page;rw[l] at j;obtain⟨R,S⟩:=au j;have U:=Za j;by_cases y:0<=i
 ·obtain⟨d,rfl⟩:∃ d:Nat,i=d:=⟨i.toNat,by omega⟩;by_cases z:d<n
  ·obtain⟨e,m⟩:∃ e,t.kids[d]?=some e:=⟨_,Eh (by rw[<-h.len];exact z)⟩;have o:=h.kid d e (Ew m) m;have A:ul.length=n:=(by have:=h.row.1;omega);obtain⟨B,C,p⟩:=o.shape;rw[p] at o;obtain⟨V,W,X,Y,Z,s⟩:=o.size;have q:=h.row;rcases q.2 with ⟨_,b⟩ | ⟨aa,ab,ac,b,_,D,ad,E,F,G⟩;·omega
   simp only[Value.slice.injEq] at b;obtain⟨rfl,_,rfl⟩:=b;have H:=q.cellAt d (by omega);have u:ul[d]?=some (.iface B C):=(by rw[<-p];simp only[List.getD];rw[Eh (by omega)];rfl);rw[u] at H;unfold maxLen at E;have f:Hid (ig t.kids d=decide (2<e.size)):=by
    show _=_;unfold ig;have r:t.kids.getD (d:Int).toNat br=e:=(by simp[List.getD,m]);rw[r];have I:=k.out;by_cases g:2<e.size;·rw[decide_eq_true g,decide_eq_true ⟨by omega,by omega,g⟩]
    ·rw[decide_eq_false g,decide_eq_false (fun b=>g b.2.2)]
   obtain⟨J,v⟩:=Zn e.size;rw[v] at f s;clear o m A q D F G j l h p u v k;go_enter func101,ntmps101;go_wp2_with fail
   refine s.mono ?_;rintro b K ⟨rfl,r⟩;obtain rfl:w=K:=r.symm;by_cases g:2<J;·(go_wp2_with fail);go_ret;exact⟨by rw[f.out];simp[g];omega,rfl⟩
   ·(go_wp2_with fail);go_ret;exact⟨by rw[f.out];simp[g];omega,rfl⟩
  ·have f:Hid (ig t.kids d=false):=(by show _=_;have I:=k.out;unfold ig;exact decide_eq_false (fun b=>by omega));clear j l h k;go_enter func101,ntmps101;go_wp2_with fail
   go_ret;exact⟨by rw[f.out];rfl,rfl⟩
 ·have f:Hid (ig t.kids i=false):=(by show _=_;unfold ig;exact decide_eq_false (fun b=>y b.1));clear j l h k;go_enter func101,ntmps101;go_wp2_with fail
  go_ret;exact⟨by rw[f.out];rfl,rfl⟩
end Go.Proofs.YtggmghkcdfjdoaaGreat
