import Derived.Test.YtggmghkcdfjdoaaGreatHTks
import Derived.Test.YtggmghkcdfjdoaaGreatHTxo
namespace Go.Proofs.YtggmghkcdfjdoaaGreat
open Go.RowKit Tryz
set_option linter.unusedVariables false
set_option linter.unusedSimpArgs false
set_option maxRecDepth 100000
variable {B c:Nat} {Q:Nat->Prop} {w:World}
theorem aL.one {z:T} {cs:List Value} (h:aL w B Q z cs):∀ b ∈ cs,b.oneCell'=true:=by
 obtain⟨_,_,_,_,_,_,_,_,_,_,_,_,c,_⟩:=h.out;intro b a;rw[c] at a;simp at a;rcases a with rfl | rfl | rfl | rfl | rfl | rfl<;>rfl
theorem OL.src' {base:Nat} {ys:List T} {b:Nat} {css:Nat->List Value} (h:OL w base Q ys b c css) {d:World} (l:d.heap[b]?=w.heap[b]?) (m:b<d.heap.size) (s:ys.length<=1000):bi d d.heap.size 6 ys.length (.slice (some ⟨b,0,none⟩) ys.length c) (az css ys.length):=by
 have i:=cu h.six;refine⟨i.1,by omega,fun j e=>?_,_,_,rfl,fun g=>(by cases g),fun _=>⟨_,_,rfl⟩,fun t n f j k=>?_⟩;·unfold az at e;obtain⟨o,p,e⟩:=List.mem_flatMap.1 e;have q:=List.mem_range.1 p;exact (h.kid o _ (Eh q)).one j e
 ·cases n;have r:=Zc k;rw[i.1] at r;have g:(⟨b,0,none⟩:Addr).add f=⟨b,f,none⟩:=(by simp[Addr.add];omega);rw[g];refine⟨m,(Ep (w:=w) (a:=⟨b,f,none⟩) l).trans ?_⟩;rw[h.row.cellAt f (by omega)];exact k
theorem tT {N:Nat} {b:Bool} {c:Int} {d:Option Addr} {e f:Nat} {g:Option Addr} {i j:Nat} {k:Option Addr} {l m:Nat} {n:Option Addr} {o p:Nat} (h:w.heap[N]?=some (.cells (Zs b c d e f g i j k l m n o p) 57)):bi w w.heap.size 6 1 (.slice (some ⟨N,0,none⟩) 1 1) [.bool b,.int .i64 c,.slice d e f,.slice g i j,.slice k l m,.slice n o p]:=by
 have s:=Za h;refine⟨rfl,by omega,fun t q=>?_,_,_,rfl,fun a=>(by cases a),fun _=>⟨_,_,rfl⟩,fun x u r t v=>?_⟩;·simp at q;rcases q with rfl | rfl | rfl | rfl | rfl | rfl<;>rfl
 ·cases u;have a:(⟨N,0,none⟩:Addr).add r=⟨N,r,none⟩:=(by simp[Addr.add];omega);rw[a];refine⟨s,?_⟩;unfold World.cell?;rw[h];simpa using v
theorem mo {b:Type} {m:Nat} {cs:b->List Value} {fit:b->Prop} {d:b} {a:Option Addr} {n:Nat} {j:List b} (h:aR w 0 B m cs fit d a n c j) (k:QA Q a n):QA (fun e=>Q e∧e<B) a n:=fun f=>by
 obtain⟨l,o,g,p⟩:=k f
 obtain⟨r,s,i,q⟩:=jm h f
 rw[g] at i
 cases i
 exact⟨l,o,g,p,q⟩
theorem aL.tight:∀ (b:T) (c:List Value),aL w B Q b c->aL w B (fun d=>Q d∧d<B) b c:=by
 intro b
 induction b using T.ind with
 |h b k=>intro c l;obtain⟨t,u,v,x,y,z,A,on,C,D,E,m,rfl,a⟩:=l.out;refine QX.mk' (css:=m) ⟨a.nx,mo a.nx.keys a.qk,mo a.nx.vals a.qv,mo a.nx.over a.qo,fun e=>?_,fun n f g o=>k f g _ (a.kq n f g o)⟩;obtain⟨p,q,i,r⟩:=a.qy e;obtain⟨F,G,j,s,_⟩:=a.nx.cell e;rw[i] at j;cases j;exact⟨p,q,i,r,s⟩
theorem SN.tight {t:T} {v:Value} (h:SN w Q t v):SN w (fun a=>Q a∧a<w.heap.size) t v:=by
 obtain⟨e,f,g,i,j,k,l,on,m,n,o,p,rfl,b⟩:=h;obtain⟨q,r,s,u,x,y,z,A,B,C,D,E,c,d⟩:=(aL.tight t _ b.mk').out;cases c;exact⟨_,_,_,_,_,_,_,_,_,_,_,_,rfl,d⟩
set_option maxHeartbeats 8000000 in
theorem AO {base:Nat} {ys:List T} {b m l:Nat} {css:Nat->List Value} {x y:T} (h:OL w base Q ys b c css) (b0:base<=w.heap.size) (aD:∀ a,Q a->a<w.heap.size) (aE:ys.length<=1000) (am:ys[l]?=some x) (aj:ys[l+1]?=some y) (aF:x.size<=400) (aG:y.size<=400) (aH:eQ x) (aI:eQ y) (b1:(m=l∧m=0∧y.size<=2)∨(m=l+1∧x.size<=2∧(m+1=ys.length∨∃ F:T,ys[m+1]?=some F∧F.size<=2))) :
  Calls prog 71 #[.slice (some ⟨b,0,none⟩) ys.length c,.int .i64 m] w fun d ad=>∃ J,d=.returned J∧SL ad (fun a=>Q a∨base<=a) (ys.take l++[ag x y]++ys.drop (l+2)) J∧Below base w ad:=by
 obtain⟨K,ak⟩:=Zn ys.length;have aK:=hidI ak;have bn:=aE;rw[ak] at bn;have dw:l+1<K:=by have:=Zc aj;omega
 have ap:K<=c∧c<=maxLen:=by
  rcases h.row.2 with ⟨d,dx⟩ | ⟨a,dy,dz,d,_,_,dA,b2,_⟩;·cases d
  ·simp only[Value.slice.injEq] at d;obtain⟨_,_,rfl⟩:=d;exact⟨by omega,b2⟩
 have dB:=ap.1;have b3:=ap.2;unfold maxLen at b3;obtain⟨a2,a3,a4,a5,a6⟩:=info_parts gm;obtain⟨b4,b5,b6,b7,b8,b9,b',ca,cb,cc,cd,ce,cf,cg,a7,a8⟩:=h.at am;obtain⟨ch,ci,cj,ck,cl,cm,cn,co,cp,cq,cr,cs,ct,cu,a9,a'⟩:=h.at aj;have ba:=h.lt.2;have dC:=h.lt.1;have bb:=hidI h;have aM:Hid (ys[l]?=some x∧ys[l+1]?=some y∧eQ x∧eQ y∧x.size<=400∧y.size<=400):=⟨am,aj,aH,aI,aF,aG⟩;have cv:=hidI aD;rw[ak];obtain⟨cw,bc⟩:=Zn (ys.take l++[ag x y]++ys.drop (l+2));rw[bc];have bo:=hidI bc;clear bc;rcases b1 with ⟨al,cx,cy⟩ | ⟨al,bp,U⟩
 focus
  replace al:=al.symm;subst al;have dD:¬ ((0:Int)<(l:Int)):=(by omega);have cz:(l:Int)+1<(K:Int):=(by omega);obtain⟨cD,bq⟩:=Zn y.size;have bd:=iF a9 w;rw[bq] at bd;have dE:¬ ((2:Int)<(cD:Int)):=(by omega);clear am aj aF aG aH aI aE ak ap bq cy cx h aD;have be:=a';obtain⟨aO,aP,aQ,aR,p4,aS⟩:=be;go_enter func71,ntmps71;go_wp2_with fail
  refine bd.mono ?_;rintro d N ⟨rfl,R⟩;clear bd
 rotate_left;have dF:(0:Int)<(m:Int):=by omega
 have dG:(m:Int) - 1=(l:Int):=by omega
 obtain⟨cE,bf⟩:=Zn x.size;have aq:=iF a7 w;rw[bf] at aq;have dH:¬ ((2:Int)<(cE:Int)):=by omega
 have dI:l<K:=by omega
 have be:=a8;obtain⟨aO,aP,aQ,aR,p4,aS⟩:=be;rcases U with U | ⟨F,U,cF⟩
 focus
  have dJ:¬ ((m:Int)+1<(K:Int)):=(by omega);clear am aj aF aG aH aI aE ak ap bf bp h aD U al;go_enter func71,ntmps71;go_wp2_with fail
  refine aq.mono ?_;rintro d N ⟨rfl,R⟩;clear aq
 rotate_left
 focus
  obtain⟨cG,cH,cJ,cK,cL,cM,cN,cO,cP,cQ,cR,cS,cT,cU,br,bs⟩:=h.at U;obtain⟨aT,bu⟩:=Zn F.size;have bv:Hid (∀ e,Calls prog 53 #[.agg (Zs cG cH cJ cK cL cM cN cO cP cQ cR cS cT cU)] e fun d ad=>d=.returned (.int .i64 aT)∧Below e.heap.size e ad):=fun e=>(by have:=iF br e;rw[bu] at this;exact this);have dK:¬ ((2:Int)<(aT:Int)):=(by omega);have cz:(m:Int)+1<(K:Int):=(by have:=Zc U;omega);clear am aj aF aG aH aI aE ak ap bf bp h aD U bu cF br al;go_enter func71,ntmps71;go_wp2_with fail
  refine aq.mono ?_;rintro d bw ⟨rfl,aU⟩;have cV:=aU.size;have dL:b<bw.heap.size:=(by omega);clear aO aP aQ aR p4 aS;obtain⟨aO,aP,aQ,aR,p4,aS⟩:=bs.keep (aU.block b ba);go_wp2_with fail
  refine (bv.out bw).mono ?_;rintro d N ⟨rfl,bx⟩;have R:=aU.trans (bx.mono cV);clear bs aq aU bx bv
 all_goals
  have dM:=R.size;have ae:=hidI (bb.out.below R (fun _ h=>h) bb.out.off);have bz:=hidI (a8.keep (R.block b ba));have bA:=hidI (a'.keep (R.block b ba));have SX:=hidI (a7.below R);have bB:=hidI (a9.below R);have bC:=hidI R;have bg:base<=N.heap.size:=(by omega);have bh:Hid (∀ a,Q a->a<N.heap.size):=fun a E=>(by have:=cv.out a E;omega);clear aO aP aQ aR p4 aS a8 a' a7 a9 R bb;go_upto_region 15 with fail
  have ar:b<N.heap.size:=(by have:=ae.out.lt.2;omega);obtain⟨e,bD⟩:∃ e:World,e=N:=⟨_,rfl⟩;rw[<-bD] at ae bz bA SX bB bC ar bg bh ⊢;clear bD;have au:Below e.heap.size e (e.alloc (.cells #[] 57)):=Zb _ _;have bE:=dp e 57 6 e.heap.size (Ek _);have bF:Hid (∀ N,N.heap[b]?=e.heap[b]?->b<N.heap.size->bi N N.heap.size 6 K (.slice (some ⟨b,0,none⟩) K c) (az css K)):=fun N cW cX=>(by have X:=ae.out.src' cW cX;rw[aK.out] at X;exact X bn);have bG:Hid (∀ f,f<K->(css f).length=6):=fun f O=>ae.out.six f (by rw[aK.out];exact O);have cY:b<(e.alloc (.cells #[] 57)).heap.size:=(by simp;omega);have bj:=(bF.out _ (au.block b ar) cY).fore (k:=l) (by omega);rw[(dj bG.out (by omega)).1] at bj;have bH:Hid (∀ J av,av.ownsRow e.heap.size 57 6 J (0+l) ([]++az css l)->(e.alloc (.cells #[] 57)).grownBy av (Value.slice (some ⟨e.heap.size,0,none⟩) 0 0).ownBlock->∃ x y,J=.slice x l y∧av.ownsRow e.heap.size 57 6 (.slice x l y) l (az css l)∧Below e.heap.size e av):=(by intro J av G g;rw[EK,ED] at G;obtain⟨x,y,rfl⟩:=ao G;exact⟨x,y,rfl,G,au.grown g au.size (fun a d=>by have:=cC d;omega)⟩);go_upto_region 16 with (at_builtin;refine aJ _ rfl _ _ 55 rfl e.heap.size 57 a2 _ 6 112 underlying55 a3 a4 a5 a6 rfl (by decide) (by decide) _ 0 [] rfl bE (by omega) _ (e.alloc (.cells #[] 57)).heap.size l _ rfl bj au.size ?_;intro J L G g Y;obtain⟨aw,af,rfl,bI,ah⟩:=bH.out J L G g)
  clear bH bj bE au G g Y;have cZ:=ah.size;have dN:¬ (Q b∨e.heap.size<=b):=fun d=>d.elim ae.out.off (fun d=>by omega);have aV:b<L.heap.size:=(by omega);have bJ:=hidI (bz.out.keep (ah.block b ar));have bK:=hidI (bA.out.keep (ah.block b ar));have aW:Below L.heap.size L L.drew:=(Ev _ _).drew;have bL:=cI (((SX.out.below ah).mono (Q':=fun a=>Q a) (fun a h=>h)).below aW) ((bB.out.below ah).below aW) (eY aM.out.2.2.1 (by have:=aM.out.2.2.2.2.1;omega)) (eY aM.out.2.2.2.1 (by have:=aM.out.2.2.2.2.2;omega));have bM:Hid (Calls prog 69 #[.agg (Zs b4 b5 b6 b7 b8 b9 b' ca cb cc cd ce cf cg),.agg (Zs ch ci cj ck cl cm cn co cp cq cr cs ct cu)] L.drew fun d H=>∃ i j n o p q r s t u v z C D,d=.returned (.agg (Zs i j n o p q r s t u v z C D))∧Below L.heap.size L H∧Hid ((H.alloc (.cells (Zs i j n o p q r s t u v z C D) 57)).ownsRow e.heap.size 57 6 (.slice aw l af) l (az css l)∧bi (H.alloc (.cells (Zs i j n o p q r s t u v z C D) 57)) (H.alloc (.cells (Zs i j n o p q r s t u v z C D) 57)).heap.size 6 1 (.slice (some ⟨H.heap.size,0,none⟩) 1 1) [.bool i,.int .i64 j,.slice n o p,.slice q r s,.slice t u v,.slice z C D]∧∀ ai M,M.ownsRow e.heap.size 57 6 ai (l+1) (az css l++[.bool i,.int .i64 j,.slice n o p,.slice q r s,.slice t u v,.slice z C D])->(H.alloc (.cells (Zs i j n o p q r s t u v z C D) 57)).grownBy M (Value.slice aw l af).ownBlock->(ai.ownBlock=(Value.slice aw l af).ownBlock∨∀ a,ai.ownBlock=some a->(H.alloc (.cells (Zs i j n o p q r s t u v z C D) 57)).heap.size<=a)->∃ Z aa,ai=.slice Z (l+1) aa∧(M.heap[b]?=L.heap[b]?∧b<M.heap.size)∧Hid (Below e.heap.size e M∧M.ownsRow e.heap.size 57 6 (.slice Z (l+1) aa) (l+1) (az css l++[.bool i,.int .i64 j,.slice n o p,.slice q r s,.slice t u v,.slice z C D])∧SN M (fun a=>(Q a∨L.heap.size<=a)∧(Value.slice Z (l+1) aa).ownBlock≠some a) (ag x y) (.agg (Zs i j n o p q r s t u v z C D))))):=by
   refine bL.mono ?_;rintro d H ⟨dO,rfl,bN,c0⟩;have V:=aW.trans c0;obtain⟨i,j,n,o,p,q,r,s,t,u,v,z,C,D,rfl⟩:=bN.letters;have c1:=V.size;have aX:∀ a,(Value.slice aw l af).ownBlock=some a->e.heap.size<=a∧a<L.heap.size:=fun a E=>bI.lt a E;have W:Below H.heap.size H (H.alloc (.cells (Zs i j n o p q r s t u v z C D) 57)):=Zb _ _;have ax:=an (an bI V) W;have c2:=Ej H (.cells (Zs i j n o p q r s t u v z C D) 57);have c3:=W.size;refine⟨i,j,n,o,p,q,r,s,t,u,v,z,C,D,rfl,V,ax,tT c2,fun ai M G g Y=>?_⟩;obtain⟨Z,aa,rfl⟩:=ao G;have bO:=g.size;have c4:¬ (some b=(Value.slice aw l af).ownBlock):=fun d=>(by have:=aX b d.symm;omega);have bk:=((g.block b (by omega) c4).trans (W.block b (by omega))).trans (V.block b aV);have ay:=ah.trans ((V.mono cZ).trans ((W.mono (by omega)).trans ⟨g.os,g.tape,g.output,g.size,fun a E=>g.block a (by omega) (fun d=>by have:=aX a d.symm;omega)⟩));have c5:SN H (fun a=>(Q a∨L.heap.size<=a)∧a<H.heap.size) (ag x y) (.agg (Zs i j n o p q r s t u v z C D)):=bN.tight;refine⟨Z,aa,rfl,⟨bk,by omega⟩,ay,G,c5.keep (fun a E aA=>?_) (fun a E=>⟨E.1,fun d=>?_⟩) (by omega)⟩;·exact (g.block a (by omega) (fun d=>by have:=aX a d.symm;rcases E.1 with X | X;(have:=bh.out a X;omega);omega)).trans (W.block a aA)
   ·rcases Y with bl | bl
    ·rw[bl] at d;have:=aX a d;rcases E.1 with X | X;·have:=bh.out a X;omega
     ·omega
    ·have:=bl a d;have:=E.2;omega
  clear bL aW;refine Zg (fun ad:World=>ad.heap[b]?=L.heap[b]?∧b<ad.heap.size) (⟨rfl,aV⟩) (fun aY=>?_);refine Zx .a0 ?_;refine Zx .a1 ?_;refine Zx .a2 ?_;refine Zw (.pointer (some ⟨b,l*6,none⟩)) .a3 ?_ ?_;·intro aZ S;go_simp<;>(intro c6;omega)
  try simp only[Zq]
  refine Zy .a4 (fun aZ S=>by (try dsimp only at S);obtain⟨c7,c8,c9,af,c',da⟩:=bJ.out.keep S.1;have db:=S.2;go_simp;rfl) ?_;refine Zx .a5 ?_;refine Zx .a6 ?_;refine Zw (.int .i64 ((l:Int)+1)) .a7 ?_ ?_;·intro aZ S;go_simp<;>(rw[Fa];omega)
  try simp only[Zq]
  refine Zw (.pointer (some ⟨b,(l+1)*6,none⟩)) .a8 ?_ ?_;·intro aZ S;go_simp<;>(intro c6;omega)
  refine Zy .a9 (fun aZ S=>by (try dsimp only at S);obtain⟨c7,c8,c9,af,c',da⟩:=bK.out.keep S.1;have db:=S.2;go_simp;rfl) ?_;try simp only[Zq]
  refine Zr [10] ?_;refine rdA (.t .a0) (fun aB ab=>?_) Ei;go_simp;refine bM.out.mono ?_;rintro d H ⟨i,j,n,o,p,q,r,s,t,u,v,z,C,D,rfl,V,dc⟩;go_wp2_with fail
  have c1:=V.size;refine ab.out _ _ (⟨V.block b aV,by omega⟩) (fun aY=>?_);clear ab aB;try simp only[Zq]
  refine Zr [11] ?_;refine rdA (.t .a1) (fun aB ab=>?_) Ei;go_simp;have W:Below H.heap.size H (H.alloc (.cells (Zs i j n o p q r s t u v z C D) 57)):=Zb _ _;obtain⟨ax,a0,bm⟩:=dc.out;obtain⟨dP,dd⟩:=Zn H.heap.size;rw[dd] at a0 ⊢;generalize H.alloc (.cells (Zs i j n o p q r s t u v z C D) 57)=de at W ax a0 bm ⊢;have c3:=W.size;refine ab.out _ _ (⟨(W.block b (by omega)).trans (V.block b aV),by omega⟩) (fun aY=>?_);clear ab aB;try simp only[Zq]
  refine Zr [12] ?_;refine rdA (.t .a2) (fun aB ab=>?_) Ei;refine aN rfl _ _ 55 rfl e.heap.size 57 a2 _ 6 112 underlying55 a3 a4 a5 a6 rfl (by decide) (by decide) _ l _ rfl ax (by omega) _ de.heap.size 1 _ rfl a0 (by omega) ?_;intro ai M G g Y;obtain⟨Z,aa,rfl,aC,bP⟩:=bm ai M G g Y;clear G g Y bm ax a0;refine ab.out _ _ (⟨aC.1,aC.2⟩) (fun aY=>?_);clear ab aB;refine Zx (.t .a3) ?_;try simp only[Zq]
  refine Zd ?_;obtain⟨ay,bQ,df⟩:=bP.out;have bO:=ay.size;have dg:=aC.2;have bk:=aC.1.trans (ah.block b ar);have a1:=(bF.out M bk dg).rest (k:=l+2) (by omega) (by omega);rw[(dj bG.out (by omega)).2] at a1;have bR:(some (⟨b,0,none⟩:Addr)).map (fun x=>x.add ((l+2)*6))=some ⟨b,(l+2)*6,none⟩:=(by simp[Addr.add]);rw[bR] at a1;clear bR;try (have dh:¬ c=l+2:=(by omega);rw[if_neg dh] at a1)
  have di:Hid (∀ J I,I.ownsRow e.heap.size 57 6 J (l+1+(K - (l+2))) (az css l++[.bool i,.int .i64 j,.slice n o p,.slice q r s,.slice t u v,.slice z C D]++az (fun f=>css (f+(l+2))) (K - (l+2)))->M.grownBy I (Value.slice Z (l+1) aa).ownBlock->∃ dk dl,J=.slice dk (l+1+(K - (l+2))) dl∧Hid (SL I (fun a=>Q a∨base<=a) cw J∧Below base w I)):=by
   intro J I G g;rw[<-bo.out];obtain⟨bS,bT,rfl⟩:=ao G;refine⟨bS,bT,rfl,?_⟩;have aT:=g.size;have bU:∀ a,(Value.slice Z (l+1) aa).ownBlock=some a->e.heap.size<=a:=fun a E=>(bQ.lt a E).1;have dm:[.bool i,.int .i64 j,.slice n o p,.slice q r s,.slice t u v,.slice z C D]=az (fun _=>[.bool i,.int .i64 j,.slice n o p,.slice q r s,.slice t u v,.slice z C D]) 1:=(by simp[az]);rw[dm,ef,ef] at G;have bV:(ys.take l++[ag x y]++ys.drop (l+2)).length=l+1+(K - (l+2)):=(by simp only[El,Eu,ET,EU,List.length_nil,aK.out];omega);have bW:∀ F ac,aL e e.heap.size Q F ac->aL I I.heap.size (fun a=>Q a∨base<=a) F ac:=fun F ac U=>aL.keep (fun a E aA=>(g.block a (by omega) (fun d=>by have:=bU a d.symm;omega)).trans (ay.block a aA)) (fun a E=>.inl E) (by omega) F ac U;have dn:aL I I.heap.size (fun a=>Q a∨base<=a) (ag x y) [.bool i,.int .i64 j,.slice n o p,.slice q r s,.slice t u v,.slice z C D]:=aL.keep (fun a E aA=>g.block a aA (fun d=>E.2 d.symm)) (fun a E=>E.1.imp id (fun h=>by omega)) aT _ _ df.nodeQ;have bX:(ys.take l).length=l:=(by rw[Eu,aK.out];omega);have dq:(ys.take l++[ag x y]).length=l+1:=(by rw[El,bX];rfl);have dr:∀ (f:Nat) F,(ys.take l++[ag x y]++ys.drop (l+2))[f]?=some F->aL I I.heap.size (fun a=>Q a∨base<=a) F ((fun f=>if f<l+1 then (fun f=>if f<l then css f else (fun _=>[.bool i,.int .i64 j,.slice n o p,.slice q r s,.slice t u v,.slice z C D]) (f - l)) f else (fun f=>css (f+(l+2))) (f - (l+1))) f):=by
    refine i8 (P:=fun F ac=>aL I I.heap.size (fun a=>Q a∨base<=a) F ac) (A:=ys.take l++[ag x y]) (B:=ys.drop (l+2)) (cA:=fun f=>if f<l then css f else (fun _=>[.bool i,.int .i64 j,.slice n o p,.slice q r s,.slice t u v,.slice z C D]) (f - l)) (cB:=fun f=>css (f+(l+2))) dq ?_ ?_
    ·refine i8 (P:=fun F ac=>aL I I.heap.size (fun a=>Q a∨base<=a) F ac) (A:=ys.take l) (B:=[ag x y]) (cA:=css) (cB:=fun _=>[.bool i,.int .i64 j,.slice n o p,.slice q r s,.slice t u v,.slice z C D]) bX ?_ ?_
     ·intro f F O;rw[E9] at O;split at O;·exact bW _ _ (ae.out.kid f F O)
      ·cases O
     ·intro f F O;have bY:=Ew O;rw[List.mem_singleton] at bY;rw[bY];exact dn
    ·intro f F O;rw[E2,Nat.add_comm] at O;exact bW _ _ (ae.out.kid _ F O)
   rw[<-bV] at G;obtain⟨ds,dt,du,dv⟩:=tN (Q:=fun a=>Q a∨base<=a) (bt G bg) (fun a E=>.inr E) dr;rw[<-bV];exact⟨⟨ds,dt,_,du,dv⟩,(bC.out.mono b0).trans ((ay.mono bg).trans ⟨g.os,g.tape,g.output,g.size,fun a E=>g.block a (by omega) (fun d=>by have:=bU a d.symm;omega)⟩)⟩
  clear bP aC bM bJ bK aY bo;go_wp2_with (at_builtin;refine aJ _ rfl _ _ 55 rfl e.heap.size 57 a2 _ 6 112 underlying55 a3 a4 a5 a6 rfl (by decide) (by decide) _ (l+1) _ rfl bQ (by omega) _ M.heap.size (K - (l+2)) _ rfl a1 bO ?_;intro J I G g Y;obtain⟨bS,bT,rfl,bZ⟩:=di.out J I G g;clear G g Y)
  all_goals (go_ret;exact⟨_,rfl,bZ.out.1,bZ.out.2⟩)
end Go.Proofs.YtggmghkcdfjdoaaGreat
