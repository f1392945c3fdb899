import Derived.Test.YtggmghkcdfjdoaaGreatHTks
import Derived.Test.YtggmghkcdfjdoaaGreatHTwd
namespace Go.Proofs.YtggmghkcdfjdoaaGreat
open Go.RowKit Tryz
set_option linter.unusedVariables false
set_option linter.unusedSimpArgs false
set_option maxRecDepth 100000
variable {Q:Nat->Prop} {t:T} {v:Value} {w:World}
theorem yp (key:ByteArray):∀ (b:List (ByteArray × ByteArray × Int)) (a:Nat),a<=b.length->(∀ c,c<a->aH (b.getD c (ByteArray.empty,ByteArray.empty,0)).1 key=true)->(a<b.length->¬ aH (b.getD a (ByteArray.empty,ByteArray.empty,0)).1 key=true)->bm key b=a
 | [],a,h,_,_=>by simp at h;simp[bm,h]
 | s::r,0,_,_,h3=>by
  have:=h3 (by simp)
  simp[List.getD] at this
  simp[bm,this]
 | s::r,a+1,h1,h2,h3=>by
  have d:=h2 0 (by omega)
  simp[List.getD] at d
  rw[bm,if_pos d,yp key r a (by simpa using h1) (fun c f=>by simpa[List.getD] using h2 (c+1) (by omega)) (fun e=>by simpa[List.getD] using h3 (by simpa using e))]
def Bt (ks:List ByteArray) (key:ByteArray) (i j:Nat):Prop:=i<=ks.length∧(∀ k,k<i->aH (ks.getD k .empty) key=true)∧(i<ks.length->¬ aH (ks.getD i .empty) key=true)∧((i<ks.length∧ks.getD i .empty=key∧j=i+1)∨(¬ (i<ks.length∧ks.getD i .empty=key)∧j=i))
def bF (key val:ByteArray):T:=⟨true,0,[key],[val],[0],[]⟩
theorem zi (a:t.vals.length=t.keys.length) (b:t.over.length=t.keys.length) {k:Nat} (c:k<t.keys.length):((t.keys.zip (t.vals.zip t.over)).getD k (ByteArray.empty,ByteArray.empty,0)).1=t.keys.getD k .empty:=by
 simp[List.getD,mz (n:=t.keys.length) rfl a b c]
theorem xh {key val:ByteArray} {i j:Nat} (f:t.leaf=true) (k:ml t) (l:Bt t.keys key i j):ag (ag (t.fore i) (bF key val)) (t.rest j)=aW key val t:=by
 obtain⟨m,d,e⟩:=k.1 f;obtain⟨w,n,o,p4⟩:=l;have g:(t.keys.zip (t.vals.zip t.over)).length=t.keys.length:=by simp;omega
 have b:bm key (t.keys.zip (t.vals.zip t.over))=i:=yp key _ i (by omega) (fun p q=>by rw[zi d e (by omega)];exact n p q) (fun x=>by rw[zi d e (by omega)];exact o (by omega));have r:(if bO key (t.keys.zip (t.vals.zip t.over))=true then bm key (t.keys.zip (t.vals.zip t.over))+1 else bm key (t.keys.zip (t.vals.zip t.over)))=j:=by
  rcases p4 with ⟨q1,q2,q3⟩ | ⟨q1,q2⟩;·have:bO key (t.keys.zip (t.vals.zip t.over))=true:=(by unfold bO;rw[b,g];exact decide_eq_true ⟨q1,by rw[zi d e q1];exact q2⟩);rw[if_pos this,b,q3]
  ·have:¬ bO key (t.keys.zip (t.vals.zip t.over))=true:=(by unfold bO;rw[b,g];intro c;have c:=of_decide_eq_true c;exact q1 ⟨c.1,by rw[<-zi d e c.1];exact c.2⟩);rw[if_neg this,b,q2]
 rw[ed f];unfold ej;rw[r,b];have s:(t.keys.zip (t.vals.zip t.over)).map (fun a=>a.1)=t.keys:=List.map_fst_zip (by simp;omega);have h:(t.keys.zip (t.vals.zip t.over)).map (fun a=>a.2)=t.vals.zip t.over:=List.map_snd_zip (by simp;omega);have u:(t.keys.zip (t.vals.zip t.over)).map (fun a=>a.2.1)=t.vals:=by have:(t.keys.zip (t.vals.zip t.over)).map (fun a=>a.2.1)=((t.keys.zip (t.vals.zip t.over)).map (fun a=>a.2)).map (fun a=>a.1):=(by simp);rw[this,h];exact List.map_fst_zip (by omega)
 have v:(t.keys.zip (t.vals.zip t.over)).map (fun a=>a.2.2)=t.over:=by have:(t.keys.zip (t.vals.zip t.over)).map (fun a=>a.2.2)=((t.keys.zip (t.vals.zip t.over)).map (fun a=>a.2)).map (fun a=>a.2):=(by simp);rw[this,h];exact List.map_snd_zip (by omega)
 unfold cw ag;simp only[T.fore,T.rest,bF,E5,Ex,List.map_take,List.map_drop,s,u,v,f,m,List.take_nil,List.drop_nil,EN,EA,List.singleton_append]
theorem SN.shape (h:SN w Q t v):∃ a b c d e f g on i j k,v=.agg (Zs t.leaf t.page a b c d e f g on i j t.kids.length k):=by
 obtain⟨a,b,c,d,e,f,g,on,i,j,k,m,l,_⟩:=h;exact⟨a,b,c,d,e,f,g,on,i,j,k,l⟩
theorem bH (w:World) (a b:Obj):((w.alloc a).alloc b).heap[w.heap.size]?=some a∧((w.alloc a).alloc b).heap[w.heap.size+1]?=some b∧((w.alloc a).alloc b).heap.size=w.heap.size+2∧Below w.heap.size w ((w.alloc a).alloc b):=by
 have d:=Zb (w.alloc a) b;have e:(w.alloc a).heap.size=w.heap.size+1:=by simp
 have c:=Ej (w.alloc a) b;rw[e] at c;exact⟨(d.block _ (by omega)).trans (Ej w a),c,by simp,(Zb _ _).alloc (by simp) _⟩
theorem tM (w:World) (a b c d:Obj):((((w.alloc a).alloc b).alloc c).alloc d).heap[w.heap.size]?=some a∧((((w.alloc a).alloc b).alloc c).alloc d).heap[w.heap.size+1]?=some b∧((((w.alloc a).alloc b).alloc c).alloc d).heap[w.heap.size+1+1]?=some c∧((((w.alloc a).alloc b).alloc c).alloc d).heap[w.heap.size+1+1+1]?=some d∧((((w.alloc a).alloc b).alloc c).alloc d).heap.size=w.heap.size+4∧Below w.heap.size w ((((w.alloc a).alloc b).alloc c).alloc d):=by
 obtain⟨i,j,k,l⟩:=bH w a b;obtain⟨f,g,h,e⟩:=bH ((w.alloc a).alloc b) c d;rw[k] at f g h;exact⟨(e.block _ (by omega)).trans i,(e.block _ (by omega)).trans j,f,g,h,l.trans (e.mono (by omega))⟩
theorem pY {a:Type} {B ty:Nat} {cs:a->List Value} {fit:a->Prop} {d x:a} {c:Value} (h:w.heap[B]?=some (.cells #[c] ty)) (e:cs x=[c]) (f:fit x):aR w 0 w.heap.size 1 cs fit d (some ⟨B,0,none⟩) 1 1 [x]:=by
 refine⟨rfl,Ek _,by unfold maxLen;omega,fun b g=>?_,fun _=>⟨B,0,rfl,⟨En _,(Za h)⟩,fun b g i l=>?_⟩⟩;·have:b=0:=(by omega);subst this;exact f
 ·have j:b=0:=(by omega);have k:i=0:=(by omega);subst j k;show w.cell? ⟨B,0,none⟩=(cs x)[0]?;rw[e];simp[World.cell?,h]
theorem xi {key val:ByteArray} {M:Nat} (c:key.size<=maxLen) (d:val.size<=maxLen) (e:w.heap[M]?=some (.cells #[.string key] 9)) (f:w.heap[M+1]?=some (.cells #[.string val] 9)) (g:w.heap[M+1+1]?=some (.cells #[.int .i64 0] 2)):SN w (fun h=>M<=h) (bF key val) (.agg (Zs true 0 (some ⟨M,0,none⟩) 1 1 (some ⟨M+1,0,none⟩) 1 1 (some ⟨M+1+1,0,none⟩) 1 1 none 0 0)) :=
 ⟨_,_,_,_,_,_,_,_,_,none,0,fun _=>[],rfl,⟨⟨(show ga 0 from ⟨by decide,by decide⟩),pY e rfl c,pY f rfl d,pY g rfl (show ga 0 from ⟨by decide,by decide⟩),⟨Ek _,by unfold maxLen;omega⟩,fun a=>absurd a (by simp[bF]),fun i j b=>by simp[bF] at b⟩,fun _=>⟨_,_,rfl,Ek _⟩,fun _=>⟨_,_,rfl,by omega⟩,fun _=>⟨_,_,rfl,by omega⟩,fun a=>absurd a (by simp[bF]),fun i j b=>by simp[bF] at b⟩⟩
theorem kH (h:ml t) (a:t.leaf=true) (c:t.size<=900) (k:Nat):(t.fore k).keys.length<=1000∧(t.fore k).vals.length<=1000∧(t.fore k).over.length<=1000∧(t.fore k).kids.length<=1000:=by
 have:=bZ a;obtain⟨b,d,e⟩:=h.1 a;simp[T.fore,b];omega
theorem kI (h:ml t) (a:t.leaf=true) (c:t.size<=900) (k:Nat):(t.rest k).keys.length<=1000∧(t.rest k).vals.length<=1000∧(t.rest k).over.length<=1000∧(t.rest k).kids.length<=1000:=by
 have:=bZ a;obtain⟨b,d,e⟩:=h.1 a;simp[T.rest,b];omega
theorem nP (h:ml t) (a:t.leaf=true) (c:t.size<=900) (k:Nat) (key val:ByteArray):(ag (t.fore k) (bF key val)).keys.length<=1000∧(ag (t.fore k) (bF key val)).vals.length<=1000∧(ag (t.fore k) (bF key val)).over.length<=1000∧(ag (t.fore k) (bF key val)).kids.length<=1000:=by
 have:=bZ a;obtain⟨b,d,e⟩:=h.1 a;simp[T.fore,ag,bF,b];omega
theorem yq {w':World} {R:Nat} (h:SN w Q t v) (a:Fr (fun g=>g=R) w w') (b:¬ Q R):SN w' Q t v:=h.keep (fun c d e=>a.block c e (fun f=>b (f ▸ d))) (fun _ h=>h) a.size
set_option maxHeartbeats 8000000 in
theorem zj (bq:∀ aA,Q aA->aA<w.heap.size) (h:SN w Q t v) (al:t.leaf=true) (br:ml t) (bs:t.size<=900) (key val:ByteArray) (bt:key.size<=maxLen) (bu:val.size<=maxLen):Calls prog 72 #[v,.string key,.string val] w fun D E=>∃ bv,D=.returned bv∧SN E (fun b=>Q b∨w.heap.size<=b) (aW key val t) bv∧Below w.heap.size w E:=by
 have aB:=hidI h;have cv:=hidI bq;obtain⟨V,g,W,X,Y,Z,aa,on,ab,ac,ad,c4,rfl,bw⟩:=h;have p:=bw.nx;clear bw bq;have e:Hid (t.leaf=true∧ml t∧t.size<=900):=⟨al,br,bs⟩;have bx:Hid (key.size<=maxLen∧val.size<=maxLen):=⟨bt,bu⟩;obtain⟨ae,bz⟩:=Zn t.kids.length;obtain⟨af,bA⟩:=Zn t.page;rw[al,bz,bA] at aB ⊢;obtain⟨d,q⟩:=Zn w.heap.size;obtain⟨r,F⟩:∃ r,r=((w.alloc (.cells (Zs true af V g W X Y Z aa on ab ac ae ad) 57)).alloc (.cells (Z0 false 0) 57)):=⟨_,rfl⟩;have aC:Below d w r:=by rw[F,<-q];exact (Zb _ _).alloc (by simp) _
 have c5:r.heap.size=d+2:=by rw[F];simp[q]
 have aD:r.heap[d]?=some (.cells (Zs true af V g W X Y Z aa on ab ac ae ad) 57):=by rw[F,<-q];exact ((Zb (w.alloc (.cells (Zs true af V g W X Y Z aa on ab ac ae ad) 57)) _).block _ (by simp)).trans (Ej w _)
 have bB:r.heap[d+1]?=some (.cells (Z0 false 0) 57):=by have:=Ej (w.alloc (.cells (Zs true af V g W X Y Z aa on ab ac ae ad) 57)) (.cells (Z0 false 0) 57);rw[show (w.alloc (.cells (Zs true af V g W X Y Z aa on ab ac ae ad) 57)).heap.size=d+1 by simp[q],<-F] at this;exact this
 have f:=(q ▸ p.keys).below aC;have c6:g<=1000:=by have:=p.keys.1;have:=bZ al;omega
 have s:=hidI p.keys.1;have c7:=f.2.1;have cw:=f.2.2.1;unfold maxLen at cw;clear p al br bs bz bA bt bu;go_enter func72,ntmps72;go_upto_region 1 with fail
 rw[<-F];clear F;have c8:d<r.heap.size:=by omega
 obtain⟨aE,aF,aG,aI,p4,aJ⟩:=aq aD;go_wp2_with fail
 go_loopw [7] (fun aK wr=>∃ a:Nat,a<=g∧aK=.int .i64 a∧Hid (∀ m,m<a->aH (t.keys.getD m .empty) key=true)∧wr=r) (fun aK _=>g - (intOf aK).toNat)
 case atStart=>exact⟨0,En _,rfl,fun m cx=>by omega,rfl⟩
 case round =>
  obtain⟨a,bC,rfl,u,rfl⟩:=hrel;by_cases cy:a<g;rotate_left
  focus
   have n:Hid (Bt t.keys key a a):=⟨by have:=s.out;omega,u.out,fun h=>absurd h (by have:=s.out;omega),.inr ⟨fun aL=>absurd aL.1 (by have:=s.out;omega),rfl⟩⟩;clear u f;go_upto_region 7 with fail
   obtain⟨jj,n,aM,bD⟩:∃ jj:Nat,Hid (Bt t.keys key a jj)∧Hid ((jj:Int)=(a:Int))∧jj<=g:=⟨a,n,rfl,bC⟩
  rotate_left;obtain⟨aA,c9,rfl,_,_,j⟩:=aP.at f cy;cases o:aH (t.keys.getD a .empty) key;rotate_left
  ·have cz:Hid (∀ m,m<a+1->aH (t.keys.getD m .empty) key=true):=fun m cx=>by
    by_cases cA:m=a;·rw[cA];exact o
    ·exact u.out m (by omega)
   unfold aH at o;generalize t.keys.getD a .empty=cB at j o;clear u f;go_wp2_with fail
   go_roundw
   case rel=>exact⟨a+1,by omega,by go_num,cz,trivial⟩
   case measure=>simp[intOf];omega
  rotate_left;by_cases z:t.keys.getD a .empty=key
  focus
   have n:Hid (Bt t.keys key a (a+1)):=⟨by have:=s.out;omega,u.out,fun _=>by rw[o];simp,.inl ⟨by have:=s.out;omega,z,rfl⟩⟩;unfold aH at o;rw[z] at j o;have bE:(key.toList == key.toList)=true:=(by simp);clear z u f;have cC:a+1<=g:=(by omega);go_upto_region 7 with fail
   obtain⟨jj,n,aM,bD⟩:∃ jj:Nat,Hid (Bt t.keys key a jj)∧Hid ((jj:Int)=(a:Int)+1)∧jj<=g:=⟨a+1,n,rfl,cC⟩
  rotate_left
  focus
   have n:Hid (Bt t.keys key a a):=⟨by have:=s.out;omega,u.out,fun _=>by rw[o];simp,.inr ⟨fun aL=>z aL.2,rfl⟩⟩;have bE:=mw z;unfold aH at o;generalize t.keys.getD a .empty=cB at j o bE z;clear z u f;go_upto_region 7 with fail
   obtain⟨jj,n,aM,bD⟩:∃ jj:Nat,Hid (Bt t.keys key a jj)∧Hid ((jj:Int)=(a:Int))∧jj<=g:=⟨a,n,rfl,bC⟩
  all_goals
   have G:=cJ ((aB.out).below (q ▸ aC)) e.out.2.1 a (by have:=bZ e.out.1;have:=s.out;omega) (by have:=e.out.2.2;omega);go_upto_region 8 with (go_at_call 68;refine G.mono ?_;rintro D am ⟨cE,cF,rfl,H,I,x⟩;obtain⟨aN,aO,aQ,aR,aS,aT,aU,aX,aY,aZ,a0,rfl⟩:=H.shape;obtain⟨bG,bI,bJ,bK,bL,bM,bN,bO,bP,bQ,bR,rfl⟩:=I.shape)
   have bS:=bH am (.cells (Zs (t.fore a).leaf (t.fore a).page aN aO aQ aR aS aT aU aX aY aZ (t.fore a).kids.length a0) 57) (.cells (Zs (t.rest a).leaf (t.rest a).page bG bI bJ bK bL bM bN bO bP bQ (t.rest a).kids.length bR) 57);generalize (am.alloc (.cells (Zs (t.fore a).leaf (t.fore a).page aN aO aQ aR aS aT aU aX aY aZ (t.fore a).kids.length a0) 57)).alloc (.cells (Zs (t.rest a).leaf (t.rest a).page bG bI bJ bK bL bM bN bO bP bQ (t.rest a).kids.length bR) 57)=bT at bS ⊢;obtain⟨a1,cG,cH,ah⟩:=bS;have bU:SN bT (fun b=>Q b∨d+2<=b) _ _:=(H.below ah).mono (fun b k=>k.imp id (fun h=>by omega));have cK:=x.size;obtain⟨A,bV⟩:=Zn am.heap.size;rw[bV] at a1 cH cK ⊢;have a2:=aC.trans ((x.trans (ah.mono x.size)).mono (by omega));have bW:=((x.trans (ah.mono x.size)).block d (by omega)).trans aD;have bX:=((x.trans (ah.mono x.size)).block (d+1) (by omega)).trans bB;clear cG G H I x ah bV aE aF aG aI p4 aJ aD bB;clear am;have G:=cJ ((aB.out).below (q ▸ a2)) e.out.2.1 jj (by have:=bZ e.out.1;have:=s.out;omega) (by have:=e.out.2.2;omega);rw[aM.out] at G;obtain⟨aE,aF,aG,aI,p4,aJ⟩:=aq bW;have c':d<bT.heap.size:=(by omega);go_upto_region 9 with (go_at_call 68;refine G.mono ?_;rintro D an ⟨cE,cF,rfl,H,I,ao⟩;obtain⟨bY,b0,b1,b2,b3,b4,b5,b6,b7,b8,b9,rfl⟩:=H.shape;obtain⟨a3,a4,a5,a6,a7,a8,a9,a',ba,bb,bc,rfl⟩:=I.shape)
   have b':=bH an (.cells (Zs (t.fore jj).leaf (t.fore jj).page bY b0 b1 b2 b3 b4 b5 b6 b7 b8 (t.fore jj).kids.length b9) 57) (.cells (Zs (t.rest jj).leaf (t.rest jj).page a3 a4 a5 a6 a7 a8 a9 a' ba bb (t.rest jj).kids.length bc) 57);generalize (an.alloc (.cells (Zs (t.fore jj).leaf (t.fore jj).page bY b0 b1 b2 b3 b4 b5 b6 b7 b8 (t.fore jj).kids.length b9) 57)).alloc (.cells (Zs (t.rest jj).leaf (t.rest jj).page a3 a4 a5 a6 a7 a8 a9 a' ba bb (t.rest jj).kids.length bc) 57)=bd at b' ⊢;obtain⟨cL,be,ca,bf⟩:=b';have cb:SN bd (fun b=>Q b∨d+2<=b) _ _:=(I.below bf).mono (fun b k=>k.imp id (fun h=>by omega));have cM:=ao.size;obtain⟨c,cc⟩:=Zn an.heap.size;rw[cc] at be ca cM ⊢;have ai:=ao.trans (bf.mono ao.size);have cd:=a2.trans (ai.mono (by omega));have ce:=bU.below ai;have cf:=(ai.block A (by omega)).trans a1;have cg:=(ai.block (d+1) (by omega)).trans bX;clear cL G H I ao bf cc aE aF aG aI p4 aJ bW bX a1 ai bU a2;clear an;go_upto_region 10 with fail
   have ap:=tM bd (.cells #[.string key] 9) (.cells #[.string val] 9) (.cells #[.int .i64 0] 2) (.cells (Zs true 0 (some ⟨c+2,0,none⟩) 1 1 (some ⟨c+2+1,0,none⟩) 1 1 (some ⟨c+2+1+1,0,none⟩) 1 1 none 0 0) 57);generalize (((bd.alloc (.cells #[.string key] 9)).alloc (.cells #[.string val] 9)).alloc (.cells #[.int .i64 0] 2)).alloc (.cells (Zs true 0 (some ⟨c+2,0,none⟩) 1 1 (some ⟨c+2+1,0,none⟩) 1 1 (some ⟨c+2+1+1,0,none⟩) 1 1 none 0 0) 57)=i at ap ⊢;have B:=ap.2.2.2.2.2;rw[ca] at ap;obtain⟨ch,q1,q2,au,da,_⟩:=ap;have cN:=ce.below B;have cO:=cb.below B;have av:=(B.block A (by omega)).trans cf;have aw:=(B.block (c+1) (by omega)).trans be;have cP:=(B.block (d+1) (by omega)).trans cg;have ci:=cd.trans (B.mono (by omega));have cQ:SN i (fun b=>Q b∨d+2<=b) (bF key val) (.agg (Zs true 0 (some ⟨c+2,0,none⟩) 1 1 (some ⟨c+2+1,0,none⟩) 1 1 (some ⟨c+2+1+1,0,none⟩) 1 1 none 0 0)):=(xi bx.out.1 bx.out.2 ch q1 q2).mono (fun b k=>.inr (by omega));clear ch q1 q2 B ce cb cf be cg cd;have cR:=cI (cN.below (Ev _ _).drew) (cQ.below (Ev _ _).drew) (kH e.out.2.1 e.out.1 e.out.2.2 _) (by simp[bF]);have l:d+1<i.heap.size∧A<i.heap.size∧c+1<i.heap.size∧c+2+1+1+1<i.heap.size:=(by omega);refine Zg (fun E:World=>E.heap[A]?=some (.cells (Zs (t.fore a).leaf (t.fore a).page aN aO aQ aR aS aT aU aX aY aZ (t.fore a).kids.length a0) 57)∧E.heap[c+2+1+1+1]?=some (.cells (Zs true 0 (some ⟨c+2,0,none⟩) 1 1 (some ⟨c+2+1,0,none⟩) 1 1 (some ⟨c+2+1+1,0,none⟩) 1 1 none 0 0) 57)∧E.heap[c+1]?=some (.cells (Zs (t.rest jj).leaf (t.rest jj).page a3 a4 a5 a6 a7 a8 a9 a' ba bb (t.rest jj).kids.length bc) 57)) (⟨av,au,aw⟩) (fun ax=>?_);refine Zy .a0 (fun cj y=>by (try dsimp only at y);obtain⟨ck,cl,cm,cn,co,cp⟩:=aq y.1;go_simp;rfl) ?_;refine Zy .a1 (fun cj y=>by (try dsimp only at y);obtain⟨ck,cl,cm,cn,co,cp⟩:=aq y.2.1;go_simp;rfl) ?_;refine Zy .a3 (fun cj y=>by (try dsimp only at y);obtain⟨ck,cl,cm,cn,co,cp⟩:=aq y.2.2;go_simp;rfl) ?_;try simp only[Zq]
   refine Zr [2] ?_;refine rdA .a2 (fun aj f=>?_) Ei;go_simp;refine (cR).mono ?_;rintro D cS ⟨db,rfl,cq,cT⟩;have J:Below i.heap.size i cS:=(Ev _ _).drew.trans cT;obtain⟨dc,dd,de,df,dg,dh,di,dj,dk,dl,dm,rfl⟩:=cq.shape;go_wp2_with fail
   refine f.out _ _ (⟨(J.block A l.2.1).trans av,(J.block (c+2+1+1+1) l.2.2.2).trans au,(J.block (c+1) l.2.2.1).trans aw⟩) (fun ax=>?_);clear f aj;try simp only[Zq]
   have cU:=J.size;have cV:=cI (cq.mono (fun b k=>k.elim id (fun h=>.inr (by have dn:i.drew.heap.size=i.heap.size:=rfl;omega)))) (cO.below J) (nP e.out.2.1 e.out.1 e.out.2.2 _ key val) (kI e.out.2.1 e.out.1 e.out.2.2 _);refine Zr [4] ?_;refine rdA .a4 (fun aj f=>?_) Ei;go_simp;refine (cV).mono ?_;rintro D ak ⟨dp,rfl,cr,cW⟩;have C:Below i.heap.size i ak:=J.trans (cW.mono cU);obtain⟨j,K,L,M,N,O,P,R,S,T,U,rfl⟩:=cr.shape;go_wp2_with fail
   refine f.out _ _ (⟨(C.block A l.2.1).trans av,(C.block (c+2+1+1+1) l.2.2.2).trans au,(C.block (c+1) l.2.2.1).trans aw⟩) (fun ax=>?_);clear f aj;try simp only[Zq]
   have ay:=(C.block (d+1) l.1).trans cP;have dq:=C.size;obtain⟨bh,p⟩:=Zn (bg ak (d+1) (.bool (ag (ag (t.fore a) (bF key val)) (t.rest jj)).leaf) (.int .i64 (ag (ag (t.fore a) (bF key val)) (t.rest jj)).page) (.slice j K L) (.slice M N O) (.slice P R S) (.slice T (ag (ag (t.fore a) (bF key val)) (t.rest jj)).kids.length U));have cX:=(cD ak (d+1) (.bool (ag (ag (t.fore a) (bF key val)) (t.rest jj)).leaf) (.int .i64 (ag (ag (t.fore a) (bF key val)) (t.rest jj)).page) (.slice j K L) (.slice M N O) (.slice P R S) (.slice T (ag (ag (t.fore a) (bF key val)) (t.rest jj)).kids.length U)).trans p;have az:=bk ak (d+1) (.bool (ag (ag (t.fore a) (bF key val)) (t.rest jj)).leaf) (.int .i64 (ag (ag (t.fore a) (bF key val)) (t.rest jj)).page) (.slice j K L) (.slice M N O) (.slice P R S) (.slice T (ag (ag (t.fore a) (bF key val)) (t.rest jj)).kids.length U);have cs:=aV ay (.bool (ag (ag (t.fore a) (bF key val)) (t.rest jj)).leaf) (.int .i64 (ag (ag (t.fore a) (bF key val)) (t.rest jj)).page) (.slice j K L) (.slice M N O) (.slice P R S) (.slice T (ag (ag (t.fore a) (bF key val)) (t.rest jj)).kids.length U);rw[p] at az cs;clear p;have cY:Hid (SN bh (fun b=>Q b∨w.heap.size<=b) (aW key val t) (.agg (Zs (ag (ag (t.fore a) (bF key val)) (t.rest jj)).leaf (ag (ag (t.fore a) (bF key val)) (t.rest jj)).page j K L M N O P R S T (ag (ag (t.fore a) (bF key val)) (t.rest jj)).kids.length U))):=(by have ct:=xh (val:=val) e.out.1 e.out.2.1 n.out;have cZ:SN ak (fun b=>Q b∨d+2<=b) _ _:=cr.mono (fun b k=>k.elim (fun h=>h) (fun h=>.inr (by omega)));have cu:=(yq cZ az (fun h=>h.elim (fun h=>by have:=cv.out _ h;omega) (fun h=>by omega))).mono (Q':=fun b=>Q b∨w.heap.size<=b) (fun b k=>k.imp id (fun h=>by omega));rw[ct] at cu;rw[ct];exact cu);have c0:Hid (Below w.heap.size w bh):=(by show Below _ _ _;rw[q];exact (ci.trans (C.mono (by omega))).trans (az.below (by have:=ci.size;omega) (fun b D=>by omega)));have bi:∀ b,b<i.heap.size->b≠d+1->bh.heap[b]?=i.heap[b]?:=fun b c1 c2=>(az.block b (by omega) c2).trans (C.block b c1);obtain⟨bj,bl,bm,bn,bo,bp⟩:=aq ay;have c3:=ar ay;have dr:=Za ay;refine Zr [5] ?_;refine rdA .a5 (fun aj f=>?_) Ei;go_simp;clear bj bl bm bn bo bp c3;try rw[cX]
   refine f.out _ _ (⟨(bi A l.2.1 (by omega)).trans av,(bi (c+2+1+1+1) l.2.2.2 (by omega)).trans au,(bi (c+1) l.2.2.1 (by omega)).trans aw⟩) (fun ax=>?_);clear f aj;try simp only[Zq]
   refine Zd ?_;obtain⟨bj,bl,bm,bn,bo,bp⟩:=aq cs;clear ax;go_wp2_with fail
   refine bodyPost_ret (v:=.agg (Zs (ag (ag (t.fore a) (bF key val)) (t.rest jj)).leaf (ag (ag (t.fore a) (bF key val)) (t.rest jj)).page j K L M N O P R S T (ag (ag (t.fore a) (bF key val)) (t.rest jj)).kids.length U)) (by simp[results,results72,go_sem,bj,bl,bm,bn,bo,bp]) rfl ?_;exact⟨_,rfl,cY.out,c0.out⟩
end Go.Proofs.YtggmghkcdfjdoaaGreat
