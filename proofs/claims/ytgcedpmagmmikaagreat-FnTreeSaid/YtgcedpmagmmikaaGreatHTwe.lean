import Derived.Test.YtgcedpmagmmikaaGreatHTks
import Derived.Test.YtgcedpmagmmikaaGreatHTwd
namespace Go.Proofs.YtgcedpmagmmikaaGreat
open Go.RowKit Tryz
set_option linter.unusedVariables false
set_option linter.unusedSimpArgs false
set_option maxRecDepth 100000
variable {Q:Nat->Prop} {t:T} {v:Value} {w:World}
theorem yp (key:ByteArray):∀ (b:List (ByteArray × ByteArray × Int)) (a:Nat),a<=b.length->(∀ c,c<a->aH (b.getD c (ByteArray.empty,ByteArray.empty,0)).1 key=true)->(a<b.length->¬ aH (b.getD a (ByteArray.empty,ByteArray.empty,0)).1 key=true)->bm key b=a
 | [],a,h,_,_=>by simp at h;simp[bm,h]
 | s::r,0,_,_,h3=>by
  have:=h3 (by simp)
  simp[List.getD] at this
  simp[bm,this]
 | s::r,a+1,h1,h2,h3=>by
  have d:=h2 0 (by omega)
  simp[List.getD] at d
  rw[bm,if_pos d,yp key r a (by simpa using h1) (fun c f=>by simpa[List.getD] using h2 (c+1) (by omega)) (fun e=>by simpa[List.getD] using h3 (by simpa using e))]
def Bt (ks:List ByteArray) (key:ByteArray) (i j:Nat):Prop:=i<=ks.length∧(∀ k,k<i->aH (ks.getD k .empty) key=true)∧(i<ks.length->¬ aH (ks.getD i .empty) key=true)∧((i<ks.length∧ks.getD i .empty=key∧j=i+1)∨(¬ (i<ks.length∧ks.getD i .empty=key)∧j=i))
def bF (key val:ByteArray):T:=⟨true,0,[key],[val],[0],[]⟩
theorem zi (a:t.vals.length=t.keys.length) (b:t.over.length=t.keys.length) {k:Nat} (c:k<t.keys.length):((t.keys.zip (t.vals.zip t.over)).getD k (ByteArray.empty,ByteArray.empty,0)).1=t.keys.getD k .empty:=by
 simp[List.getD,mz (n:=t.keys.length) rfl a b c]
theorem xh {key val:ByteArray} {i j:Nat} (f:t.leaf=true) (k:ml t) (l:Bt t.keys key i j):ag (ag (t.fore i) (bF key val)) (t.rest j)=aW key val t:=by
 obtain⟨m,d,e⟩:=k.1 f;obtain⟨w,n,o,p4⟩:=l;have g:(t.keys.zip (t.vals.zip t.over)).length=t.keys.length:=by simp;omega
 have b:bm key (t.keys.zip (t.vals.zip t.over))=i:=yp key _ i (by omega) (fun p q=>by rw[zi d e (by omega)];exact n p q) (fun x=>by rw[zi d e (by omega)];exact o (by omega));have r:(if bO key (t.keys.zip (t.vals.zip t.over))=true then bm key (t.keys.zip (t.vals.zip t.over))+1 else bm key (t.keys.zip (t.vals.zip t.over)))=j:=by
  rcases p4 with ⟨q1,q2,q3⟩ | ⟨q1,q2⟩;·have:bO key (t.keys.zip (t.vals.zip t.over))=true:=(by unfold bO;rw[b,g];exact decide_eq_true ⟨q1,by rw[zi d e q1];exact q2⟩);rw[if_pos this,b,q3]
  ·have:¬ bO key (t.keys.zip (t.vals.zip t.over))=true:=(by unfold bO;rw[b,g];intro c;have c:=of_decide_eq_true c;exact q1 ⟨c.1,by rw[<-zi d e c.1];exact c.2⟩);rw[if_neg this,b,q2]
 rw[ed f];unfold ej;rw[r,b];have s:(t.keys.zip (t.vals.zip t.over)).map (fun a=>a.1)=t.keys:=List.map_fst_zip (by simp;omega);have h:(t.keys.zip (t.vals.zip t.over)).map (fun a=>a.2)=t.vals.zip t.over:=List.map_snd_zip (by simp;omega);have u:(t.keys.zip (t.vals.zip t.over)).map (fun a=>a.2.1)=t.vals:=by have:(t.keys.zip (t.vals.zip t.over)).map (fun a=>a.2.1)=((t.keys.zip (t.vals.zip t.over)).map (fun a=>a.2)).map (fun a=>a.1):=(by simp);rw[this,h];exact List.map_fst_zip (by omega)
 have v:(t.keys.zip (t.vals.zip t.over)).map (fun a=>a.2.2)=t.over:=by have:(t.keys.zip (t.vals.zip t.over)).map (fun a=>a.2.2)=((t.keys.zip (t.vals.zip t.over)).map (fun a=>a.2)).map (fun a=>a.2):=(by simp);rw[this,h];exact List.map_snd_zip (by omega)
 unfold cw ag;simp only[T.fore,T.rest,bF,EA,D8,List.map_take,List.map_drop,s,u,v,f,m,List.take_nil,List.drop_nil,Ej,Eb,List.singleton_append]
theorem SN.shape (h:SN w Q t v):∃ a b c d e f g on i j k,v=.agg (Zs t.leaf t.page a b c d e f g on i j t.kids.length k):=by
 obtain⟨a,b,c,d,e,f,g,on,i,j,k,m,l,_⟩:=h;exact⟨a,b,c,d,e,f,g,on,i,j,k,l⟩
theorem bH (w:World) (a b:Obj):((w.alloc a).alloc b).heap[w.heap.size]?=some a∧((w.alloc a).alloc b).heap[w.heap.size+1]?=some b∧((w.alloc a).alloc b).heap.size=w.heap.size+2∧Below w.heap.size w ((w.alloc a).alloc b):=by
 have d:=Zb (w.alloc a) b;have e:(w.alloc a).heap.size=w.heap.size+1:=by simp
 have c:=DS (w.alloc a) b;rw[e] at c;exact⟨(d.block _ (by omega)).trans (DS w a),c,by simp,(Zb _ _).alloc (by simp) _⟩
theorem tM (w:World) (a b c d:Obj):((((w.alloc a).alloc b).alloc c).alloc d).heap[w.heap.size]?=some a∧((((w.alloc a).alloc b).alloc c).alloc d).heap[w.heap.size+1]?=some b∧((((w.alloc a).alloc b).alloc c).alloc d).heap[w.heap.size+1+1]?=some c∧((((w.alloc a).alloc b).alloc c).alloc d).heap[w.heap.size+1+1+1]?=some d∧((((w.alloc a).alloc b).alloc c).alloc d).heap.size=w.heap.size+4∧Below w.heap.size w ((((w.alloc a).alloc b).alloc c).alloc d):=by
 obtain⟨i,j,k,l⟩:=bH w a b;obtain⟨f,g,h,e⟩:=bH ((w.alloc a).alloc b) c d;rw[k] at f g h;exact⟨(e.block _ (by omega)).trans i,(e.block _ (by omega)).trans j,f,g,h,l.trans (e.mono (by omega))⟩
theorem pY {a:Type} {B ty:Nat} {cs:a->List Value} {fit:a->Prop} {d x:a} {c:Value} (h:w.heap[B]?=some (.cells #[c] ty)) (e:cs x=[c]) (f:fit x):aR w 0 w.heap.size 1 cs fit d (some ⟨B,0,none⟩) 1 1 [x]:=by
 refine⟨rfl,DU _,by unfold maxLen;omega,fun b g=>?_,fun _=>⟨B,0,rfl,⟨D0 _,(Za h)⟩,fun b g i l=>?_⟩⟩;·have:b=0:=(by omega);subst this;exact f
 ·have j:b=0:=(by omega);have k:i=0:=(by omega);subst j k;show w.cell? ⟨B,0,none⟩=(cs x)[0]?;rw[e];simp[World.cell?,h]
theorem xi {key val:ByteArray} {M:Nat} (c:key.size<=maxLen) (d:val.size<=maxLen) (e:w.heap[M]?=some (.cells #[.string key] 9)) (f:w.heap[M+1]?=some (.cells #[.string val] 9)) (g:w.heap[M+1+1]?=some (.cells #[.int .i64 0] 2)):SN w (fun h=>M<=h) (bF key val) (.agg (Zs true 0 (some ⟨M,0,none⟩) 1 1 (some ⟨M+1,0,none⟩) 1 1 (some ⟨M+1+1,0,none⟩) 1 1 none 0 0)) :=
 ⟨_,_,_,_,_,_,_,_,_,none,0,fun _=>[],rfl,⟨⟨(show ga 0 from ⟨by decide,by decide⟩),pY e rfl c,pY f rfl d,pY g rfl (show ga 0 from ⟨by decide,by decide⟩),⟨DU _,by unfold maxLen;omega⟩,fun a=>absurd a (by simp[bF]),fun i j b=>by simp[bF] at b⟩,fun _=>⟨_,_,rfl,DU _⟩,fun _=>⟨_,_,rfl,by omega⟩,fun _=>⟨_,_,rfl,by omega⟩,fun a=>absurd a (by simp[bF]),fun i j b=>by simp[bF] at b⟩⟩
theorem kH (h:ml t) (a:t.leaf=true) (c:t.size<=900) (k:Nat):(t.fore k).keys.length<=1000∧(t.fore k).vals.length<=1000∧(t.fore k).over.length<=1000∧(t.fore k).kids.length<=1000:=by
 have:=bZ a;obtain⟨b,d,e⟩:=h.1 a;simp[T.fore,b];omega
theorem kI (h:ml t) (a:t.leaf=true) (c:t.size<=900) (k:Nat):(t.rest k).keys.length<=1000∧(t.rest k).vals.length<=1000∧(t.rest k).over.length<=1000∧(t.rest k).kids.length<=1000:=by
 have:=bZ a;obtain⟨b,d,e⟩:=h.1 a;simp[T.rest,b];omega
theorem nP (h:ml t) (a:t.leaf=true) (c:t.size<=900) (k:Nat) (key val:ByteArray):(ag (t.fore k) (bF key val)).keys.length<=1000∧(ag (t.fore k) (bF key val)).vals.length<=1000∧(ag (t.fore k) (bF key val)).over.length<=1000∧(ag (t.fore k) (bF key val)).kids.length<=1000:=by
 have:=bZ a;obtain⟨b,d,e⟩:=h.1 a;simp[T.fore,ag,bF,b];omega
theorem yq {w':World} {R:Nat} (h:SN w Q t v) (a:Fr (fun g=>g=R) w w') (b:¬ Q R):SN w' Q t v:=h.keep (fun c d e=>a.block c e (fun f=>b (f ▸ d))) (fun _ h=>h) a.size
set_option maxHeartbeats 8000000 in
theorem zj (bq:∀ aB,Q aB->aB<w.heap.size) (h:SN w Q t v) (al:t.leaf=true) (br:ml t) (bs:t.size<=900) (key val:ByteArray) (bt:key.size<=maxLen) (bu:val.size<=maxLen):Calls prog 77 #[v,.string key,.string val] w fun N O=>∃ bv,N=.returned bv∧SN O (fun b=>Q b∨w.heap.size<=b) (aW key val t) bv∧Below w.heap.size w O:=by
 have aC:=hidI h;have cv:=hidI bq;obtain⟨W,g,X,Y,Z,aa,ab,on,ac,ad,ae,c4,rfl,bw⟩:=h;have p:=bw.nx;clear bw bq;have e:Hid (t.leaf=true∧ml t∧t.size<=900):=⟨al,br,bs⟩;have bx:Hid (key.size<=maxLen∧val.size<=maxLen):=⟨bt,bu⟩;obtain⟨af,bz⟩:=Zn t.kids.length;obtain⟨ah,bA⟩:=Zn t.page;rw[al,bz,bA] at aC ⊢;obtain⟨c,q⟩:=Zn w.heap.size;obtain⟨r,P⟩:∃ r,r=((w.alloc (.cells (Zs true ah W g X Y Z aa ab on ac ad af ae) 55)).alloc (.cells (Z0 false 0) 55)):=⟨_,rfl⟩;have aD:Below c w r:=by rw[P,<-q];exact (Zb _ _).alloc (by simp) _
 have c5:r.heap.size=c+2:=by rw[P];simp[q]
 have aE:r.heap[c]?=some (.cells (Zs true ah W g X Y Z aa ab on ac ad af ae) 55):=by rw[P,<-q];exact ((Zb (w.alloc (.cells (Zs true ah W g X Y Z aa ab on ac ad af ae) 55)) _).block _ (by simp)).trans (DS w _)
 have bB:r.heap[c+1]?=some (.cells (Z0 false 0) 55):=by have:=DS (w.alloc (.cells (Zs true ah W g X Y Z aa ab on ac ad af ae) 55)) (.cells (Z0 false 0) 55);rw[show (w.alloc (.cells (Zs true ah W g X Y Z aa ab on ac ad af ae) 55)).heap.size=c+1 by simp[q],<-P] at this;exact this
 have f:=(q ▸ p.keys).below aD;have c6:g<=1000:=by have:=p.keys.1;have:=bZ al;omega
 have s:=hidI p.keys.1;have c7:=f.2.1;have cw:=f.2.2.1;unfold maxLen at cw;clear p al br bs bz bA bt bu;go_enter func77,ntmps77;go_upto_region 1 with fail
 rw[<-P];clear P;have c8:c<r.heap.size:=by omega
 obtain⟨aF,aG,aI,aJ,p4,aK⟩:=aq aE;go_wp2_with fail
 go_loopw [7] (fun aL wr=>∃ a:Nat,a<=g∧aL=.int .i64 a∧Hid (∀ m,m<a->aH (t.keys.getD m .empty) key=true)∧wr=r) (fun aL _=>g - (intOf aL).toNat)
 case atStart=>exact⟨0,D0 _,rfl,fun m cx=>by omega,rfl⟩
 case round =>
  obtain⟨a,bC,rfl,u,rfl⟩:=hrel;by_cases cy:a<g;rotate_left
  focus
   have n:Hid (Bt t.keys key a a):=⟨by have:=s.out;omega,u.out,fun h=>absurd h (by have:=s.out;omega),.inr ⟨fun aM=>absurd aM.1 (by have:=s.out;omega),rfl⟩⟩;clear u f;go_upto_region 7 with fail
   obtain⟨jj,n,aN,bD⟩:∃ jj:Nat,Hid (Bt t.keys key a jj)∧Hid ((jj:Int)=(a:Int))∧jj<=g:=⟨a,n,rfl,bC⟩
  rotate_left;obtain⟨aB,c9,rfl,_,_,j⟩:=aP.at f cy;cases o:aH (t.keys.getD a .empty) key;rotate_left
  ·have cz:Hid (∀ m,m<a+1->aH (t.keys.getD m .empty) key=true):=fun m cx=>by
    by_cases cA:m=a;·rw[cA];exact o
    ·exact u.out m (by omega)
   unfold aH at o;generalize t.keys.getD a .empty=cB at j o;clear u f;go_wp2_with fail
   go_roundw
   case rel=>exact⟨a+1,by omega,by go_num,cz,trivial⟩
   case measure=>simp[intOf];omega
  rotate_left;by_cases z:t.keys.getD a .empty=key
  focus
   have n:Hid (Bt t.keys key a (a+1)):=⟨by have:=s.out;omega,u.out,fun _=>by rw[o];simp,.inl ⟨by have:=s.out;omega,z,rfl⟩⟩;unfold aH at o;rw[z] at j o;have bE:(key.toList == key.toList)=true:=(by simp);clear z u f;have cC:a+1<=g:=(by omega);go_upto_region 7 with fail
   obtain⟨jj,n,aN,bD⟩:∃ jj:Nat,Hid (Bt t.keys key a jj)∧Hid ((jj:Int)=(a:Int)+1)∧jj<=g:=⟨a+1,n,rfl,cC⟩
  rotate_left
  focus
   have n:Hid (Bt t.keys key a a):=⟨by have:=s.out;omega,u.out,fun _=>by rw[o];simp,.inr ⟨fun aM=>z aM.2,rfl⟩⟩;have bE:=mw z;unfold aH at o;generalize t.keys.getD a .empty=cB at j o bE z;clear z u f;go_upto_region 7 with fail
   obtain⟨jj,n,aN,bD⟩:∃ jj:Nat,Hid (Bt t.keys key a jj)∧Hid ((jj:Int)=(a:Int))∧jj<=g:=⟨a,n,rfl,bC⟩
  all_goals
   have R:=cJ ((aC.out).below (q ▸ aD)) e.out.2.1 a (by have:=bZ e.out.1;have:=s.out;omega) (by have:=e.out.2.2;omega);go_upto_region 8 with (go_at_call 73;refine R.mono ?_;rintro N am ⟨cE,cF,rfl,S,T,x⟩;obtain⟨aO,aQ,aR,aS,aT,aU,aX,aY,aZ,a0,a1,rfl⟩:=S.shape;obtain⟨bG,bI,bJ,bK,bL,bM,bN,bO,bP,bQ,bR,rfl⟩:=T.shape)
   have bS:=bH am (.cells (Zs (t.fore a).leaf (t.fore a).page aO aQ aR aS aT aU aX aY aZ a0 (t.fore a).kids.length a1) 55) (.cells (Zs (t.rest a).leaf (t.rest a).page bG bI bJ bK bL bM bN bO bP bQ (t.rest a).kids.length bR) 55);generalize (am.alloc (.cells (Zs (t.fore a).leaf (t.fore a).page aO aQ aR aS aT aU aX aY aZ a0 (t.fore a).kids.length a1) 55)).alloc (.cells (Zs (t.rest a).leaf (t.rest a).page bG bI bJ bK bL bM bN bO bP bQ (t.rest a).kids.length bR) 55)=bT at bS ⊢;obtain⟨a2,cG,cH,ai⟩:=bS;have bU:SN bT (fun b=>Q b∨c+2<=b) _ _:=(S.below ai).mono (fun b k=>k.imp id (fun h=>by omega));have cK:=x.size;obtain⟨A,bV⟩:=Zn am.heap.size;rw[bV] at a2 cH cK ⊢;have a3:=aD.trans ((x.trans (ai.mono x.size)).mono (by omega));have bW:=((x.trans (ai.mono x.size)).block c (by omega)).trans aE;have bX:=((x.trans (ai.mono x.size)).block (c+1) (by omega)).trans bB;clear cG R S T x ai bV aF aG aI aJ p4 aK aE bB;clear am;have R:=cJ ((aC.out).below (q ▸ a3)) e.out.2.1 jj (by have:=bZ e.out.1;have:=s.out;omega) (by have:=e.out.2.2;omega);rw[aN.out] at R;obtain⟨aF,aG,aI,aJ,p4,aK⟩:=aq bW;have c':c<bT.heap.size:=(by omega);go_upto_region 9 with (go_at_call 73;refine R.mono ?_;rintro N an ⟨cE,cF,rfl,S,T,ao⟩;obtain⟨bY,b0,b1,b2,b3,b4,b5,b6,b7,b8,b9,rfl⟩:=S.shape;obtain⟨a4,a5,a6,a7,a8,a9,a',ba,bb,bc,bd,rfl⟩:=T.shape)
   have b':=bH an (.cells (Zs (t.fore jj).leaf (t.fore jj).page bY b0 b1 b2 b3 b4 b5 b6 b7 b8 (t.fore jj).kids.length b9) 55) (.cells (Zs (t.rest jj).leaf (t.rest jj).page a4 a5 a6 a7 a8 a9 a' ba bb bc (t.rest jj).kids.length bd) 55);generalize (an.alloc (.cells (Zs (t.fore jj).leaf (t.fore jj).page bY b0 b1 b2 b3 b4 b5 b6 b7 b8 (t.fore jj).kids.length b9) 55)).alloc (.cells (Zs (t.rest jj).leaf (t.rest jj).page a4 a5 a6 a7 a8 a9 a' ba bb bc (t.rest jj).kids.length bd) 55)=be at b' ⊢;obtain⟨cL,bf,ca,bh⟩:=b';have cb:SN be (fun b=>Q b∨c+2<=b) _ _:=(T.below bh).mono (fun b k=>k.imp id (fun h=>by omega));have cM:=ao.size;obtain⟨d,cc⟩:=Zn an.heap.size;rw[cc] at bf ca cM ⊢;have aj:=ao.trans (bh.mono ao.size);have cd:=a3.trans (aj.mono (by omega));have ce:=bU.below aj;have cf:=(aj.block A (by omega)).trans a2;have cg:=(aj.block (c+1) (by omega)).trans bX;clear cL R S T ao bh cc aF aG aI aJ p4 aK bW bX a2 aj bU a3;clear an;go_upto_region 10 with fail
   have ap:=tM be (.cells #[.string key] 9) (.cells #[.string val] 9) (.cells #[.int .i64 0] 2) (.cells (Zs true 0 (some ⟨d+2,0,none⟩) 1 1 (some ⟨d+2+1,0,none⟩) 1 1 (some ⟨d+2+1+1,0,none⟩) 1 1 none 0 0) 55);generalize (((be.alloc (.cells #[.string key] 9)).alloc (.cells #[.string val] 9)).alloc (.cells #[.int .i64 0] 2)).alloc (.cells (Zs true 0 (some ⟨d+2,0,none⟩) 1 1 (some ⟨d+2+1,0,none⟩) 1 1 (some ⟨d+2+1+1,0,none⟩) 1 1 none 0 0) 55)=i at ap ⊢;have B:=ap.2.2.2.2.2;rw[ca] at ap;obtain⟨ch,q1,q2,au,da,_⟩:=ap;have cN:=ce.below B;have cO:=cb.below B;have av:=(B.block A (by omega)).trans cf;have aw:=(B.block (d+1) (by omega)).trans bf;have cP:=(B.block (c+1) (by omega)).trans cg;have ci:=cd.trans (B.mono (by omega));have cQ:SN i (fun b=>Q b∨c+2<=b) (bF key val) (.agg (Zs true 0 (some ⟨d+2,0,none⟩) 1 1 (some ⟨d+2+1,0,none⟩) 1 1 (some ⟨d+2+1+1,0,none⟩) 1 1 none 0 0)):=(xi bx.out.1 bx.out.2 ch q1 q2).mono (fun b k=>.inr (by omega));clear ch q1 q2 B ce cb cf bf cg cd;have cR:=cI (cN.below (D2 _ _).drew) (cQ.below (D2 _ _).drew) (kH e.out.2.1 e.out.1 e.out.2.2 _) (by simp[bF]);have l:c+1<i.heap.size∧A<i.heap.size∧d+1<i.heap.size∧d+2+1+1+1<i.heap.size:=(by omega);refine Zg (fun O:World=>O.heap[A]?=some (.cells (Zs (t.fore a).leaf (t.fore a).page aO aQ aR aS aT aU aX aY aZ a0 (t.fore a).kids.length a1) 55)∧O.heap[d+2+1+1+1]?=some (.cells (Zs true 0 (some ⟨d+2,0,none⟩) 1 1 (some ⟨d+2+1,0,none⟩) 1 1 (some ⟨d+2+1+1,0,none⟩) 1 1 none 0 0) 55)∧O.heap[d+1]?=some (.cells (Zs (t.rest jj).leaf (t.rest jj).page a4 a5 a6 a7 a8 a9 a' ba bb bc (t.rest jj).kids.length bd) 55)) (⟨av,au,aw⟩) (fun ax=>?_);refine Zy .a0 (fun cj y=>by (try dsimp only at y);obtain⟨ck,cl,cm,cn,co,cp⟩:=aq y.1;go_simp;rfl) ?_;refine Zy .a1 (fun cj y=>by (try dsimp only at y);obtain⟨ck,cl,cm,cn,co,cp⟩:=aq y.2.1;go_simp;rfl) ?_;refine Zy .a3 (fun cj y=>by (try dsimp only at y);obtain⟨ck,cl,cm,cn,co,cp⟩:=aq y.2.2;go_simp;rfl) ?_;try simp only[Zq]
   refine Zr [2] ?_;refine rdA .a2 (fun ak f=>?_) DR;go_simp;refine (cR).mono ?_;rintro N cS ⟨db,rfl,cq,cT⟩;have U:Below i.heap.size i cS:=(D2 _ _).drew.trans cT;obtain⟨dc,dd,de,df,dg,dh,di,dj,dk,dl,dm,rfl⟩:=cq.shape;go_wp2_with fail
   refine f.out _ _ (⟨(U.block A l.2.1).trans av,(U.block (d+2+1+1+1) l.2.2.2).trans au,(U.block (d+1) l.2.2.1).trans aw⟩) (fun ax=>?_);clear f ak;try simp only[Zq]
   have cU:=U.size;have cV:=cI (cq.mono (fun b k=>k.elim id (fun h=>.inr (by have dn:i.drew.heap.size=i.heap.size:=rfl;omega)))) (cO.below U) (nP e.out.2.1 e.out.1 e.out.2.2 _ key val) (kI e.out.2.1 e.out.1 e.out.2.2 _);refine Zr [4] ?_;refine rdA .a4 (fun ak f=>?_) DR;go_simp;refine (cV).mono ?_;rintro N V ⟨dp,rfl,cr,cW⟩;have C:Below i.heap.size i V:=U.trans (cW.mono cU);obtain⟨j,D,E,F,G,H,I,J,K,L,M,rfl⟩:=cr.shape;go_wp2_with fail
   refine f.out _ _ (⟨(C.block A l.2.1).trans av,(C.block (d+2+1+1+1) l.2.2.2).trans au,(C.block (d+1) l.2.2.1).trans aw⟩) (fun ax=>?_);clear f ak;try simp only[Zq]
   have ay:=(C.block (c+1) l.1).trans cP;have dq:=C.size;obtain⟨az,p⟩:=Zn (bg V (c+1) (.bool (ag (ag (t.fore a) (bF key val)) (t.rest jj)).leaf) (.int .i64 (ag (ag (t.fore a) (bF key val)) (t.rest jj)).page) (.slice j D E) (.slice F G H) (.slice I J K) (.slice L (ag (ag (t.fore a) (bF key val)) (t.rest jj)).kids.length M));have cX:((((((V.setCell ⟨c+1,0,none⟩ (.bool (ag (ag (t.fore a) (bF key val)) (t.rest jj)).leaf)).setCell ⟨c+1,1,none⟩ (.int .i64 (ag (ag (t.fore a) (bF key val)) (t.rest jj)).page)).setCell ⟨c+1,2,none⟩ (.slice j D E)).setCell ⟨c+1,3,none⟩ (.slice F G H)).setCell ⟨c+1,4,none⟩ (.slice I J K)).setCell ⟨c+1,5,none⟩ (.slice L (ag (ag (t.fore a) (bF key val)) (t.rest jj)).kids.length M))=az:=(cD V (c+1) (.bool (ag (ag (t.fore a) (bF key val)) (t.rest jj)).leaf) (.int .i64 (ag (ag (t.fore a) (bF key val)) (t.rest jj)).page) (.slice j D E) (.slice F G H) (.slice I J K) (.slice L (ag (ag (t.fore a) (bF key val)) (t.rest jj)).kids.length M)).trans p;have aA:=bk V (c+1) (.bool (ag (ag (t.fore a) (bF key val)) (t.rest jj)).leaf) (.int .i64 (ag (ag (t.fore a) (bF key val)) (t.rest jj)).page) (.slice j D E) (.slice F G H) (.slice I J K) (.slice L (ag (ag (t.fore a) (bF key val)) (t.rest jj)).kids.length M);have cs:=aV ay (.bool (ag (ag (t.fore a) (bF key val)) (t.rest jj)).leaf) (.int .i64 (ag (ag (t.fore a) (bF key val)) (t.rest jj)).page) (.slice j D E) (.slice F G H) (.slice I J K) (.slice L (ag (ag (t.fore a) (bF key val)) (t.rest jj)).kids.length M);rw[p] at aA cs;clear p;have cY:Hid (SN az (fun b=>Q b∨w.heap.size<=b) (aW key val t) (.agg (Zs (ag (ag (t.fore a) (bF key val)) (t.rest jj)).leaf (ag (ag (t.fore a) (bF key val)) (t.rest jj)).page j D E F G H I J K L (ag (ag (t.fore a) (bF key val)) (t.rest jj)).kids.length M))):=(by have ct:=xh (val:=val) e.out.1 e.out.2.1 n.out;have cZ:SN V (fun b=>Q b∨c+2<=b) _ _:=cr.mono (fun b k=>k.elim (fun h=>h) (fun h=>.inr (by omega)));have cu:=(yq cZ aA (fun h=>h.elim (fun h=>by have:=cv.out _ h;omega) (fun h=>by omega))).mono (Q':=fun b=>Q b∨w.heap.size<=b) (fun b k=>k.imp id (fun h=>by omega));rw[ct] at cu;rw[ct];exact cu);have c0:Hid (Below w.heap.size w az):=(by show Below _ _ _;rw[q];exact (ci.trans (C.mono (by omega))).trans (aA.below (by have:=ci.size;omega) (fun b N=>by omega)));have bi:∀ b,b<i.heap.size->b≠c+1->az.heap[b]?=i.heap[b]?:=fun b c1 c2=>(aA.block b (by omega) c2).trans (C.block b c1);obtain⟨bj,bl,bm,bn,bo,bp⟩:=aq ay;have c3:=ar ay;have dr:=Za ay;refine Zr [5] ?_;refine rdA .a5 (fun ak f=>?_) DR;go_simp;clear bj bl bm bn bo bp c3;try rw[cX]
   refine f.out _ _ (⟨(bi A l.2.1 (by omega)).trans av,(bi (d+2+1+1+1) l.2.2.2 (by omega)).trans au,(bi (d+1) l.2.2.1 (by omega)).trans aw⟩) (fun ax=>?_);clear f ak;try simp only[Zq]
   refine Zd ?_;obtain⟨bj,bl,bm,bn,bo,bp⟩:=aq cs;clear ax;go_wp2_with fail
   refine bodyPost_ret (v:=.agg (Zs (ag (ag (t.fore a) (bF key val)) (t.rest jj)).leaf (ag (ag (t.fore a) (bF key val)) (t.rest jj)).page j D E F G H I J K L (ag (ag (t.fore a) (bF key val)) (t.rest jj)).kids.length M)) (by simp[results,results77,go_sem,bj,bl,bm,bn,bo,bp]) rfl ?_;exact⟨_,rfl,cY.out,c0.out⟩
end Go.Proofs.YtgcedpmagmmikaaGreat
