import Derived.Test.YtggmghkcdfjdoaaGreatHTks
import Derived.Test.YtggmghkcdfjdoaaGreatHTvr
import Derived.Test.YtggmghkcdfjdoaaGreatHTpx
import Derived.Test.YtggmghkcdfjdoaaGreatHTdp
import Derived.Test.YtggmghkcdfjdoaaGreatHTwg
import Derived.Test.YtggmghkcdfjdoaaGreatHTpc
import Derived.Test.YtggmghkcdfjdoaaGreatHTwj
namespace Go.Proofs.YtggmghkcdfjdoaaGreat
open Go.RowKit Tryz
set_option linter.unusedVariables false
set_option linter.unusedSimpArgs false
set_option maxRecDepth 100000
variable {S:T->Prop} {key:ByteArray} {m:Nat} {ns:List Int} {t u x:T} {ts:List TN} {ys:List T}
theorem vM (zs:List (ByteArray × ByteArray × Int)):zs.map (fun a=>a.1)=(zs.map gD).map (fun b=>b.1):=by
 rw[List.map_map];rfl
theorem vN (zs:List (ByteArray × ByteArray × Int)):zs.all (fun a=>cy a.1)=(zs.map (fun a=>a.1)).all cy:=by
 rw[List.all_map];rfl
theorem fO.place (h:fO ts u) {s:dl} (c:s.used.length=1000) (i:∀ x ∈ u.nums,Us s x) (d:(ai u s).2.bad=false) :
  fO ((ai u s).1.flat 0) (ai u s).1∧(ai u s).1.slots.map gD=u.slots.map gD∧((ai u s).1.flat 0).length=ts.length:=by
 obtain⟨_,_,a,r,j,k,l,m⟩:=bE h.top;have e:=yX u ⟨true,a⟩ s;have f:(ai u s).1.slots.map (fun s=>s.1)=u.slots.map (fun s=>s.1):=by rw[vM,e,<-vM]
 have b:=pN u h.neat s;have g:=vy a c h.nums i d;obtain⟨n,o⟩:=oQ (wW u true a s c d) b (by rw[Av];exact j) (by rw[ox];exact k) (by rw[vN,f,<-vN];exact m) (by rw[f];exact iY _ l) g;refine⟨mn n o b g,e,?_⟩;rw[dq _ b.shape,ox];obtain⟨_,t,p,_,_,_,q,_⟩:=h.ok;have ht:=dQ h.ok;rw[h.top,p] at ht;simp only[Option.some.injEq] at ht;rw[ht,q]
theorem xo {val:ByteArray} (d:t.good true=true) (e:bv t):(bu key val t).nums.Sublist t.nums:=by
 have b:=vh key val t true d e;have c:=ge key val t;unfold bu;split;·exact b
 ·rw[T.nums_eq];simp only[if_true,List.filter_nil,ED];rw[pF (nF key val t) (fun a=>(c.1 a).2.2) (fun a=>(c.2 a).2.2)];exact b
structure dB (ts:List TN) (u:T) (m:Nat) (ns:List Int):Prop where
 st:fO ts u
 le:u.slots.length<=m
 sub:∀ x ∈ u.nums,x ∈ ns
 short:∀ x ∈ ts,p8 x
 few:ts.length<=m+1
theorem Bx (a:u.good true=true):∀ x ∈ u.flat 0,be x:=fun x b=>by
 obtain⟨c,d,e,f⟩:=ij u ⟨true,a⟩ 0 x b
 exact⟨by omega,by omega,by omega,by omega⟩
theorem vP (h:fO (u.flat 0) u):(u.flat 0).length<=u.slots.length+1:=by
 obtain⟨_,_,a,b,_⟩:=bE h.top;rw[dq u b];exact fX a h.neat
theorem fj {x:TN} (h:p8 x):be x:=by
 obtain⟨a,b,c,d⟩:=h;exact⟨by omega,by omega,by omega,by omega⟩
theorem dB.lens (h:dB ts u m ns):∀ x ∈ ts,be x:=fun x a=>fj (h.short x a)
theorem dB.more {a:Nat} (h:dB ts u m ns) (b:m<=a):dB ts u a ns:=⟨h.st,Eo h.le b,h.sub,h.short,Eo h.few (by omega)⟩
theorem dB.put (h:dB ts u m ns) {key val:ByteArray} (b:cy key=true) (c:val.size<=400) (d:m<=400):∃ e,dB (dx ts key val).2 e (m+1) ns:=by
 obtain⟨f,a,g⟩:=h.st.put b c (Eo h.le d);obtain⟨_,_,i,_⟩:=bE h.st.top;obtain⟨_,_,j,_⟩:=bE a.top;rw[f];have k:(bu key val u).slots.length<=m+1:=by rw[g,pt];have:=h.le;split<;>omega
 exact⟨_,a,k,fun x l=>h.sub x ((xo i h.st.neat).subset l),ij _ ⟨true,j⟩ 0,Eo (vP a) (by omega)⟩
theorem dB.del (h:dB ts u m ns) {key:ByteArray} (l:m<=400):∃ d,dB (gG ts key).2 d (m+1) ns:=by
 by_cases a:jV key u.slots;·obtain⟨e,b,f⟩:=h.st.del a (by have:=h.le;omega);obtain⟨_,_,g,_,i,_,c,_⟩:=bE h.st.top;obtain⟨_,_,j,_⟩:=bE b.top;rw[e];have n:(bq key u).slots.length<=m:=(by rw[f];have:=jS (dO u.slots c a).1;have:=h.le;omega);exact⟨_,b,by omega,fun x k=>h.sub x ((pS g h.st.neat i c a).subset k),ij _ ⟨true,j⟩ 0,Eo (vP b) (by omega)⟩
 ·rw[h.st.keep a];exact⟨u,h.more (by omega)⟩
theorem dB.place (h:dB ts u m []) {s:dl} (b:s.used.length=1000) (f:s.bad=false) (l:Cn s+21*(m+1)<=998):(ai u s).2.bad=false∧∃ ns,dB ((ai u s).1.flat 0) (ai u s).1 m ns:=by
 obtain⟨_,_,c,n,_⟩:=bE h.st.top;have o:=fX c h.st.neat;have p:=h.le;have d:=(wX u ⟨true,c⟩ s b).ok f (by omega);have g:u.nums=[]:=by
  rcases hu:u.nums with _ | ⟨x,q⟩;·rfl
  ·have:=h.sub x (by rw[hu];exact Et ..);simp at this
 obtain⟨e,i,j⟩:=h.st.place b (fun x a=>by rw[g] at a;cases a) d;obtain⟨_,_,k,_⟩:=bE e.top;have r:(ai u s).1.slots.length=u.slots.length:=by have:=congrArg List.length i;simpa using this
 exact⟨d,(ai u s).1.nums,e,by omega,fun x a=>a,ij _ ⟨true,k⟩ 0,by rw[j];exact h.few⟩
theorem xq (h:ml t) (a:t.leaf=true) (k:Nat):ml (t.rest k):=by
 obtain⟨b,c,d⟩:=h.1 a;exact⟨fun _=>⟨by simp[T.rest,b],by simp[T.rest,c],by simp[T.rest,d]⟩,fun e=>by simp[T.rest,a] at e⟩
theorem Cu {i:Nat} (b:t.leaf=true) (d:ml t) (e:bm key (t.keys.zip (t.vals.zip t.over))=i):ag (t.fore i) ((t.rest i).rest 1)=bQ key t:=by
 obtain⟨f,k,l⟩:=d.1 b;rw[i5 b];unfold fI;rw[e];have g:(t.keys.zip (t.vals.zip t.over)).map (fun a=>a.1)=t.keys:=List.map_fst_zip (by simp;omega);have c:(t.keys.zip (t.vals.zip t.over)).map (fun a=>a.2)=t.vals.zip t.over:=List.map_snd_zip (by simp;omega);have h:(t.keys.zip (t.vals.zip t.over)).map (fun a=>a.2.1)=t.vals:=by have:(t.keys.zip (t.vals.zip t.over)).map (fun a=>a.2.1)=((t.keys.zip (t.vals.zip t.over)).map (fun a=>a.2)).map (fun a=>a.1):=(by simp);rw[this,c];exact List.map_fst_zip (by omega)
 have j:(t.keys.zip (t.vals.zip t.over)).map (fun a=>a.2.2)=t.over:=by have:(t.keys.zip (t.vals.zip t.over)).map (fun a=>a.2.2)=((t.keys.zip (t.vals.zip t.over)).map (fun a=>a.2)).map (fun a=>a.2):=(by simp);rw[this,c];exact List.map_snd_zip (by omega)
 unfold cw ag;simp only[T.fore,T.rest,E5,List.map_take,List.map_drop,g,h,j,b,f,List.take_nil,List.drop_nil,EN,List.drop_drop]
set_option maxHeartbeats 8000000 in
theorem qT {w:World} {Q:Nat->Prop} {v:Value} (ay:∀ af,Q af->af<w.heap.size) (h:SN w Q t v) (k:t.leaf=true) (R:ml t) (az:t.size<=900) (key:ByteArray) (E:bm key (t.keys.zip (t.vals.zip t.over))<(t.keys.zip (t.vals.zip t.over)).length∧((t.keys.zip (t.vals.zip t.over)).getD (bm key (t.keys.zip (t.vals.zip t.over))) (ByteArray.empty,ByteArray.empty,0)).1=key):Calls prog 66 #[v,.string key] w fun g aA=>∃ aB,g=.returned aB∧SN aA (fun b=>Q b∨w.heap.size<=b) (bQ key t) aB∧Below w.heap.size w aA:=by
 have aC:=hidI h;have b1:=hidI ay;obtain⟨aD,ah,aE,aF,aG,aH,aI,on,aJ,aK,aL,cz,rfl,aM⟩:=h;have f:=aM.nx;clear aM ay;have c:Hid (t.leaf=true∧ml t∧t.size<=900):=⟨k,R,az⟩;obtain⟨F,S⟩:=Zn (bm key (t.keys.zip (t.vals.zip t.over)));have b2:=hidI S;have aN:(t.keys.zip (t.vals.zip t.over)).length=t.keys.length:=by obtain⟨_,U,V⟩:=R.1 k;simp;omega
 obtain⟨b3,U,V⟩:=R.1 k;rw[S,aN] at E;have b4:Hid (t.keys.getD F .empty=key):=by rw[<-zi U V E.1];exact E.2
 have b5:Hid (∀ l,l<F->t.keys.getD l .empty≠key):=fun l cA g=>by have aO:=mP (key:=key) (t.keys.zip (t.vals.zip t.over)) ((t.keys.zip (t.vals.zip t.over)).getD l (ByteArray.empty,ByteArray.empty,0)) (by rw[S];have b6:l<(t.keys.zip (t.vals.zip t.over)).length:=(by omega);rw[List.getD_eq_getElem?_getD,Eh b6,Ft];exact List.mem_take_iff_getElem.2 ⟨l,by omega,rfl⟩);rw[zi U V (by omega),g] at aO;exact aQ _ aO
 have b7:=E.1;obtain⟨aR,aS⟩:=Zn t.kids.length;obtain⟨aT,aU⟩:=Zn t.page;rw[k,aS,aU] at aC ⊢;obtain⟨d,W⟩:=Zn w.heap.size;obtain⟨X,ai⟩:∃ X,X=((w.alloc (.cells (Zs true aT aD ah aE aF aG aH aI on aJ aK aR aL) 57)).alloc (.cells (Z0 false 0) 57)):=⟨_,rfl⟩;have aW:=bH w (.cells (Zs true aT aD ah aE aF aG aH aI on aJ aK aR aL) 57) (.cells (Z0 false 0) 57);rw[<-ai,W] at aW;obtain⟨aX,aY,cB,aj⟩:=aW;have G:=(W ▸ f.keys).below aj;have cC:ah<=1000:=by have:=f.keys.1;have:=bZ k;omega
 have ak:=hidI f.keys.1;have cE:=G.2.1;have b8:=G.2.2.1;unfold maxLen at b8;rw[ak.out] at b7;clear f k R az aS aU E S aN U V b3;go_enter func66,ntmps66;go_upto_region 1 with fail
 rw[<-ai];clear ai;have cF:d<X.heap.size:=by omega
 obtain⟨H,I,J,K,p4,L⟩:=aq aX;go_wp2_with fail
 go_loopw [5] (fun x wr=>∃ a:Nat,a<=F∧x=.int .i64 a∧wr=X) (fun x _=>F - (intOf x).toNat)
 case atStart=>exact⟨0,En _,rfl,rfl⟩
 case round =>
  obtain⟨a,cG,rfl,rfl⟩:=hrel;obtain⟨af,cH,rfl,_,_,M⟩:=aP.at G (i:=a) (by omega);by_cases b9:a=F
  ·subst b9;rw[b4.out] at M;have al:(key.toList == key.toList)=true:=(by simp);clear G;have N:=cJ ((aC.out).below (W ▸ aj)) c.out.2.1 a (by have:=bZ c.out.1;have:=ak.out;omega) (by have:=c.out.2.2;omega);go_upto_region 6 with (go_at_call 68;refine N.mono ?_;rintro g Y ⟨b',ca,rfl,m,j,n⟩;obtain⟨aZ,a0,a1,a2,a3,a4,a5,a6,a7,a8,a9,rfl⟩:=m.shape;obtain⟨a',ba,bb,bc,bd,be,bf,bh,bi,bj,bl,rfl⟩:=j.shape)
   have bn:=bH Y (.cells (Zs (t.fore a).leaf (t.fore a).page aZ a0 a1 a2 a3 a4 a5 a6 a7 a8 (t.fore a).kids.length a9) 57) (.cells (Zs (t.rest a).leaf (t.rest a).page a' ba bb bc bd be bf bh bi bj (t.rest a).kids.length bl) 57);generalize (Y.alloc (.cells (Zs (t.fore a).leaf (t.fore a).page aZ a0 a1 a2 a3 a4 a5 a6 a7 a8 (t.fore a).kids.length a9) 57)).alloc (.cells (Zs (t.rest a).leaf (t.rest a).page a' ba bb bc bd be bf bh bi bj (t.rest a).kids.length bl) 57)=am at bn ⊢;obtain⟨an,ao,cb,O⟩:=bn;have bo:SN am (fun b=>Q b∨d+2<=b) _ _:=(m.below O).mono (fun b e=>e.imp id (fun h=>by omega));have bp:SN am (fun b=>Q b∨d+2<=b) _ _:=(j.below O).mono (fun b e=>e.imp id (fun h=>by omega));have cc:=n.size;obtain⟨ap,bq⟩:=Zn Y.heap.size;rw[bq] at an ao cb cc ⊢;have br:=aj.trans ((n.trans (O.mono n.size)).mono (by omega));have bs:=((n.trans (O.mono n.size)).block (d+1) (by omega)).trans aY;clear N m j n O bq H I J K p4 L aX aY M al;clear Y;have cd:(t.rest a).size=t.size - a:=(by have o:(t.rest a).leaf=true:=c.out.1;rw[bZ o,bZ c.out.1];simp[T.rest]);have N:=cJ bp (xq c.out.2.1 c.out.1 _) 1 (by have:=bZ c.out.1;have:=ak.out;omega) (by have:=c.out.2.2;omega);clear cd;obtain⟨H,I,J,K,p4,L⟩:=aq ao;have cK:ap+1<am.heap.size:=(by omega);go_upto_region 7 with (go_at_call 68;refine N.mono ?_;rintro g Z ⟨b',ca,rfl,m,j,aa⟩;obtain⟨bt,bu,bv,bw,bx,bz,bA,bB,bC,bD,bE,rfl⟩:=m.shape;obtain⟨bF,bG,bI,bJ,bK,bL,bM,bN,bO,bP,bR,rfl⟩:=j.shape)
   have bS:=bH Z (.cells (Zs ((t.rest a).fore 1).leaf ((t.rest a).fore 1).page bt bu bv bw bx bz bA bB bC bD ((t.rest a).fore 1).kids.length bE) 57) (.cells (Zs ((t.rest a).rest 1).leaf ((t.rest a).rest 1).page bF bG bI bJ bK bL bM bN bO bP ((t.rest a).rest 1).kids.length bR) 57);generalize (Z.alloc (.cells (Zs ((t.rest a).fore 1).leaf ((t.rest a).fore 1).page bt bu bv bw bx bz bA bB bC bD ((t.rest a).fore 1).kids.length bE) 57)).alloc (.cells (Zs ((t.rest a).rest 1).leaf ((t.rest a).rest 1).page bF bG bI bJ bK bL bM bN bO bP ((t.rest a).rest 1).kids.length bR) 57)=ab at bS ⊢;obtain⟨ce,bT,cf,au⟩:=bS;have cg:=aa.size;have ch:SN ab (fun b=>Q b∨d+2<=b) _ _:=(j.below au).mono (fun b e=>e.elim (fun h=>h) (fun h=>.inr (by omega)));obtain⟨ci,bU⟩:=Zn Z.heap.size;rw[bU] at bT cf cg ⊢;have P:=aa.trans (au.mono aa.size);have bV:=br.trans (P.mono (by omega));have cj:=bo.below P;have ck:=(P.block ap (by omega)).trans an;have cl:=(P.block (d+1) (by omega)).trans bs;clear ce N m j aa au bU H I J K p4 L bs an ao P bo bp br;clear Z;have bW:=cI cj ch (kH c.out.2.1 c.out.1 c.out.2.2 _) (by have o:=kI c.out.2.1 c.out.1 c.out.2.2 a;simp only[T.rest,ET] at o ⊢;omega);obtain⟨H,I,J,K,p4,L⟩:=aq ck;obtain⟨M,q1,q2,q3,cm,cn⟩:=aq bT;have co:ap<ab.heap.size∧ci+1<ab.heap.size∧d+1<ab.heap.size:=(by omega);go_wp2_with fail
   refine bW.mono ?_;rintro g ac ⟨cL,rfl,av,ad⟩;obtain⟨p,q,r,s,u,y,z,A,B,C,D,rfl⟩:=av.shape;have cM:=ad.size;have ae:=(ad.block (d+1) co.2.2).trans cl;obtain⟨bX,f⟩:=Zn (bg ac (d+1) (.bool (ag (t.fore a) ((t.rest a).rest 1)).leaf) (.int .i64 (ag (t.fore a) ((t.rest a).rest 1)).page) (.slice p q r) (.slice s u y) (.slice z A B) (.slice C (ag (t.fore a) ((t.rest a).rest 1)).kids.length D));have cp:=(cD ac (d+1) (.bool (ag (t.fore a) ((t.rest a).rest 1)).leaf) (.int .i64 (ag (t.fore a) ((t.rest a).rest 1)).page) (.slice p q r) (.slice s u y) (.slice z A B) (.slice C (ag (t.fore a) ((t.rest a).rest 1)).kids.length D)).trans f;have aw:=bk ac (d+1) (.bool (ag (t.fore a) ((t.rest a).rest 1)).leaf) (.int .i64 (ag (t.fore a) ((t.rest a).rest 1)).page) (.slice p q r) (.slice s u y) (.slice z A B) (.slice C (ag (t.fore a) ((t.rest a).rest 1)).kids.length D);have bY:=aV ae (.bool (ag (t.fore a) ((t.rest a).rest 1)).leaf) (.int .i64 (ag (t.fore a) ((t.rest a).rest 1)).page) (.slice p q r) (.slice s u y) (.slice z A B) (.slice C (ag (t.fore a) ((t.rest a).rest 1)).kids.length D);rw[f] at aw bY;clear f;have cq:Hid (SN bX (fun b=>Q b∨w.heap.size<=b) (bQ key t) (.agg (Zs (ag (t.fore a) ((t.rest a).rest 1)).leaf (ag (t.fore a) ((t.rest a).rest 1)).page p q r s u y z A B C (ag (t.fore a) ((t.rest a).rest 1)).kids.length D))):=(by have b0:=Cu c.out.1 c.out.2.1 b2.out;have cr:SN ac (fun b=>Q b∨d+2<=b) _ _:=av.mono (fun b e=>e.elim (fun h=>h) (fun h=>.inr (by omega)));have o:=(yq cr aw (fun h=>h.elim (fun h=>by have:=b1.out _ h;omega) (fun h=>by omega))).mono (Q':=fun b=>Q b∨w.heap.size<=b) (fun b e=>e.imp id (fun h=>by omega));rw[b0] at o;rw[b0];exact o);have cs:Hid (Below w.heap.size w bX):=(by show Below _ _ _;rw[W];exact (bV.trans (ad.mono (by omega))).trans (aw.below (by have:=bV.size;omega) (fun b g=>by omega)));obtain⟨cN,cO,cP,cQ,cR,cS⟩:=aq ae;have cT:=ar ae;have cU:=Za ae;clear bW av ad H I J K p4 L M q1 q2 q3 cm cn;go_wp2_with fail
   try rw[cp]
   obtain⟨ct,cu,cv,cw,cx,cy⟩:=aq bY;refine bodyPost_ret (v:=.agg (Zs (ag (t.fore a) ((t.rest a).rest 1)).leaf (ag (t.fore a) ((t.rest a).rest 1)).page p q r s u y z A B C (ag (t.fore a) ((t.rest a).rest 1)).kids.length D)) (by simp[results,results66,go_sem,ct,cu,cv,cw,cx,cy]) rfl ?_;exact⟨_,rfl,cq.out,cs.out⟩
  ·have ax:=b5.out a (by omega);have al:=mw ax;generalize t.keys.getD a .empty=cV at M al ax;clear G ax;go_wp2_with fail
   go_roundw
   case rel=>exact⟨a+1,by omega,by go_num,trivial⟩
   case measure=>simp[intOf];omega
def T.all:T->List T
 | ⟨l,p,k,v,o,y⟩=>⟨l,p,k,v,o,y⟩::(y.map T.all).flatten
theorem Ze (t:T):t.all=t::(t.kids.map T.all).flatten:=by cases t;rw[T.all]
theorem bG {k z:T} (a:k ∈ t.kids) (b:z ∈ k.all):z ∈ t.all:=by
 rw[Ze];exact EH _ (List.mem_flatten.2 ⟨_,List.mem_map_of_mem a,b⟩)
def Sh (S:T->Prop) (x:T):Prop:=∀ z ∈ x.all,z.page=0∨S z
theorem Sh.kid {k:T} (h:Sh S x) (a:k ∈ x.kids):Sh S k:=fun b c=>h b (bG a c)
theorem Sh.mk (c:x.page=0) (d:∀ b ∈ x.kids,Sh S b):Sh S x:=by
 intro e a;rw[Ze] at a;rcases EL.1 a with rfl | a;·exact .inl c
 ·obtain⟨h,f,a⟩:=List.mem_flatten.1 a;obtain⟨b,g,rfl⟩:=EY.1 f;exact d b g e a
theorem Sh.fore (h:Sh S x) (k:Nat):Sh S (x.fore k):=.mk rfl (fun b a=>h.kid (EI a))
theorem Sh.rest (h:Sh S x) (k:Nat):Sh S (x.rest k):=.mk rfl (fun b a=>h.kid (EF a))
theorem Sh.glue {y:T} (h:Sh S x) (g:Sh S y):Sh S (ag x y):=.mk rfl (fun b a=>(EG.1 a).elim h.kid g.kid)
theorem Sh.leaf (zs:List (ByteArray × ByteArray × Int)):Sh S (cw zs):=.mk rfl (fun b a=>by cases a)
theorem Sh.none:Sh S br:=.mk rfl (fun b a=>by cases a)
theorem Sh.cut (h:Sh S x):∀ b ∈ cR x,Sh S b:=by
 intro b a;unfold cR at a;split at a;·simp at a;subst a;exact h
 ·simp at a;rcases a with rfl | rfl;·exact h.fore 3
  ·exact h.rest 3
theorem Sh.at (h:∀ a ∈ ys,Sh S a) (i:Nat):Sh S (ys.getD i br):=by
 rw[List.getD];cases b:ys[i]? with
 | none=>exact Sh.none
 | some a=>exact h a (Ew b)
theorem DX (key val:ByteArray) (t:T):(∀ b ∈ t.all,S b)->Sh S (aW key val t):=by
 induction t using T.ind with
 |h t i=>
  intro e;have f:∀ d ∈ t.kids,Sh S d:=fun d j b a=>.inr (e b (bG j a));obtain⟨k,l,d,m,n,c⟩:=t;rw[aW];split;·exact Sh.leaf _
  ·refine .mk rfl (fun b a=>?_);have a:b ∈ c.take (ci key c)++cR ((c.map (aW key val)).getD (ci key c) br)++c.drop (ci key c+1):=a;rcases EG.1 a with a | a
   ·rcases EG.1 a with a | a;·exact f b (EI a)
    ·refine Sh.cut (Sh.at (fun x o=>?_) _) b a;obtain⟨p,g,rfl⟩:=EY.1 o;exact i p g (fun b a=>e b (bG (t:=⟨k,l,d,m,n,c⟩) g a))
   ·exact f b (EF a)
theorem DY (key val:ByteArray) (t:T):(aW key val t).page=0:=by
 cases t;rw[aW];split<;>rfl
theorem DZ (key val:ByteArray) {t:T} (h:∀ z ∈ t.all,S z):Sh S (bu key val t)∧(bu key val t).page=0:=by
 unfold bu;split;·exact⟨DX key val t h,DY key val t⟩
 ·exact⟨.mk rfl (DX key val t h).cut,rfl⟩
theorem DQ (h:∀ k ∈ ys,Sh S k) (i:Nat) {f:T->T->List T} (c:∀ x y,Sh S x->Sh S y->∀ b ∈ f x y,Sh S b):∀ b ∈ eh ys i f,Sh S b:=by
 intro b a;unfold eh at a;rcases EG.1 a with a | a
 ·rcases EG.1 a with a | a;·exact h b (EI a)
  ·exact c _ _ (Sh.at h _) (Sh.at h _) b a
 ·exact h b (EF a)
theorem D7 (h:∀ k ∈ ys,Sh S k) (m:Nat):∀ d ∈ dW ys m,Sh S d:=by
 unfold dW;split
 ·refine DQ h _ (fun x e b c d a=>?_);simp[i4] at a;rcases a with rfl | rfl;·exact b.fore _
  ·exact (b.rest _).glue c
 ·split
  ·refine DQ h _ (fun x e b c d a=>?_);simp[jy] at a;rcases a with rfl | rfl;·exact b.glue (c.fore _)
   ·exact c.rest _
  ·refine DQ h _ (fun x e b c d a=>?_);simp at a;subst a;exact b.glue c
theorem D0 (h:∀ k ∈ ys,Sh S k) {d:T} (c:Sh S d) (m:Nat):∀ a ∈ ys.set m d,Sh S a:=fun a b=>by
 rcases List.mem_or_eq_of_mem_set b with b | rfl
 ·exact h a b
 ·exact c
theorem Ef (key:ByteArray) (t:T):(∀ b ∈ t.all,S b)->Sh S (bQ key t):=by
 induction t using T.ind with
 |h t j=>
  intro e;have f:∀ d ∈ t.kids,Sh S d:=fun d k b a=>.inr (e b (bG k a));obtain⟨l,m,d,n,o,c⟩:=t;rw[bQ];split;·exact Sh.leaf _
  ·refine .mk rfl (fun b a=>?_);have a:b ∈ ia (ci key c) c ((c.map (bQ key)).getD (ci key c) br):=a;have g:Sh S ((c.map (bQ key)).getD (ci key c) br):=Sh.at (fun x p=>by obtain⟨q,i,rfl⟩:=EY.1 p;exact j q i (fun b a=>e b (bG (t:=⟨l,m,d,n,o,c⟩) i a))) _;unfold ia at a;split at a;·exact D7 (D0 f g _) _ b a
   ·exact D0 f g _ b a
theorem lS {i:Nat} {f:T->T->List T} (h:i+2<=ys.length):(eh ys i f).length=ys.length - 2+(f (ys.getD i br) (ys.getD (i+1) br)).length:=by
 unfold eh;simp only[El,Eu,ET];omega
theorem D1 (d:t.leaf=false) (g:2<=t.kids.length) (e:ci key t.kids<t.kids.length) (a:(bQ key t).kids.length=1):((bQ key t).kids.headD br).page=0:=by
 obtain⟨l,n,o,p,q,b⟩:=t;simp only at d g e;subst d;rw[bQ] at a ⊢;simp only[EC,EO] at a ⊢;generalize (b.map (bQ key)).getD (ci key b) br=h at a ⊢;generalize ci key b=m at a e ⊢;unfold ia at a ⊢;split at a
 ·rename_i f;rw[if_pos f];generalize i:b.set m h=ys at a ⊢;have r:ys.length=b.length:=(by rw[<-i];simp);unfold dW at a ⊢;split at a;·rename_i c;rw[lS (by omega)] at a;simp[i4] at a
  ·rename_i j;rw[if_neg j];split at a;·rename_i c;rw[lS (by omega)] at a;simp[jy] at a
   ·rename_i c;rw[if_neg c];rw[lS (by omega)] at a;simp at a;have s:ys.length=2:=(by omega);have k:m - 1=0:=(by omega);unfold eh;rw[k];simp[ag]
 ·rename_i f;rw[EP] at a;omega
theorem D2 (key:ByteArray) (t:T):(bQ key t).page=0:=by
 cases t;rw[bQ];split<;>rfl
theorem D3 (h:∀ z ∈ t.all,S z) (e:t.leaf=false->2<=t.kids.length∧ci key t.kids<t.kids.length):Sh S (bq key t)∧(bq key t).page=0:=by
 have b:=Ef key t h;unfold bq mV;split
 ·rename_i a;have c:t.leaf=false:=by
   obtain⟨f,j,k,l,m,n⟩:=t;cases f;·rfl
   ·rw[bQ] at a;simp[cw] at a
  obtain⟨g,i⟩:=e c;refine⟨?_,D1 c g i a.2⟩;cases d:(bQ key t).kids with
  | nil=>rw[d] at a;simp at a
  | cons x o=>exact b.kid (by rw[d];exact Et ..)
 ·exact⟨b,D2 key t⟩
def T.sees (x:T):Int × List ByteArray × List ByteArray × List Int:=if x.leaf then (x.page,x.keys,x.vals,x.over) else (x.page,x.kids.tail.map T.low,[],[])
def TN.sees (n:TN):Int × List ByteArray × List ByteArray × List Int:=(n.page,n.keys,n.vals,n.over)
theorem dn (t:T):cg t->∀ a,(t.flat a).map TN.sees=t.all.map T.sees:=by
 induction t using T.ind with
 |h t g=>
  intro d a;rw[bj] at d;rw[T.flat_eq,Ze];cases e:t.leaf
  ·simp only[EC,EO,Ex];have f:T.sees t=(t.page,t.kids.tail.map T.low,[],[]):=(by unfold T.sees;simp[e]);rw[f];refine congrArg _ ?_;have go:∀ (ys:List T) (a:Nat),(∀ b ∈ ys,∀ a,(b.flat a).map TN.sees=b.all.map T.sees)->(bJ a (ys.map T.flat)).map TN.sees=((ys.map T.all).flatten).map T.sees:=by
    intro ys
    induction ys with
    | nil=>intro a _;rfl
    |cons b m i=>intro a c;simp only[Ex,bJ,E5,EW];rw[c b (Et ..),i _ (fun j k=>c j (EH _ k))]
   exact go _ _ (fun b c a=>g b c (d.2 b c) a)
  ·have l:=d.1 e;have f:T.sees t=(t.page,t.keys,t.vals,t.over):=(by unfold T.sees;simp[e]);simp[l,f,TN.sees]
theorem DW (t:T):((t.all.map (fun x=>x.page)).filter (fun a=>a != 0)).Sublist t.nums:=by
 induction t using T.ind with
 |h t f=>
  rw[Ze,T.nums_eq];simp only[Ex];have go:∀ (ys:List T),(∀ b ∈ ys,((b.all.map (fun x=>x.page)).filter (fun a=>a != 0)).Sublist b.nums)->((((ys.map T.all).flatten).map (fun x=>x.page)).filter (fun a=>a != 0)).Sublist ((ys.map T.nums).flatten):=by
   intro ys
   induction ys with
   | nil=>intro _;simp
   |cons b l g=>intro d;simp only[Ex,EW,E5,List.filter_append];exact (d b (Et ..)).append (g (fun i j=>d i (EH _ j)))
  have e:=go t.kids f;by_cases c:t.page=0;·simp only[c,List.filter_cons,bne_self_eq_false,EC,EO,if_true,ED];exact e.trans (List.sublist_append_right _ _)
  ·have k:(t.page != 0)=true:=(by simpa using c);simp only[List.filter_cons,k,if_true,c,EO,EA,List.singleton_append];exact (e.trans (List.sublist_append_right _ _)).cons_cons _
theorem D8 {L:List Int} (h:(L.filter (fun p=>p != 0)).Nodup) {i j:Nat} {x:Int} (d:L[i]?=some x) (e:L[j]?=some x) (b:x≠0):i=j:=by
 unfold List.Nodup at h;rw[List.pairwise_filter,List.pairwise_iff_getElem] at h;obtain⟨li,ei⟩:=EQ.1 d;obtain⟨c,ej⟩:=EQ.1 e;rcases Nat.lt_trichotomy i j with a | a | a;·exact absurd (ei.trans ej.symm) (h i j li c a (by rw[ei];simpa using b) (by rw[ej];simpa using b))
 ·exact a
 ·exact absurd (ej.trans ei.symm) (h j i c li a (by rw[ej];simpa using b) (by rw[ei];simpa using b))
def D9 (ps rs:List TN):Prop:=∀ n ∈ rs,n.page≠0->∃ k,k<ps.length∧(∀ j,j<k->(ps.getD j dT).page≠n.page)∧(ps.getD k dT).sees=n.sees
theorem DV {v:T} (f:cg u) (q:cg v) (r:u.nums.Nodup) (h:Sh (fun z=>z ∈ u.all) v):D9 (u.flat 0) (v.flat 0):=by
 intro b s g;have k:b.sees ∈ (v.flat 0).map TN.sees:=List.mem_map_of_mem s;rw[dn v q] at k;obtain⟨x,t,l⟩:=EY.1 k;have w:x.page=b.page:=by have:=congrArg (fun a=>a.1) l;simp only[T.sees,TN.sees] at this;split at this<;>exact this
 have y:x ∈ u.all:=(h x t).resolve_left (by rw[w];exact g);have A:b.sees ∈ (u.flat 0).map TN.sees:=by rw[dn u f,<-l];exact List.mem_map_of_mem y
 obtain⟨d,n⟩:=List.mem_iff_getElem?.1 A;rw[List.getElem?_map] at n;obtain⟨m,e,o⟩:=Option.map_eq_some_iff.1 n;have B:=Zc e;have C:(u.flat 0).getD d dT=m:=by simp[List.getD,e]
 refine⟨d,B,fun c I D=>?_,by rw[C];exact o⟩;have E:(u.flat 0).map (fun a=>a.page)=u.all.map (fun a=>a.page):=by have:=congrArg (List.map (fun a=>a.1)) (dn u f 0);rw[List.map_map,List.map_map] at this;have F:((fun a:Int × List ByteArray × List ByteArray × List Int=>a.1) ∘ TN.sees)=fun a=>a.page:=rfl;have G:((fun a:Int × List ByteArray × List ByteArray × List Int=>a.1) ∘ T.sees)=fun a=>a.page:=(by funext a;show (T.sees a).1=_;unfold T.sees;split<;>rfl);rw[F,G] at this;exact this
 have p:=(DW u).nodup r;rw[<-E] at p;have ej:(u.flat 0)[c]?=some ((u.flat 0).getD c dT):=by have:c<(u.flat 0).length:=(by omega);simp[List.getD,Eh this]
 have H:m.page=b.page:=congrArg (fun a=>a.1) o;have:=D8 p (i:=c) (j:=d) (x:=b.page) (by rw[List.getElem?_map,ej];exact congrArg some D) (by rw[List.getElem?_map,e];exact congrArg some H) g;omega
theorem qb (t:T) (s:Nat):((t.flat s).getD 0 dT).page=t.page∧1<=(t.flat s).length:=by
 rw[T.flat_eq];split<;>simp
theorem m7 (h:fO ts u):u.flat 0=ts:=by
 obtain⟨_,t,b,_,_,_,_,_,c,_⟩:=h.ok;have a:=dQ h.ok;rw[b,h.top] at a;rw[Option.some.inj a];exact c
theorem D4 (h:fO ts u) {key val:ByteArray} (e:val.size<=400) (f:cy key=true):D9 ts ((bu key val u).flat 0)∧(((bu key val u).flat 0).getD 0 dT).page=0∧1<=((bu key val u).flat 0).length:=by
 obtain⟨_,_,g,a,_,_,_,i⟩:=bE h.top;have b:=DZ (S:=fun c=>c ∈ u.all) key val (t:=u) (fun c j=>j);have d:=qb (bu key val u) 0;have k:=(mN (key:=key) (val:=val) e f g a i).2.1;refine⟨?_,by rw[d.1];exact b.2,d.2⟩;have l:=DV a k h.nums b.1
 rwa [m7 h] at l
theorem D5 (h:fO ts u) {key:ByteArray} (f:∃ s ∈ u.slots,s.1=key):D9 ts ((bq key u).flat 0)∧(((bq key u).flat 0).getD 0 dT).page=0∧1<=((bq key u).flat 0).length:=by
 obtain⟨_,_,a,g,i,_,j,k⟩:=bE h.top;have b:=D3 (S:=fun c=>c ∈ u.all) (key:=key) (t:=u) (fun c l=>l) (fun m=>by have d:=(aF a).1.1;simp[T.size,m] at d;exact⟨d,wI _ (by omega)⟩);have e:=qb (bq key u) 0;have n:=(mW a h.neat i j k f).2.1.shape;refine⟨?_,by rw[e.1];exact b.2,e.2⟩;have o:=DV g n h.nums b.1
 rwa [m7 h] at o
end Go.Proofs.YtggmghkcdfjdoaaGreat
