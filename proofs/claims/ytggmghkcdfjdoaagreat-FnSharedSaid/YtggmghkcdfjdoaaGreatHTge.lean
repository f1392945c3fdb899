import Derived.Test.YtggmghkcdfjdoaaGreatHTks
import Derived.Test.YtggmghkcdfjdoaaGreatHTgb
import Derived.Test.YtggmghkcdfjdoaaGreatHTgd
import Derived.WalkSpells
namespace Go.Proofs.YtggmghkcdfjdoaaGreat
open Go.RowKit Tryz
set_option linter.unusedVariables false
set_option linter.unusedSimpArgs false
set_option maxRecDepth 100000
variable {G K N c n nx rc:Nat} {a ra:Option Addr} {acc:List T} {fb:Array Value} {met:Int->Bool} {p:Int} {ul:List Value} {w wr:World}
theorem np {a b:ByteArray} (h:a.toList=b.toList):a=b:=by
 have c:=ByteArray.toList_eq a;have d:=ByteArray.toList_eq b;rw[c,d] at h;cases a;cases b;simp at h ⊢;exact h
theorem mw {a b:ByteArray} (h:¬ a=b):(a.toList == b.toList)=false:=by
 simpa using fun c=>h (np c)
theorem gf.drew {P:Nat->Prop} {t:T} {u:Value} (h:gf w P t u):gf w.drew P t u:=gf.keep (w:=w) (w':=w.drew) (fun _ _=>rfl) (fun _ h=>h) t u h
theorem nr:(prog.info? 68).map (fun a=>(a.zero,a.size,a.bytes))=some (some .nilIface,1,16):=by kernel_rfl
structure yE (w wr:World) (N G:Nat) (fb:Array Value) (p:Int) (a:Option Addr) (n c nx:Nat) (met:Int->Bool) (ra:Option Addr) (rc:Nat) (acc:List T) (ul:List Value) (K:Nat):Prop where
 sz:w.heap.size=N
 fb:wr.heap[N]?=some (.cells fb 44)
 ib:wr.heap[N+1]?=some (.cells #[.int .i64 p,.slice ra acc.length rc] 83)
 gr:eN wr G a n c nx met
 row:wr.ownsRow (N+2) 68 1 (.slice ra acc.length rc) acc.length ul
 kid:∃ Q:Nat->Nat->Prop,(∀ i j b,Q i b->Q j b->i=j)∧(∀ i b,Q i b->N+2<=b∧b<K∧∀ g,(Value.slice ra acc.length rc).ownBlock=some g->b≠g)∧∀ (i:Nat) (z:T),acc[i]?=some z->∃ u:Value,ul[i]?=some u∧GM wr (Q i) z u
 kle:K<=wr.heap.size
 fr:Fr (fun k=>k=G) w wr
 glt:G<N
theorem yE.lt (h:yE w wr N G fb p a n c nx met ra rc acc ul K):N+1<wr.heap.size:=Za h.ib
theorem yE.go {e:World} {l:Nat} {m:Int->Bool} (h:yE w wr N G fb p a n c nx met ra rc acc ul K) (b:Fr (fun k=>k=G) wr e) (r:eN e G a n c l m):yE w e N G fb p a n c l m ra rc acc ul K:=by
 have z:=h.lt;have A:=h.glt;refine⟨h.sz,(b.block N (by omega) (by omega)).trans h.fb,(b.block (N+1) (by omega) (by omega)).trans h.ib,r,am h.row b (fun s t B=>by have:=(h.row.lt s t).1;omega),?_,Eo h.kle b.size,h.fr.trans b,h.glt⟩;obtain⟨u,v,f,g⟩:=h.kid;have C:=h.kle;refine⟨u,v,f,fun i o x=>?_⟩;obtain⟨q,y,g⟩:=g i o x;exact⟨q,y,GM.keep o _ _ q (fun j d=>b.block j (by have:=f i j d;omega) (by have:=f i j d;omega)) (fun _ d=>d) g⟩
theorem yE.below {b:World} (h:yE w wr N G fb p a n c nx met ra rc acc ul K) (d:Below wr.heap.size wr b):yE w b N G fb p a n c nx met ra rc acc ul K :=
 h.go (Fr.of_below d) (h.gr.keep (d.block G h.gr.lt))
theorem yE.push {w4:World} (h:yE w wr N G fb p a n c nx met ra rc acc ul K) {t:T} {u v':Value} (I:GM wr (fun b=>K<=b∧N+2<=b∧b<wr.heap.size∧∀ d,(Value.slice ra acc.length rc).ownBlock=some d->b≠d) t u) (D:w4.ownsRow (N+2) 68 1 v' (acc.length+1) (ul++[u])) (y:wr.grownBy w4 (Value.slice ra acc.length rc).ownBlock) (R:v'.ownBlock=(Value.slice ra acc.length rc).ownBlock∨∀ d,v'.ownBlock=some d->wr.heap.size<=d) :
  ∃ j k,v'=.slice j (acc.length+1) k∧yE w (w4.setCell ⟨N+1,1,none⟩ v') N G fb p a n c nx met j k (acc++[t]) (ul++[u]) (w4.setCell ⟨N+1,1,none⟩ v').heap.size∧w4.heap[N+1]?=some (.cells #[.int .i64 p,.slice ra acc.length rc] 83):=by
 obtain⟨j,k,rfl⟩:=ao D;have E:(acc++[t]).length=acc.length+1:=by simp
 have ad:=h.lt;have d:=h.glt;have ae:=h.sz;have l:=af w4 (N+1) 1 (.slice j (acc.length+1) k);have J:∀ f,f<wr.heap.size->(∀ d,(Value.slice ra acc.length rc).ownBlock=some d->f≠d)->w4.heap[f]?=wr.heap[f]?:=fun f F H=>y.block f F (fun o=>H f o.symm rfl);have z:∀ f,f<N+2->w4.heap[f]?=wr.heap[f]?:=fun f I=>J f (by omega) (fun s m o=>by have:=(h.row.lt s m).1;omega);have ag:=y.size;have S:(w4.setCell ⟨N+1,1,none⟩ (.slice j (acc.length+1) k)).heap.size=w4.heap.size:=by simp[World.setCell]
 have ah:=h.kle;obtain⟨U,V,v,W⟩:=h.kid;have L:∀ b,b<wr.heap.size->(∀ d,(Value.slice ra acc.length rc).ownBlock=some d->b≠d)->∀ d,(Value.slice j (acc++[t]).length k).ownBlock=some d->b≠d:=fun b ai X s m=>by
  rw[E] at m;rcases R with o | o;·rw[o] at m;exact X s m
  ·have:=o s m;omega
 have M:∀ (x:Nat->Prop) q r,(∀ b,x b->N+2<=b∧b<wr.heap.size∧∀ d,(Value.slice ra acc.length rc).ownBlock=some d->b≠d)->GM wr x q r->GM (w4.setCell ⟨N+1,1,none⟩ (.slice j (acc.length+1) k)) x q r:=fun x q r B Y =>GM.keep q x x r (fun b i=>(l.block b (by have:=B b i;omega) (by have:=B b i;omega)).trans (J b (B b i).2.1 (B b i).2.2)) (fun _ h=>h) Y;refine⟨j,k,rfl,⟨h.sz,(l.block N (by omega) (by omega)).trans ((z N (by omega)).trans h.fb),?_,h.gr.keep ((l.block G (by omega) (by omega)).trans (z G (by omega))),?_,⟨fun g b=>if g=acc.length then (K<=b∧N+2<=b∧b<wr.heap.size∧∀ d,(Value.slice ra acc.length rc).ownBlock=some d->b≠d) else U g b,fun g O b e C=>?_,fun g b e=>?_,fun g q e=>?_⟩,Ek _,?_,h.glt⟩,(z (N+1) (by omega)).trans h.ib⟩;·have:=aj ((z (N+1) (by omega)).trans h.ib) 1 (.slice j (acc.length+1) k);rw[E];simpa using this
 ·rw[E];exact am D l (fun s m o=>by have:=(D.lt s m).1;omega)
 ·dsimp only at e C;split at e<;>split at C;·omega
  ·have:=v O b C;omega
  ·have:=v g b e;omega
  ·exact V g O b e C
 ·dsimp only at e;rw[S];split at e;·exact⟨e.2.1,by omega,L b e.2.2.1 e.2.2.2⟩
  ·have P:=v g b e;exact⟨P.1,by omega,L b (by omega) P.2.2⟩
 ·have Z:ul.length=acc.length:=(by have:=h.row.1;omega);by_cases Q:g=acc.length;·subst Q;simp only[if_true];rw[EB (Ek _)] at e;simp at e;subst e;exact⟨u,by rw[<-Z,EB (Ek _)];simp,M _ t u (fun b i=>⟨i.2.1,i.2.2⟩) I⟩
  ·have aa:g<acc.length:=(by have:=Zc e;simp at this;omega);rw[EE aa] at e;obtain⟨r,ab,ac⟩:=W g q e;simp only[if_neg Q];exact⟨r,by rw[EE (by omega)];exact ab,M _ q r (fun b i=>⟨(v g b i).1,by have:=v g b i;omega,(v g b i).2.2⟩) ac⟩
 ·have A:=h.fr;have ak:=A.size;exact⟨l.os.trans (y.os.trans A.os),l.tape.trans (y.tape.trans A.tape),l.output.trans (y.output.trans A.output),by have:=l.size;omega,fun f F H=>(l.block f (by omega) (by omega)).trans ((z f (by omega)).trans (A.block f F H))⟩
def gi (ts:List TN) (f:Nat) (x:TN) (nx:Nat) (met:Int->Bool):Option (T × Nat × (Int->Bool)) :=
 if x.kids.length<2∨4<x.kids.length∨x.keys.length+1≠x.kids.length∨0<x.vals.length∨0<x.over.length then none
 else match nh x.page x.keys (gr ts f) x.kids [] nx met with
  | none=>none
  | some (ys,nx',m')=>some (⟨false,x.page,[],[],[],ys⟩,nx',m')
def zT (ts:List TN) (f:Nat) (a:Option Addr) (n c A B G:Nat):Prop:=∀ (nx:Nat) (met:Int->Bool) (w:World),nx<=ts.length->ts.length<nx+f->aw w A B a n c ts->eN w G a n c nx met->Calls prog 44 #[.pointer (some ⟨G,0,none⟩)] w fun e w'=>iz w G a n c (gr ts f nx met) e w'
set_option maxHeartbeats 8000000 in
theorem qH (ts:List TN) (dq:ts.length<=1000) (f:Nat) (a:Option Addr) (n c A B G:Nat) (b0:zT ts f a n c A B G) (x:TN) (ab:Option Addr) (l U:Nat) (ah:Option Addr) (H ai:Nat) (aj:Option Addr) (on al:Nat) (ac:Option Addr) (e ad:Nat) (ax:Bool) (w:World) (nx:Nat) (met:Int->Bool) (dr:B<=G) (cE:nx<=ts.length) (ds:ts.length<nx+f) (b1:aw w A B a n c ts) (bo:eN w G a n c nx met)
  (z:aP w A B ab l U x.keys) (bc:aP w A B ah H ai x.vals) (bd:bf w A B aj on al x.over) (a0:bf w A B ac e ad x.kids) :
  Calls prog 58 #[.pointer (some ⟨G,0,none⟩),.agg (Zs ax x.page ab l U ah H ai aj on al ac e ad)] w fun s aL=>iz w G a n c (gi ts f x nx met) s aL:=by
 obtain⟨N,bp⟩:=Zn w.heap.size;have am:Hid (x.keys.length=l∧x.vals.length=H∧x.over.length=on∧x.kids.length=e):=⟨z.1,bc.1,bd.1,a0.1⟩;have b2:=Eo z.2.1 z.2.2.1;have cF:=Eo bc.2.1 bc.2.2.1;have cG:=Eo bd.2.1 bd.2.2.1;have cH:=Eo a0.2.1 a0.2.2.1;unfold maxLen at b2 cF cG cH;have cI:=bo.lt;have be:Hid (gi ts f x nx met=none∨¬ (e<2∨4<e∨l+1≠e∨0<H∨0<on)):=by
  by_cases d:e<2∨4<e∨l+1≠e∨0<H∨0<on;·left;unfold gi;rw[am.out.1,am.out.2.1,am.out.2.2.1,am.out.2.2.2,if_pos d]
  ·exact .inr d
 have aM:=Ej w (.cells (Zs ax x.page ab l U ah H ai aj on al ac e ad) 44);have aN:=Zb w (.cells (Zs ax x.page ab l U ah H ai aj on al ac e ad) 44);have bq:(w.alloc (.cells (Zs ax x.page ab l U ah H ai aj on al ac e ad) 44)).heap.size=N+1:=by simp[bp]
 rw[bp] at aM;have b3:=hidI bo;have b4:Hid (∀ wr,Fr (fun V=>V=G) w wr->aP wr A B ab l U x.keys∧bf wr A B ac e ad x.kids∧aw wr A B a n c ts):=fun wr cJ=>by have br:eS A B w wr:=fun V J q=>cJ.block V (by omega) (by omega);exact⟨z.keep br,a0.keep br,b1.keep br⟩
 have cK:=hidI b0;obtain⟨p,bs⟩:=Zn x.page;have cL:=hidI bs;rw[bs] at aM aN bq ⊢;clear bo z bc bd a0 bs b0 b1;obtain⟨W,bt⟩:=Zn (gi ts f x nx met);have b5:=hidI bt;rw[bt] at be ⊢;clear bt;go_enter func58,ntmps58;go_upto_region 1 with fail
 generalize w.alloc (.cells (Zs ax p ab l U ah H ai aj on al ac e ad) 44)=ay at aM aN bq ⊢;obtain⟨az,aA,L,aB,aC,aD⟩:=aq aM;have cM:N<ay.heap.size:=by omega
 by_cases aE:e<2∨4<e∨l+1≠e∨0<H∨0<on
 ·have b6:W=none:=be.out.resolve_right (fun d=>d aE);have a1:Hid (iz w G a n c W (.returned (.tuple #[.nilIface,.bool false])) ay):=⟨fun _=>rfl,(fun g E a2 s=>by rw[b6] at s;cases s),Fr.of_below aN⟩;clear be b6;by_cases dt:e<2
  ·clear aE;go_wp2_with fail
   refine bodyPost_ret (v:=.tuple #[.nilIface,.bool false]) (by simp[results,results58,go_sem]) rfl ?_;exact a1.out
  by_cases du:4<e
  ·clear aE;go_wp2_with fail
   refine bodyPost_ret (v:=.tuple #[.nilIface,.bool false]) (by simp[results,results58,go_sem]) rfl ?_;exact a1.out
  by_cases bu:l+1≠e
  ·have bv:((l:Int) != (e:Int) - 1)=true:=(by simp;omega);clear aE bu;go_wp2_with fail
   refine bodyPost_ret (v:=.tuple #[.nilIface,.bool false]) (by simp[results,results58,go_sem]) rfl ?_;exact a1.out
  have bv:((l:Int) != (e:Int) - 1)=false:=(by simp;omega);have dv:l<=3:=(by omega);by_cases cN:0<H
  ·clear aE bu;go_wp2_with fail
   refine bodyPost_ret (v:=.tuple #[.nilIface,.bool false]) (by simp[results,results58,go_sem]) rfl ?_;exact a1.out
  have dw:0<on:=(by omega);have bw:H=0:=(by omega);subst bw;clear aE bu cN;go_wp2_with fail
  refine bodyPost_ret (v:=.tuple #[.nilIface,.bool false]) (by simp[results,results58,go_sem]) rfl ?_;exact a1.out
 clear be;have aQ:Hid (W=match nh p x.keys (gr ts f) x.kids [] nx met with
  | none=>none
  | some (ys,E,an)=>some (⟨false,p,[],[],[],ys⟩,E,an)):=by
  show _=_;rw[<-b5.out];unfold gi;have d:=am.out;rw[if_neg (by omega),cL.out]
 have dx:2<=e∧e<=4:=by omega
 have dy:l+1=e:=by omega
 have bw:H=0:=by omega
 have cO:on=0:=by omega
 subst bw;subst cO;have bv:((l:Int) != (e:Int) - 1)=false:=by simp;omega
 have F:=Zb ay (.cells #[.int .i64 p,.slice none 0 0] 83);have bx:=Ej ay (.cells #[.int .i64 p,.slice none 0 0] 83);rw[bq] at bx
 have a3:yE w (ay.alloc (.cells #[.int .i64 p,.slice none 0 0] 83)) N G (Zs ax p ab l U ah 0 ai aj 0 al ac e ad) p a n c nx met none 0 [] [] (ay.alloc (.cells #[.int .i64 p,.slice none 0 0] 83)).heap.size :=
  ⟨bp,(F.block N (by omega)).trans aM,bx,b3.out.keep ((F.block G (by omega)).trans (aN.block G cI)),World.ownsRow_nil _ _ _ _,⟨fun _ _=>False,fun _ _ _ d=>d.elim,fun _ _ d=>d.elim,fun X Y ao=>by simp at ao⟩,Ek _,(Fr.of_below aN).trans (Fr.of_below F),by omega⟩
 obtain⟨b7,bg,b8,b9,b'⟩:=info_parts nr;have ca:Hid (x.keys.length=l∧x.kids.length=e):=⟨am.out.1,am.out.2.2.2⟩;clear aE b2;go_upto_region 5 with fail
 generalize ay.alloc (.cells #[.int .i64 p,.slice none 0 0] 83)=cP at a3 ⊢;clear aM bx F aN az aA L aB aC aD b5 b3 am bv;obtain⟨az,aA,L,aB,aC,aD⟩:=aq a3.fb;have cQ:N<cP.heap.size:=by have:=a3.lt;omega
 go_wp2_with fail
 clear az aA L aB aC aD cQ;go_loopw [49] (fun X wr=>∃ (t:Nat) (ra:Option Addr) (rc:Nat) (acc:List T) (ul:List Value) (C:Nat) (ap:Int->Bool),t<=e∧X=.int .i64 t∧C<=1000∧Hid (acc.length=t∧(nx<=C∧C<=ts.length)∧(∀ Y ∈ acc,(Y.good true=true∧0<=Y.ht)∧Y.nodes<=1000)∧nh p x.keys (gr ts f) x.kids [] nx met=nh p x.keys (gr ts f) (x.kids.drop t) acc C ap)∧yE w wr N G (Zs ax p ab l U ah 0 ai aj 0 al ac e ad) p a n c C ap ra rc acc ul wr.heap.size) (fun X _=>e - (intOf X).toNat)
 case atStart=>exact⟨0,none,0,[],[],nx,met,En _,rfl,by omega,⟨rfl,⟨Ek _,cE⟩,by simp,by simp⟩,a3⟩
 case round =>
  clear a3;obtain⟨t,ra,rc,acc,ul,C,ap,dz,rfl,dA,u,m⟩:=hrel;have dB:=m.lt;by_cases cR:t<e
  ·obtain⟨cS,cb,bz⟩:=b4.out wr m.fr;obtain⟨cT,dC,rfl,dD,cU,cc⟩:=bf.at cb cR;have Z:Hid (x.kids.drop t=x.kids.getD t 0::x.kids.drop (t+1)):=(by show _=_;have:=ca.out;rw[List.drop_eq_getElem_cons (by omega)];simp[List.getD,show t<x.kids.length by omega]);obtain⟨cd,ce⟩:=Zn (x.kids.getD t 0);rw[ce] at cc cU Z;clear ce cb cS;have dE:=m.fr.size;have cM:N<wr.heap.size:=(by omega);have dF:cT<wr.heap.size:=(by omega);have cf:=m.gr.c1;have dG:=m.gr.lt;have aR:=hidI m.fr;obtain⟨az,aA,L,aB,aC,aD⟩:=aq m.fb;by_cases bh:cd=C
   ·subst bh;have cg:((C:Int) != (C:Int))=false:=(by simp);have ch:=cK.out C ap wr (by have:=u.out;omega) (by have:=u.out;omega) bz m.gr;(go_upto_region 10 with fail);(go_wp2_with fail);refine ch.mono ?_;clear ch bz az aA L aB aC aD cc cg;rintro s o ⟨bA,aS,av⟩;have bi:=u.out.1;have ci:∀ bB,nh p x.keys (gr ts f) x.kids [] nx met=bB->nh p x.keys (gr ts f) ((C:Int)::x.kids.drop (t+1)) acc C ap=bB:=fun bB d=>(by rw[<-Z.out,<-u.out.2.2.2];exact d);cases O:gr ts f C ap with
    |none=>have aF:Hid (W=none):=(by show _=_;rw[aQ.out,u.out.2.2.2,Z.out];unfold nh;rw[if_pos rfl,O]);obtain rfl:=bA O;have aT:Hid (Fr (fun V=>V=G) w o.drew):=⟨(aR.out.trans av).os,(aR.out.trans av).tape,(aR.out.trans av).output,(aR.out.trans av).size,(aR.out.trans av).block⟩;clear bA aS O ci u Z m av cf;(go_upto_region 11 with fail);refine Zg (fun _:World=>True) (trivial) (fun ae=>?_);refine Zx .a0 ?_;refine Zx .a1 ?_;refine Zx .a2 ?_;refine Zu .a3 ?_;(try simp only[Zq]);refine Zu .a4 ?_;refine Zu .a5 ?_;refine Zu .a6 ?_;refine Zx .a7 ?_;(try simp only[Zq]);refine Zx .a8 ?_;refine Zu .a9 ?_;refine Zu (.t .a0) ?_;refine Zu (.t .a1) ?_;(try simp only[Zq]);refine Zu (.t .a2) ?_;refine Zu (.t .a3) ?_;refine Zu (.t .a4) ?_;refine Zu (.t .a5) ?_;(try simp only[Zq]);refine Zu (.t .a6) ?_;refine Zu (.t .a7) ?_;refine Zu (.t .a8) ?_;refine Zu (.t .a9) ?_;(try simp only[Zq]);refine Zu (.t (.t .a0)) ?_;refine Zu (.t (.t .a1)) ?_;refine Zx (.t (.t .a2)) ?_;(try simp only[Zq]);refine Zd ?_;(go_wp2_with fail);refine bodyPost_ret (v:=.tuple #[.nilIface,.bool false]) (by simp[results,results58,go_sem]) rfl ?_;exact⟨fun _=>rfl,(fun bj E a2 d=>by rw[aF.out] at d;cases d),aT.out⟩
    |some cV=>
     obtain⟨g,E,an⟩:=cV;obtain⟨cj,rfl,aG,ck⟩:=aS g E an O;obtain⟨cW,cX,cY,bC,bD,cl,cZ,c0⟩:=iw ts f C ap g E an (by have:=u.out;omega) O;have c1:g.nodes<=1000:=(by have:=bC.1;omega);have cm:E<=ts.length:=(by have:=bC.1;omega);have dH:C<=E:=(by omega);obtain⟨h,j,rfl⟩:=aG.shape;have bE:=gf.obj (P:=fun b=>wr.heap.size<=b∧b<o.heap.size) g h j (by omega) ⟨true,bD⟩ cl (GM.see _ _ _ aG).drew;have M:=m.go av ck;have aT:Hid (Fr (fun V=>V=G) w o.drew):=⟨M.fr.os,M.fr.tape,M.fr.output,M.fr.size,M.fr.block⟩
     have cn:GM o (fun b=>wr.heap.size<=b∧N+2<=b∧b<o.heap.size∧∀ k,(Value.slice ra acc.length rc).ownBlock=some k->b≠k) g (.iface h j) :=
      GM.keep g _ _ _ (fun _ _=>rfl) (fun b y=>⟨y.1,by omega,y.2,fun k a4=>by have:=(m.row.lt k a4).2;omega⟩) aG
     have co:∀ r cp,acc=r::cp->∃ b a5 a6,ra=some ⟨b,0,none⟩∧o.drew.cell? ⟨b,0,none⟩=some (.iface a5 a6)∧xF o.drew a5 a6 "loop.example/s02098/impl.height" (.int .i64 r.ht):=by
      intro r cp bk;obtain⟨_,_,_,c2⟩:=M.kid;obtain⟨dI,c3,cq⟩:=c2 0 r (by rw[bk];rfl);obtain⟨a5,a6,rfl⟩:=cq.shape;have cs:=u.out.2.2.1 r (by rw[bk];exact Et ..);have aa:=M.row;rcases aa.2 with ⟨_,ct⟩ | ⟨k,dJ,dK,s,_⟩;·rw[bk] at ct;simp at ct
      ·have aS:ra=some ⟨k,0,none⟩:=(by simp only[Value.slice.injEq] at s;exact s.1);refine⟨k,a5,a6,aS,?_,(gf.obj (w:=o.drew) r a5 a6 (by omega) ⟨true,cs.1.1⟩ cs.1.2 (GM.see _ _ _ cq).drew).height⟩;rw[aS] at aa;have aU:=aa.cellAt 0 (by rw[bk];simp);rw[c3] at aU;exact aU
     have bF:=M.ib;rw[bi] at bF;have cu:Hid _:=uA o.drew (N+1) p ra t rc h j g acc bF bi (by omega) (by have aV:=bD;rw[T.good_eq] at aV;simp only[Em,Es] at aV;have:=aV.1.1.1.1.2;omega) bE co;have bl:ju p acc g=false->W=none:=fun d=>(by rw[aQ.out,u.out.2.2.2,Z.out];unfold nh;rw[if_pos rfl,O];simp[d]);have aW:Hid (ju p acc g=true->(acc.length=0∨g.low=x.keys.getD (acc.length - 1) .empty)->nh p x.keys (gr ts f) x.kids [] nx met=nh p x.keys (gr ts f) (x.kids.drop (t+1)) (acc++[g]) E an):=by
      intro J q;rw[u.out.2.2.2,Z.out]
      conv=>lhs;unfold nh
      rw[if_pos rfl,O];have aU:(ju p acc g && (decide (acc.length=0) || decide (g.low=x.keys.getD (acc.length - 1) .empty)))=true:=(by rw[J,Bool.true_and,Bool.or_eq_true];exact q.imp (by simp) (by simp));simp only[aU,if_true]
     have bm:Hid (¬ (acc.length=0∨g.low=x.keys.getD (acc.length - 1) .empty)->W=none):=(by intro q;rw[aQ.out,u.out.2.2.2,Z.out];unfold nh;rw[if_pos rfl,O];have aU:(ju p acc g && (decide (acc.length=0) || decide (g.low=x.keys.getD (acc.length - 1) .empty)))=false:=(by rw[Bool.and_eq_false_iff];right;simp only[Bool.or_eq_false_iff,decide_eq_false_iff_not];exact⟨fun d=>q (.inl d),fun d=>q (.inr d)⟩);simp only[aU,EC,EO]);have cv:Hid (∀ Y ∈ acc++[g],(Y.good true=true∧0<=Y.ht)∧Y.nodes<=1000):=fun Y ao=>by
      rcases EG.1 ao with ao | ao;·exact u.out.2.2.1 Y ao
      ·simp at ao;subst ao;exact⟨⟨bD,cl⟩,c1⟩
     have cw:=hidI u.out.2.1.1;have aH:=hidI bi;have a7:Hid _:=cn;have a8:Hid _:=M;have bG:=bE.least;obtain⟨az,aA,L,aB,aC,aD⟩:=aq (M.fb);have cx:=(b4.out o M.fr).1;clear bA aS ci Z m av aG ck cW cX cY bC cZ c0 bE cn co bF u cf bi az aA aB aC aD M O;obtain⟨bH,aX⟩:=Zn (ju p acc g);have a9:Hid (Calls prog 64 #[.pointer (some ⟨N+1,0,none⟩),.iface h j] o.drew fun s aL=>s=.returned (.bool bH)∧aL=o.drew):=(by rw[<-aX];exact cu.out);rw[aX] at bl aW;have bI:bH=true->0<g.size:=fun d=>(by rw[d] at aX;rw[uz] at aX;simp only[Em,Es] at aX;omega);clear aX cu;have cy:=aO L;(go_upto_region 11 with fail);cases bH;·have aF:Hid (W=none):=bl rfl;clear bl aW bm bG bI a7 a8;refine Zg (fun _:World=>True) (trivial) (fun ae=>?_);refine Zx .a0 ?_;refine Zx .a1 ?_;refine Zx .a2 ?_;refine Zx .a3 ?_;(try simp only[Zq]);refine Zx .a4 ?_;(try simp only[Zq]);refine Zr [5] ?_;refine rdA .a5 (fun K z=>?_) Ei;go_simp;refine (a9.out).mono ?_;rintro s bJ ⟨rfl,rfl⟩;(go_wp2_with fail);refine z.out _ _ (trivial) (fun ae=>?_);clear z K;refine Zx .a6 ?_;refine Zx .a7 ?_;refine Zx .a8 ?_;(try simp only[Zq]);refine Zu .a9 ?_;refine Zu (.t .a0) ?_;refine Zu (.t .a1) ?_;refine Zu (.t .a2) ?_;(try simp only[Zq]);refine Zu (.t .a3) ?_;refine Zu (.t .a4) ?_;refine Zu (.t .a5) ?_;refine Zu (.t .a6) ?_;(try simp only[Zq]);refine Zu (.t .a7) ?_;refine Zu (.t .a8) ?_;refine Zu (.t .a9) ?_;refine Zu (.t (.t .a0)) ?_;(try simp only[Zq]);refine Zu (.t (.t .a1)) ?_;refine Zx (.t (.t .a2)) ?_;(try simp only[Zq]);refine Zd ?_;(go_wp2_with fail);refine bodyPost_ret (v:=.tuple #[.nilIface,.bool false]) (by simp[results,results58,go_sem]) rfl ?_;exact⟨fun _=>rfl,(fun bj E a2 d=>by rw[aF.out] at d;cases d),aT.out⟩
     ·have bK:=bG (bI rfl);clear bl bG bI;by_cases cz:t=0
      ·have bL:Hid _:=aW.out rfl (.inl (by rw[aH.out];exact cz));clear aW bm bK;subst cz;refine Zg (fun _:World=>True) (trivial) (fun ae=>?_);refine Zx .a0 ?_;refine Zx .a1 ?_;refine Zx .a2 ?_;refine Zx .a3 ?_;(try simp only[Zq]);refine Zx .a4 ?_;(try simp only[Zq]);refine Zr [5] ?_;refine rdA .a5 (fun K z=>?_) Ei;go_simp;refine (a9.out).mono ?_;rintro s bJ ⟨rfl,rfl⟩;(go_wp2_with fail);refine z.out _ _ (trivial) (fun ae=>?_);clear z K;refine Zx .a6 ?_;refine Zx .a7 ?_;refine Zx .a8 ?_;(try simp only[Zq]);refine Zx .a9 ?_;refine Zx (.t .a0) ?_;refine Zx (.t .a1) ?_;refine Zu (.t .a2) ?_;(try simp only[Zq]);refine Zu (.t .a3) ?_;refine Zu (.t .a4) ?_;refine Zu (.t .a5) ?_;refine Zu (.t .a6) ?_;(try simp only[Zq]);refine Zu (.t .a7) ?_;refine Zu (.t .a8) ?_;refine Zu (.t .a9) ?_;refine Zu (.t (.t .a0)) ?_;(try simp only[Zq]);refine Zx (.t (.t .a1)) ?_;refine Zx (.t (.t .a2)) ?_;(try simp only[Zq]);refine Zd ?_;have R:=a8.out.below ((Ev o.heap.size o).drew);have ND:=a7.out.drew;have c4:acc.length<=4:=(by have:=aH.out;omega);have aI:GM o.drew (fun b=>wr.heap.size<=b∧N+2<=b∧b<o.drew.heap.size∧∀ k,(Value.slice ra acc.length rc).ownBlock=some k->b≠k) g (.iface h j):=ND;clear ND a7 a8 a9 ae L cy;generalize o.drew=D at R aI aT ⊢;have F:=Zb D (.cells #[.iface h j] 68);have aJ:=R.below F;have a':GM (D.alloc (.cells #[.iface h j] 68)) (fun b=>wr.heap.size<=b∧N+2<=b∧b<(D.alloc (.cells #[.iface h j] 68)).heap.size∧∀ k,(Value.slice ra acc.length rc).ownBlock=some k->b≠k) g (.iface h j):=GM.keep g _ _ _ (fun b y=>F.block b y.2.2.1) (fun b y=>⟨y.1,y.2.1,Er y.2.2.1 F.size,y.2.2.2⟩) aI;have aa:=aJ.row;obtain⟨bM,bN⟩:=au R.ib;have c5:=R.lt;have bO:N+2<=(D.alloc (.cells #[.iface h j] 68)).heap.size:=(by have:=F.size;omega);have ba:Hid (∀ I S,S.ownsRow (N+2) 68 1 I (acc.length+1) (ul++[.iface h j])->(D.alloc (.cells #[.iface h j] 68)).grownBy S (Value.slice ra acc.length rc).ownBlock->(I.ownBlock=(Value.slice ra acc.length rc).ownBlock∨∀ k,I.ownBlock=some k->(D.alloc (.cells #[.iface h j] 68)).heap.size<=k)->_):=fun I S J q af=>aJ.push a' J q af;have bb:=cell_one_new D (.iface h j) 68;clear R aI aJ a' F;(go_wp2_with (at_builtin;refine ak _ rfl _ _ 79 rfl (N+2) 68 b7 _ 1 16 underlying79 bg b8 b9 b' rfl (by decide) (.slice ra acc.length rc) acc.length ul rfl aa ⟨D.heap.size,0,none⟩ 1 1 [.iface h j] rfl rfl bb (by simp[Value.oneCell']) (by unfold maxLen;omega) (by omega) bO ?_;intro I S J q af;obtain⟨bP,bQ,rfl,bR,ag⟩:=ba.out I S J q af;have c6:=Za ag;obtain⟨c7,c8⟩:=au ag;have c9:=ar ag;clear J q af ba aa bb ag bM bN));go_roundw
       case rel=>exact⟨0+1,bP,bQ,acc++[g],ul++[.iface h j],E,an,by omega,by go_num,by omega,⟨by rw[El,aH.out];rfl,⟨by have:=cw.out;omega,cm⟩,cv.out,bL.out⟩,bR⟩
       case measure=>simp[intOf];omega
      ·obtain⟨r,rfl⟩:∃ r,t=r+1:=⟨t - 1,by omega⟩;obtain⟨bS,bT,rfl,dL,c',aY⟩:=aP.at cx (i:=r) (by omega);have bU:Hid (g.low=x.keys.getD r .empty->nh p x.keys (gr ts f) x.kids [] nx met=nh p x.keys (gr ts f) (x.kids.drop (r+1+1)) (acc++[g]) E an):=fun d=>aW.out rfl (.inr (by rw[aH.out];exact d));have bV:Hid (¬ g.low=x.keys.getD r .empty->W=none):=fun d=>bm.out (fun q=>by
        rw[aH.out] at q;rcases q with q | q;·omega
        ·exact d q)
       obtain⟨bn,bW⟩:=Zn (x.keys.getD r .empty);obtain⟨bX,bY⟩:=Zn g.low;rw[bW,bY] at bU bV;rw[bW] at aY;rw[bY] at bK;obtain⟨da,dM,dN,db,dc,cA⟩:=bK;have cB:=hidI cA;have dd:=aO aY;have dO:r<l:=(by omega);have dP:IntKind.i64.wrap (r:Int)=r:=(by rw[Fa];omega);clear aW bm bW bY c' cA cx;refine Zg (fun aL:World=>aL.cell? ⟨N,2,none⟩=some (.slice (some ⟨bS,bT,none⟩) l U)∧aL.cell? ⟨bS,bT+r,none⟩=some (.string bn)) (⟨L,aY⟩) (fun ae=>?_);refine Zx .a0 ?_;refine Zx .a1 ?_;refine Zx .a2 ?_;refine Zx .a3 ?_;(try simp only[Zq]);refine Zx .a4 ?_;(try simp only[Zq]);refine Zr [5] ?_;refine rdA .a5 (fun K z=>?_) Ei;go_simp;refine (a9.out).mono ?_;rintro s bJ ⟨rfl,rfl⟩;(go_wp2_with fail);refine z.out _ _ (⟨L,aY⟩) (fun ae=>?_);clear z K;refine Zx .a6 ?_;refine Zx .a7 ?_;refine Zx .a8 ?_;(try simp only[Zq]);refine Zx .a9 ?_;refine Zw (.bool true) (.t .a0) ?_ ?_;·intro bZ aK;go_simp;(try omega)
       refine Zx (.t .a1) ?_;refine Zx (.t .a2) ?_;(try simp only[Zq]);refine Zx (.t .a4) ?_;refine Zy (.t .a5) (fun bZ aK=>by (try dsimp only at aK);obtain⟨de,df⟩:=aK;go_simp;rfl) ?_;refine Zx (.t .a6) ?_;refine Zx (.t .a7) ?_;(try simp only[Zq]);refine Zw (.pointer (some ⟨bS,bT+r,none⟩)) (.t .a8) ?_ ?_;·intro bZ aK;go_simp;(try (intro dQ;exfalso;omega))
       refine Zy (.t .a9) (fun bZ aK=>by (try dsimp only at aK);obtain⟨de,df⟩:=aK;go_simp;rfl) ?_;(try simp only[Zq]);refine Zr [13] ?_;refine rdA (.t .a3) (fun K z=>?_) Ei;go_simp;refine (cB.out).mono ?_;rintro s bJ ⟨rfl,rfl⟩;(go_wp2_with fail);refine z.out _ _ (⟨L,aY⟩) (fun ae=>?_);clear z K;(try simp only[Zq]);by_cases aZ:bX=bn
       ·have cC:(bX.toList == bn.toList)=true:=(by rw[aZ];simp);have bL:Hid _:=bU.out aZ;clear aZ;refine Zx (.t (.t .a0)) ?_;refine Zx (.t (.t .a1)) ?_;refine Zx (.t (.t .a2)) ?_;(try simp only[Zq]);refine Zd ?_;have R:=a8.out.below ((Ev o.heap.size o).drew);have ND:=a7.out.drew;have c4:acc.length<=4:=(by have:=aH.out;omega);have aI:GM o.drew (fun b=>wr.heap.size<=b∧N+2<=b∧b<o.drew.heap.size∧∀ k,(Value.slice ra acc.length rc).ownBlock=some k->b≠k) g (.iface h j):=ND;clear ND a7 a8 a9 cB ae aY L cy dd bU bV cC da db dc;generalize o.drew=D at R aI aT ⊢;have F:=Zb D (.cells #[.iface h j] 68);have aJ:=R.below F;have a':GM (D.alloc (.cells #[.iface h j] 68)) (fun b=>wr.heap.size<=b∧N+2<=b∧b<(D.alloc (.cells #[.iface h j] 68)).heap.size∧∀ k,(Value.slice ra acc.length rc).ownBlock=some k->b≠k) g (.iface h j):=GM.keep g _ _ _ (fun b y=>F.block b y.2.2.1) (fun b y=>⟨y.1,y.2.1,Er y.2.2.1 F.size,y.2.2.2⟩) aI;have aa:=aJ.row;obtain⟨bM,bN⟩:=au R.ib;have c5:=R.lt;have bO:N+2<=(D.alloc (.cells #[.iface h j] 68)).heap.size:=(by have:=F.size;omega);have ba:Hid (∀ I S,S.ownsRow (N+2) 68 1 I (acc.length+1) (ul++[.iface h j])->(D.alloc (.cells #[.iface h j] 68)).grownBy S (Value.slice ra acc.length rc).ownBlock->(I.ownBlock=(Value.slice ra acc.length rc).ownBlock∨∀ k,I.ownBlock=some k->(D.alloc (.cells #[.iface h j] 68)).heap.size<=k)->_):=fun I S J q af=>aJ.push a' J q af;have bb:=cell_one_new D (.iface h j) 68;clear R aI aJ a' F;(go_wp2_with (at_builtin;refine ak _ rfl _ _ 79 rfl (N+2) 68 b7 _ 1 16 underlying79 bg b8 b9 b' rfl (by decide) (.slice ra acc.length rc) acc.length ul rfl aa ⟨D.heap.size,0,none⟩ 1 1 [.iface h j] rfl rfl bb (by simp[Value.oneCell']) (by unfold maxLen;omega) (by omega) bO ?_;intro I S J q af;obtain⟨bP,bQ,rfl,bR,ag⟩:=ba.out I S J q af;have c6:=Za ag;obtain⟨c7,c8⟩:=au ag;have c9:=ar ag;clear J q af ba aa bb ag bM bN));go_roundw
        case rel=>exact⟨(r+1)+1,bP,bQ,acc++[g],ul++[.iface h j],E,an,by omega,by go_num,by omega,⟨by rw[El,aH.out];rfl,⟨by have:=cw.out;omega,cm⟩,cv.out,bL.out⟩,bR⟩
        case measure=>simp[intOf];omega
       ·have cC:(bX.toList == bn.toList)=false:=mw aZ;have aF:=hidI (bV.out aZ);clear aZ;refine Zx (.t (.t .a0)) ?_;refine Zx (.t (.t .a1)) ?_;refine Zx (.t (.t .a2)) ?_;(try simp only[Zq]);refine Zd ?_;(go_wp2_with fail);refine bodyPost_ret (v:=.tuple #[.nilIface,.bool false]) (by simp[results,results58,go_sem]) rfl ?_;exact⟨fun _=>rfl,(fun bj E a2 d=>by rw[aF.out] at d;cases d),aT.out⟩
   ·have cg:(cd != (C:Int))=true:=(by simpa using bh);have aF:Hid (W=none):=(by show _=_;rw[aQ.out,u.out.2.2.2,Z.out];unfold nh;rw[if_neg bh]);clear bh u Z m bz;(go_wp2_with fail);refine bodyPost_ret (v:=.tuple #[.nilIface,.bool false]) (by simp[results,results58,go_sem]) rfl ?_;exact⟨fun _=>rfl,(fun bj E a2 d=>by rw[aF.out] at d;cases d),aR.out⟩
  ·have dg:t=e:=(by omega);subst dg;have cD:Hid (W=some (⟨false,p,[],[],[],acc⟩,C,ap)):=(by show _=_;rw[aQ.out,u.out.2.2.2,List.drop_of_length_le (by have:=ca.out;omega)];rfl);have dh:=m.fr;have O:=m.gr;have dR:=m.sz;have aG:GM wr (fun b=>w.heap.size<=b∧b<wr.heap.size) ⟨false,p,[],[],[],acc⟩ (.iface 77 (.pointer (some ⟨N+1,0,none⟩))):=by
    have aa:=m.row;obtain⟨di,dj,dk,dl⟩:=m.kid;refine gC.is (a:=ra) (n:=acc.length) (c:=rc) (ul:=ul) (Q:=di) ⟨⟨by omega,by omega⟩,m.ib,cr m.row (En _),fun k a4=>?_,rfl,dj,fun X b y=>?_,fun X V dS bg=>?_⟩ rfl;·have dm:=m.row.lt k a4;exact⟨⟨by omega,dm.2⟩,by omega⟩
    ·have aV:=dk X b y;exact⟨⟨by omega,aV.2.1⟩,by omega,fun s=>aV.2.2 b s rfl⟩
    ·obtain⟨cj,dn,a4⟩:=dl X V bg;have s:ul.getD X .nilIface=cj:=(by simp[List.getD,dn]);show GM wr _ V (ul.getD X .nilIface);rw[s];exact a4
   have dp:Hid _:=aG;clear m aG u aQ;go_wp2_with fail
   refine bodyPost_ret (v:=.tuple #[.iface 77 (.pointer (some ⟨N+1,0,none⟩)),.bool true]) (by simp[results,results58,go_sem]) rfl ?_;refine⟨fun d=>(by rw[cD.out] at d;cases d),fun bj E a2 d=>?_,dh⟩;rw[cD.out] at d;simp only[Option.some.injEq,Prod.mk.injEq] at d;obtain⟨rfl,rfl,rfl⟩:=d;exact⟨_,rfl,dp.out,O⟩
end Go.Proofs.YtggmghkcdfjdoaaGreat
