import Derived.Test.YtgcedpmagmmikaaGreatHTks
import Derived.Test.YtgcedpmagmmikaaGreatHTp
import Derived.Test.YtgcedpmagmmikaaGreatHAp2
import Derived.Deep.QuietTactic
import Derived.BigQuiet
import Derived.Deep.DeepCutAuto
import Derived.Deep.RegionHeld3
namespace Go.Proofs.YtgcedpmagmmikaaGreat
set_option maxHeartbeats 2000000
open Go.RowKit Tryz
set_option linter.unusedVariables false
set_option linter.unusedSimpArgs false
set_option maxRecDepth 100000
variable {A B N Wk oc on rc vc vn:Nat} {css:Nat->List Value} {oa ra va:Option Addr} {pg:Int} {w wr:World} {wcs xcs:Array Value} {zs:List T}
def zW (ts:List TN) (f:Nat):Prop:=∀ nx,nx<=ts.length->nx<=(rd ts f nx).2.1∧(rd ts f nx).2.1<=ts.length∧((rd ts f nx).2.2=false->nx<(rd ts f nx).2.1)
theorem rl {ts:List TN} {f:Nat} (d:zW ts f):∀ (b:List Int) (a:Nat),a<=ts.length->a<=(fm (rd ts f) b a).2.1∧(fm (rd ts f) b a).2.1<=ts.length
 | [],a,h=>by simp[fm,h]
 | k::b,a,h=>by
  unfold fm
  have c:=d a h
  split
  ·split
   ·exact⟨c.1,c.2.1⟩
   ·have e:=rl d b (rd ts f a).2.1 c.2.1
    exact⟨by simp only;omega,e.2⟩
  ·exact⟨DU _,h⟩
theorem uD (ts:List TN):∀ a,zW ts a
 | 0=>by intro b c;simp[rd,c]
 | a+1=>by
  have d:=uD ts a
  intro b c
  unfold rd
  split
  ·rename_i f
   split
   ·exact⟨by simp only;omega,by simp only;omega,fun _=>by simp only;omega⟩
   ·split
    ·exact⟨by simp only;omega,by simp only;omega,fun _=>by simp only;omega⟩
    ·have:=rl d (ts.getD b dT).kids (b+1) (by omega)
     exact⟨by simp only;omega,this.2,fun _=>by simp only;omega⟩
  ·exact⟨DU _,c,fun e=>by simp at e⟩
theorem gm:(prog.info? 55).map (fun a=>(a.zero,a.size,a.bytes))=some (some (.agg (Z0 false 0)),6,112):=by kernel_rfl
theorem iC {g:Nat} {a b c:Value} {t:TypeId} (h:w.heap[g]?=some (.cells #[a,b,c] t)):w.cell? ⟨g,0,none⟩=some a∧w.cell? ⟨g,1,none⟩=some b∧w.cell? ⟨g,2,none⟩=some c:=by
 simp[World.cell?,h]
structure ph (ts:List TN) (f nx:Nat) (a:Option Addr) (n c A B Wk:Nat) (w:World) (e:Ending) (w':World):Prop where
 ex:∃ ka kn kc va vn vc oa on oc ya yc css,e=.returned (.agg (Zs (rd ts f nx).1.leaf (rd ts f nx).1.page ka kn kc va vn vc oa on oc ya (rd ts f nx).1.kids.length yc))∧bz w' A B (fun b=>w.heap.size<=b∧b<w'.heap.size) (rd ts f nx).1 ka kn kc va vn vc oa on oc ya yc css
 wk:w'.heap[Wk]?=some (.cells #[.slice a n c,.int .i64 (rd ts f nx).2.1,.bool (rd ts f nx).2.2] 95)
 fr:Fr (fun g=>g=Wk) w w'
theorem wv (ts:List TN) (f nx:Nat) (a:Option Addr) (n c A B Wk:Nat) (w:World) (Z:B<=w.heap.size) (E:nx=ts.length) (aa:ts.length<=1000) (F:ts.length=n) (ab:B<=Wk) (s:w.heap[Wk]?=some (.cells #[.slice a n c,.int .i64 nx,.bool false] 95)) :
  Calls prog 40 #[.pointer (some ⟨Wk,0,none⟩)] w fun G H=>ph ts (f+1) nx a n c A B Wk w G H:=by
 have j:Hid (rd ts (f+1) nx=(br,nx,true)):=by show _=_;unfold rd;rw[if_neg (by omega)]
 have I:=Za s;have J:nx=n:=by omega
 subst J;clear E F;have k:Below w.heap.size w (w.alloc (.cells (Z0 false 0) 55)):=Zb _ _;have l:=DS w (.cells (Z0 false 0) 55);have m:=(k.block Wk I).trans s;have o:(w.alloc (.cells (Z0 false 0) 55)).heap.size=w.heap.size+1:=by simp
 obtain⟨N,K⟩:=Zn w.heap.size;rw[K] at l o;obtain⟨t,u,x⟩:=iC m;go_enter func40,ntmps40;go_wp2_with fail
 go_quiet (fail)
 have b:Below w.heap.size w ((w.alloc (.cells (Z0 false 0) 55)).drewN nq):=k.trans ⟨rfl,rfl,rfl,DU _,fun _ _=>rfl⟩;have y:((w.alloc (.cells (Z0 false 0) 55)).drewN nq).heap[N]?=some (.cells (Z0 false 0) 55):=l;have h:((w.alloc (.cells (Z0 false 0) 55)).drewN nq).heap[Wk]?=some (.cells #[.slice a nx c,.int .i64 nx,.bool false] 95):=m;have z:((w.alloc (.cells (Z0 false 0) 55)).drewN nq).heap.size=N+1:=o;generalize (w.alloc (.cells (Z0 false 0) 55)).drewN nq=g at b y h z ⊢;clear t u x k l m o;obtain⟨t,u,x⟩:=iC h;have ac:=ar h;have L:=aj h 2 (.bool true);have d:=af g Wk 2 (.bool true);have p:=(d.block N (by omega) (by omega)).trans y;obtain⟨ad,ae,ag,ah,ai,ak⟩:=aS p;have al:=ar p;have M:=aV p (.bool true) (.int .i64 0) (.slice none 0 0) (.slice none 0 0) (.slice none 0 0) (.slice none 0 0);have e:=bk (g.setCell ⟨Wk,2,none⟩ (.bool true)) N (.bool true) (.int .i64 0) (.slice none 0 0) (.slice none 0 0) (.slice none 0 0) (.slice none 0 0);have am:(g.setCell ⟨Wk,2,none⟩ (.bool true)).heap.size=N+1:=by simp[World.setCell,z]
 have O:=(e.block Wk (by omega) (by omega)).trans L
 have P:Fr (fun Q=>Q=Wk) w (bg (g.setCell ⟨Wk,2,none⟩ (.bool true)) N (.bool true) (.int .i64 0) (.slice none 0 0) (.slice none 0 0) (.slice none 0 0) (.slice none 0 0)) :=
  ⟨e.os.trans (d.os.trans b.os),e.tape.trans (d.tape.trans b.tape),e.output.trans (d.output.trans b.output),DX b.size (DX d.size e.size),fun i q R=>(e.block i (by omega) (by omega)).trans ((d.block i (by omega) R).trans (b.block i q))⟩
 go_wp2_with fail
 show bodyPost _ _ _ _ _ (bg (g.setCell ⟨Wk,2,none⟩ (.bool true)) N (.bool true) (.int .i64 0) (.slice none 0 0) (.slice none 0 0) (.slice none 0 0) (.slice none 0 0));obtain⟨S,T,U,V,p4,W⟩:=aS M;refine bodyPost_ret (v:=.agg (Z0 true 0)) (by simp[results,results40,go_sem,S,T,U,V,p4,W]) rfl ?_;have C:∀ (w:World),aP w A B none 0 0 []:=fun w=>⟨rfl,DU _,D0 _,fun D X=>by omega,fun r=>by omega⟩;have Y:∀ (w:World),bf w A B none 0 0 []:=fun w=>⟨rfl,DU _,D0 _,fun D X=>by omega,fun r=>by omega⟩;refine⟨⟨none,0,0,none,0,0,none,0,0,none,0,fun _=>[],?_,?_⟩,?_,P⟩;·rw[j.out];rfl
 ·rw[j.out];exact⟨by unfold ga br;simp,C _,C _,Y _,⟨DU _,D0 _⟩,fun r=>by simp[br] at r,fun D i q=>by simp[br] at q⟩
 ·rw[j.out];exact O
theorem uE (ts:List TN) (f nx:Nat) (a:Option Addr) (n c A B Wk:Nat) (w:World) (bi:B<=w.heap.size) (S:aw w A B a n c ts) (ap:nx<ts.length) (bj:ts.length<=1000) (T:(ts.getD nx dT).leaf=true) (bl:B<=Wk) (aq:w.heap[Wk]?=some (.cells #[.slice a n c,.int .i64 nx,.bool false] 95)) :
  Calls prog 40 #[.pointer (some ⟨Wk,0,none⟩)] w fun aQ k=>ph ts (f+1) nx a n c A B Wk w aQ k:=by
 have y:Hid (rd ts (f+1) nx=(⟨true,(ts.getD nx dT).page,(ts.getD nx dT).keys,(ts.getD nx dT).vals,(ts.getD nx dT).over,[]⟩,nx+1,false)):=by show _=_;unfold rd;rw[if_pos ap,if_pos T]
 have aR:=Za aq;have aT:=S.1;obtain⟨b,d,rfl,bm,e,g,h,va,vn,vc,oa,on,oc,E,F,G,U⟩:=S.at (i:=nx) (by omega);have au:nx<n:=by omega
 have bn:n<=1000:=by omega
 obtain⟨V,av⟩:∃ V,V=ts.getD nx dT:=⟨_,rfl⟩;rw[<-av] at y U T;have aU:=hidI U;obtain⟨W,X,ax,ay,az,aA,aB,Y,Z,aa,aC⟩:=U;rw[T] at W;clear ap aT S av Y Z aa aC;generalize V.page=pg at X aB y;have l:Below w.heap.size w (w.alloc (.cells (Z0 false 0) 55)):=Zb _ _;have ab:=DS w (.cells (Z0 false 0) 55);have ac:(w.alloc (.cells (Z0 false 0) 55)).heap.size=w.heap.size+1:=by simp
 obtain⟨N,aW⟩:=Zn w.heap.size;rw[aW] at ab ac;have ad:=(l.block Wk aR).trans aq;have s:b<w.heap.size:=by omega
 have aD:=(l.cell (p:=⟨b,d+nx*6,none⟩) s).trans W;have aE:=(l.cell (p:=⟨b,d+nx*6+1,none⟩) s).trans X;have aF:=(l.cell (p:=⟨b,d+nx*6+2,none⟩) s).trans ax;have aG:=(l.cell (p:=⟨b,d+nx*6+3,none⟩) s).trans ay;have aH:=(l.cell (p:=⟨b,d+nx*6+4,none⟩) s).trans az;have aI:=(l.cell (p:=⟨b,d+nx*6+5,none⟩) s).trans aA;clear W X ax ay az aA;obtain⟨z,C,D⟩:=iC ad;go_enter func40,ntmps40;go_wp2_with fail
 go_quiet (fail)
 have t:Below w.heap.size w ((w.alloc (.cells (Z0 false 0) 55)).drewN nq):=l.trans ⟨rfl,rfl,rfl,DU _,fun _ _=>rfl⟩;have aJ:((w.alloc (.cells (Z0 false 0) 55)).drewN nq).heap[N]?=some (.cells (Z0 false 0) 55):=ab;have ae:((w.alloc (.cells (Z0 false 0) 55)).drewN nq).heap[Wk]?=some (.cells #[.slice (some ⟨b,d,none⟩) n c,.int .i64 nx,.bool false] 95):=ad;have ag:((w.alloc (.cells (Z0 false 0) 55)).drewN nq).heap.size=N+1:=ac;have aX:((w.alloc (.cells (Z0 false 0) 55)).drewN nq).cell? ⟨b,d+nx*6,none⟩=_:=aD;have aY:((w.alloc (.cells (Z0 false 0) 55)).drewN nq).cell? ⟨b,d+nx*6+1,none⟩=_:=aE;have aZ:((w.alloc (.cells (Z0 false 0) 55)).drewN nq).cell? ⟨b,d+nx*6+2,none⟩=_:=aF;have a0:((w.alloc (.cells (Z0 false 0) 55)).drewN nq).cell? ⟨b,d+nx*6+3,none⟩=_:=aG;have a1:((w.alloc (.cells (Z0 false 0) 55)).drewN nq).cell? ⟨b,d+nx*6+4,none⟩=_:=aH;have a2:((w.alloc (.cells (Z0 false 0) 55)).drewN nq).cell? ⟨b,d+nx*6+5,none⟩=_:=aI;generalize (w.alloc (.cells (Z0 false 0) 55)).drewN nq=u at t aJ ae ag aX aY aZ a0 a1 a2 ⊢;clear z C D l ab ad ac aD aE aF aG aH aI;obtain⟨z,C,D⟩:=iC ae;have bo:b<u.heap.size:=by omega
 have a3:Wk<u.heap.size:=by omega
 go_upto_region 4 with fail
 go_cut [3] (fun a4 ah=>a4=.pointer (some ⟨N+1,0,none⟩)∧ah.heap[N+1]?=some (.cells (Zs true pg e g h va vn vc oa on oc E F G) 100)∧Below u.heap.size u ah∧ah.heap.size=N+2)
 case first =>
  go_region_held3 (fun k=>k.cell? ⟨Wk,0,none⟩=some (.slice (some ⟨b,d,none⟩) n c)∧k.cell? ⟨Wk,1,none⟩=some (.int .i64 nx)∧k.cell? ⟨b,d+nx*6,none⟩=some (.bool true)∧k.cell? ⟨b,d+nx*6+1,none⟩=some (.int .i64 pg)∧k.cell? ⟨b,d+nx*6+2,none⟩=some (.slice e g h)∧k.cell? ⟨b,d+nx*6+3,none⟩=some (.slice va vn vc)∧k.cell? ⟨b,d+nx*6+4,none⟩=some (.slice oa on oc)∧k.cell? ⟨b,d+nx*6+5,none⟩=some (.slice E F G)) (go_keep) (fail)
  have j:=Zb u (.cells (Zs true pg e g h va vn vc oa on oc E F G) 100);have aK:=DS u (.cells (Zs true pg e g h va vn vc oa on oc E F G) 100);rw[ag] at aK;go_wp2_with fail
  go_meet
  exact⟨rfl,aK,j.drew,by simp[ag]⟩
 case rest =>
  obtain⟨rfl,aL,q,a5⟩:=hcut;have ai:=(q.block Wk a3).trans ae;have a6:=(q.block N (by omega)).trans aJ;clear z C D;obtain⟨z,C,D⟩:=iC ai;obtain⟨H,I,J,K,L,M⟩:=aS aL;have a7:=ar ai;have ak:=aj ai 1 (.int .i64 (nx+1:Nat));have m:=af wc Wk 1 (.int .i64 (nx+1:Nat));have O:(wc.setCell ⟨Wk,1,none⟩ (.int .i64 (nx+1:Nat))).heap.size=N+2:=(by simp[World.setCell,a5]);have al:=(m.block N (by omega) (by omega)).trans a6;have P:=(m.block (N+1) (by omega) (by omega)).trans aL;have bp:Wk<wc.heap.size:=(by omega);have aM:(↑(nx+1:Nat):Int)=↑nx+1:=(by omega);rw[aM] at ak m O al P;clear aM;go_upto_region 6 with fail
  generalize wc.setCell ⟨Wk,1,none⟩ (.int .i64 (↑nx+1))=Q at ak m O al P ⊢;clear H I J K L M z C D a7;obtain⟨H,I,J,K,L,M⟩:=aS P;have j:=Zb Q (.cells (Zs true pg e g h va vn vc oa on oc none 0 0) 55);have am:=DS Q (.cells (Zs true pg e g h va vn vc oa on oc none 0 0) 55);have a8:(Q.alloc (.cells (Zs true pg e g h va vn vc oa on oc none 0 0) 55)).heap.size=N+3:=(by simp[O]);have R:=(j.block N (by omega)).trans al;have aN:=(j.block (N+1) (by omega)).trans P;have aO:=(j.block Wk (by omega)).trans ak;rw[O] at am;go_upto_region 7 with fail
  generalize Q.alloc (.cells (Zs true pg e g h va vn vc oa on oc none 0 0) 55)=r at j am a8 R aN aO ⊢;clear H I J K L M;obtain⟨H,I,J,K,L,M⟩:=aS aN;obtain⟨bq,br,bs,bt,bu,bv⟩:=aS am;obtain⟨bw,bx,bz,bA,bB,bC⟩:=aS R;have bD:=ar R;have a9:=aV R (.bool true) (.int .i64 pg) (.slice e g h) (.slice va vn vc) (.slice oa on oc) (.slice none 0 0);have x:=bk r N (.bool true) (.int .i64 pg) (.slice e g h) (.slice va vn vc) (.slice oa on oc) (.slice none 0 0);have a':=(x.block Wk (by omega) (by omega)).trans aO;have bE:N<r.heap.size:=(by omega);have bF:N+1<r.heap.size:=(by omega);have bG:N+2<r.heap.size:=by omega
  have aP:Fr (fun ba=>ba=Wk) w (bg r N (.bool true) (.int .i64 pg) (.slice e g h) (.slice va vn vc) (.slice oa on oc) (.slice none 0 0)) :=
   ⟨x.os.trans (j.os.trans (m.os.trans (q.os.trans t.os))),x.tape.trans (j.tape.trans (m.tape.trans (q.tape.trans t.tape))),x.output.trans (j.output.trans (m.output.trans (q.output.trans t.output))),DX t.size (DX q.size (DX m.size (DX j.size x.size))),fun o an au=>(x.block o (by omega) (by omega)).trans ((j.block o (by omega)).trans ((m.block o (by omega) au).trans ((q.block o (by omega)).trans (t.block o an))))⟩
  go_wp2_with fail
  show bodyPost _ _ _ _ _ (bg r N (.bool true) (.int .i64 pg) (.slice e g h) (.slice va vn vc) (.slice oa on oc) (.slice none 0 0));obtain⟨bb,bc,bd,be,p4,bf⟩:=aS a9;refine bodyPost_ret (v:=.agg (Zs true pg e g h va vn vc oa on oc none 0 0)) (by simp[results,results40,go_sem,bb,bc,bd,be,p4,bf]) rfl ?_;have ao:eS A B w (bg r N (.bool true) (.int .i64 pg) (.slice e g h) (.slice va vn vc) (.slice oa on oc) (.slice none 0 0)):=fun o bH bI=>aP.block o (by omega) (by omega);obtain⟨_,_,_,_,_,_,_,Y,Z,aa,aC⟩:=aU.out;refine⟨⟨e,g,h,va,vn,vc,oa,on,oc,none,0,fun _=>[],?_,?_⟩,?_,aP⟩;·rw[y.out];rfl
  ·rw[y.out];exact⟨aB,Y.keep ao,Z.keep ao,aa.keep ao,⟨DU _,D0 _⟩,fun bh=>by simp at bh,fun bJ o an=>by simp at an⟩
  ·rw[y.out];have:(↑(nx+1:Nat):Int)=↑nx+1:=(by omega);simp only[this];exact a'
def az (css:Nat->List Value) (m:Nat):List Value:=(List.range m).flatMap css
theorem dv (css:Nat->List Value) (m:Nat):az css (m+1)=az css m++css m:=by
 simp[az,List.range_succ]
theorem cZ {cs2:Nat->List Value} {m:Nat} (h:∀ a,a<m->cs2 a=css a):az cs2 m=az css m:=by
 induction m with
 | zero=>rfl
 | succ m b=>rw[dv,dv,b (fun a c=>h a (by omega)),h m (by omega)]
theorem cu {m:Nat} (h:∀ a,a<m->(css a).length=6):(az css m).length=m*6∧∀ a b,a<m->b<6->(az css m)[a*6+b]?=(css a)[b]?:=by
 induction m with
 | zero=>exact⟨rfl,fun a b c=>by omega⟩
 |succ m e=>
  obtain⟨d,f⟩:=e (fun a c=>h a (by omega));rw[dv];refine⟨by rw[DV,d,h m (by omega)];omega,fun a b c g=>?_⟩;by_cases i:a=m;·subst i;rw[Ea (by omega),d,show a*6+b - a*6=b by omega]
  ·rw[Ec (by omega)];exact f a b (by omega) g
structure qJ (w wr:World) (A B Wk N:Nat) (wcs xcs:Array Value) (pg:Int) (va:Option Addr) (vn vc:Nat) (oa:Option Addr) (on oc:Nat) (zs:List T) (ra:Option Addr) (rc:Nat) (css:Nat->List Value):Prop where
 sz:w.heap.size=N
 wk:wr.heap[Wk]?=some (.cells wcs 95)
 rb:wr.heap[N]?=some (.cells (Z0 false 0) 55)
 xb:wr.heap[N+1]?=some (.cells xcs 100)
 nb:wr.heap[N+2]?=some (.cells (Zs false pg (some ⟨N+3,0,none⟩) 0 0 va vn vc oa on oc ra zs.length rc) 55)
 row:wr.ownsRow (N+4) 55 6 (.slice ra zs.length rc) zs.length (az css zs.length)
 kid:∀ i z,zs[i]?=some z->(css i).length=6∧cN wr A B (fun b=>N+3<=b∧b<wr.heap.size∧∀ g,(Value.slice ra zs.length rc).ownBlock=some g->b≠g) z (css i)
 fr:Fr (fun g=>g=Wk) w wr
 wlt:Wk<N
 blk:B<=Wk
 lt:N+3<wr.heap.size
theorem qJ.call {c:World} {f:Array Value} (h:qJ w wr A B Wk N wcs xcs pg va vn vc oa on oc zs ra rc css) (a:Fr (fun d=>d=Wk) wr c) (k:c.heap[Wk]?=some (.cells f 95)):qJ w c A B Wk N f xcs pg va vn vc oa on oc zs ra rc css:=by
 have l:=h.lt;have o:=h.wlt;have p:=h.blk;refine⟨h.sz,k,(a.block N (by omega) (by omega)).trans h.rb,(a.block (N+1) (by omega) (by omega)).trans h.xb,(a.block (N+2) (by omega) (by omega)).trans h.nb,am h.row a (fun d m q=>?_),fun g e i=>⟨(h.kid g e i).1,?_⟩,h.fr.trans a,h.wlt,h.blk,DY l a.size⟩;·have:=(h.row.lt d m).1;omega
 ·refine cN.keep (fun n r s=>a.block n (by omega) (by omega)) (fun j b=>a.block j b.2.1 (by omega)) (fun j b=>⟨b.1,DY b.2.1 a.size,b.2.2⟩) (DU _) (DU _) e _ (h.kid g e i).2
theorem qJ.below {a:World} (h:qJ w wr A B Wk N wcs xcs pg va vn vc oa on oc zs ra rc css) (b:Below wr.heap.size wr a):qJ w a A B Wk N wcs xcs pg va vn vc oa on oc zs ra rc css :=
 h.call (Fr.of_below b) ((b.block Wk (by have:=h.lt;have:=h.wlt;omega)).trans h.wk)
theorem qJ.push {w3 w4:World} {t:T} {r:List Value} {v':Value} (h:qJ w w3 A B Wk N wcs xcs pg va vn vc oa on oc zs ra rc css) (F:r.length=6) (G:cN w3 A B (fun c=>N+3<=c∧c<w3.heap.size∧∀ a,(Value.slice ra zs.length rc).ownBlock=some a->c≠a) t r)
  (x:w4.ownsRow (N+4) 55 6 v' (zs.length+1) (az css zs.length++r)) (l:w3.grownBy w4 (Value.slice ra zs.length rc).ownBlock) (H:v'.ownBlock=(Value.slice ra zs.length rc).ownBlock∨∀ a,v'.ownBlock=some a->w3.heap.size<=a) :
  ∃ d e,v'=.slice d (zs.length+1) e∧qJ w (w4.setCell ⟨N+2,5,none⟩ v') A B Wk N wcs xcs pg va vn vc oa on oc (zs++[t]) d e (fun i=>if i=zs.length then r else css i):=by
 obtain⟨d,e,rfl⟩:=ao x;refine⟨d,e,rfl,?_⟩;have P:=h.lt;have Q:=h.wlt;have R:=h.blk;have I:=fun a f=>(h.row.lt a f);have y:(zs++[t]).length=zs.length+1:=by simp
 have C:∀ b,b<w3.heap.size->(∀ a,(Value.slice ra zs.length rc).ownBlock=some a->b≠a)->w4.heap[b]?=w3.heap[b]?:=fun b m s=>l.block b m (fun k=>s b k.symm rfl);have n:∀ b,b<N+4->(∀ a,(Value.slice ra zs.length rc).ownBlock=some a->b≠a):=fun b m a f=>by have:=(I a f).1;omega
 have u:=af w4 (N+2) 5 (.slice d (zs.length+1) e);have S:=l.size;have o:∀ b,b<w3.heap.size->b≠N+2->(∀ a,(Value.slice ra zs.length rc).ownBlock=some a->b≠a)->(w4.setCell ⟨N+2,5,none⟩ (.slice d (zs.length+1) e)).heap[b]?=w3.heap[b]?:=fun b m s J=>(u.block b (by omega) s).trans (C b m J);have D:(w4.setCell ⟨N+2,5,none⟩ (.slice d (zs.length+1) e)).heap.size=w4.heap.size:=by simp[World.setCell]
 have K:∀ a,(Value.slice d (zs.length+1) e).ownBlock=some a->∀ c,c<w3.heap.size->(∀ a,(Value.slice ra zs.length rc).ownBlock=some a->c≠a)->c≠a:=by
  intro a f c U L;rcases H with k | k;·rw[k] at f;exact L a f
  ·have:=k a f;omega
 have M:eS A B w3 (w4.setCell ⟨N+2,5,none⟩ (.slice d (zs.length+1) e)):=fun b V W=>o b (by omega) (by omega) (n b (by omega));have E:∀ j v,cN w3 A B (fun c=>N+3<=c∧c<w3.heap.size∧∀ a,(Value.slice ra zs.length rc).ownBlock=some a->c≠a) j v->cN (w4.setCell ⟨N+2,5,none⟩ (.slice d (zs.length+1) e)) A B (fun c=>N+3<=c∧c<(w4.setCell ⟨N+2,5,none⟩ (.slice d (zs.length+1) e)).heap.size∧∀ a,(Value.slice d (zs++[t]).length e).ownBlock=some a->c≠a) j v:=fun j v g =>cN.keep M (fun c p=>o c p.2.1 (by omega) p.2.2) (fun c p=>⟨p.1,by rw[D];omega,fun a f=>K a (by rw[y] at f;exact f) c p.2.1 p.2.2⟩) (DU _) (DU _) j v g;refine⟨h.sz,(o Wk (by omega) (by omega) (n Wk (by omega))).trans h.wk,(o N (by omega) (by omega) (n N (by omega))).trans h.rb,(o (N+1) (by omega) (by omega) (n (N+1) (by omega))).trans h.xb,?_,?_,fun i j g=>?_,?_,h.wlt,h.blk,by rw[D];omega⟩;·have:=aj ((C (N+2) (by omega) (n (N+2) (by omega))).trans h.nb) 5 (.slice d (zs.length+1) e);rw[y];simpa using this
 ·rw[y,dv,if_pos rfl,cZ (css:=css) (fun i z=>if_neg (by omega))];exact zN x (fun a f k=>by have:=(x.lt a f).1;have X:N+2=a:=k;omega) _
 ·by_cases z:i=zs.length;·subst z;rw[Ea (DU _)] at g;simp at g;subst g;simp only[if_true];exact⟨F,E t r G⟩
  ·have O:i<zs.length:=(by have:=Zc g;simp at this;omega);rw[Ec O] at g;simp only[z,En];exact⟨(h.kid i j g).1,E j _ (h.kid i j g).2⟩
 ·have q:=h.fr;exact⟨u.os.trans (l.os.trans q.os),u.tape.trans (l.tape.trans q.tape),u.output.trans (l.output.trans q.output),DX q.size (DX l.size u.size),fun b m s=>(o b (by have:=q.size;omega) (by have:=h.sz;omega) (n b (by have:=h.sz;omega))).trans (q.block b m s)⟩
theorem qJ.node {f:List ByteArray} {g:List Int} (h:qJ w wr A B Wk N wcs xcs pg va vn vc oa on oc zs ra rc css) (n:ga pg) (o:aP wr A B va vn vc f) (p:bf wr A B oa on oc g) (z:zs.length<=maxLen) :
  bz wr A B (fun d=>N+3<=d∧d<wr.heap.size) ⟨false,pg,[],f,g,zs⟩ (some ⟨N+3,0,none⟩) 0 0 va vn vc oa on oc ra rc css:=by
 have q:=(cu (css:=css) (m:=zs.length) (fun a c=>(h.kid a zs[a] (DQ c)).1)).2;have C:=h.sz;refine⟨n,⟨rfl,DU _,D0 _,fun a c=>by omega,fun h=>by omega⟩,o,p,?_,fun i=>?_,fun a j D c=>?_⟩
 ·rcases h.row.2 with ⟨b,r⟩ | ⟨e,s,t,b,_,_,u,v,_⟩;·simp only[Value.slice.injEq] at b;obtain⟨_,E,F⟩:=b;exact⟨by show zs.length<=rc;omega,by omega⟩
  ·simp only[Value.slice.injEq] at b;obtain⟨_,_,rfl⟩:=b;exact⟨u,v⟩
 ·have i:0<zs.length:=i;rcases h.row.2 with ⟨b,r⟩ | ⟨e,s,t,b,G,H,_⟩;·omega
  ·simp only[Value.slice.injEq] at b;obtain⟨rfl,_,rfl⟩:=b;have x:=h.row.lt e rfl;refine⟨e,0,rfl,⟨by omega,x.2⟩,fun a c k y=>?_⟩;have c:a<zs.length:=c;rw[Ed,h.row.cellAt (a*6+k) (by omega)];exact q a k c y
 ·exact cN.keep (eS.refl _ _ _) (fun _ _=>rfl) (fun d l=>⟨l.1,l.2.1⟩) (DU _) (DU _) j _ (h.kid a j c).2
theorem bz.weaken {w':World} {P Q:Nat->Prop} {t:T} {f:Option Addr} {g i:Nat} {j:Option Addr} {k:Nat} (h:bz w A B P t f g i va vn vc oa on oc j k css) (c:eS A B w w') (l:∀ b,P b->w'.heap[b]?=w.heap[b]?) (m:∀ b,P b->Q b):bz w' A B Q t f g i va vn vc oa on oc j k css :=
 ⟨h.page,h.keys.keep c,h.vals.keep c,h.over.keep c,h.cap,fun r=>by
  obtain⟨b,n,s,o,u⟩:=h.cell r
  exact⟨b,n,s,m b o,fun d e p v=>(DZ (w:=w) (a:=⟨b,n+d*6+p,none⟩) (l b o)).trans (u d e p v)⟩,fun d q x e=>cN.keep c l m (DU _) (DU _) q _ (h.kid d q x e)⟩
theorem qJ.fin {ts:List TN} {f nx:Nat} {a:Option Addr} {n c:Nat} {nj:Nat} {i:Bool} {j:List ByteArray} {k:List Int} (h:qJ w wr A B Wk N #[.slice a n c,.int .i64 nj,.bool i] xcs pg va vn vc oa on oc zs ra rc css) (m:ga pg) (o:aP wr A B va vn vc j) (p:bf wr A B oa on oc k) (q:zs.length<=maxLen)
  (e:rd ts f nx=(⟨false,pg,[],j,k,zs⟩,nj,i)) :
  ph ts f nx a n c A B Wk w (.returned (.agg (Zs false pg (some ⟨N+3,0,none⟩) 0 0 va vn vc oa on oc ra zs.length rc))) (bg wr N (.bool false) (.int .i64 pg) (.slice (some ⟨N+3,0,none⟩) 0 0) (.slice va vn vc) (.slice oa on oc) (.slice ra zs.length rc)):=by
 have b:=bk wr N (.bool false) (.int .i64 pg) (.slice (some ⟨N+3,0,none⟩) 0 0) (.slice va vn vc) (.slice oa on oc) (.slice ra zs.length rc);have u:=h.lt;have v:=h.wlt;have x:=h.blk;have r:=h.node m o p q;have y:=h.sz;refine⟨⟨some ⟨N+3,0,none⟩,0,0,va,vn,vc,oa,on,oc,ra,rc,css,?_,?_⟩,?_,?_⟩;·rw[e]
 ·rw[e];exact r.weaken (fun d z C=>b.block d (by omega) (by omega)) (fun l g=>b.block l g.2 (by omega)) (fun l g=>⟨by omega,DY g.2 b.size⟩)
 ·rw[e];exact (b.block Wk (by omega) (by omega)).trans h.wk
 ·exact⟨b.os.trans h.fr.os,b.tape.trans h.fr.tape,b.output.trans h.fr.output,DX h.fr.size b.size,fun d s t=>(b.block d (by omega) (by omega)).trans (h.fr.block d s t)⟩
end Go.Proofs.YtgcedpmagmmikaaGreat
