import Derived.Test.YtggmghkcdfjdoaaGreatHTks
import Derived.Test.YtggmghkcdfjdoaaGreatHTga
namespace Go.Proofs.YtggmghkcdfjdoaaGreat
open Go.RowKit Tryz
set_option linter.unusedVariables false
set_option linter.unusedSimpArgs false
set_option maxRecDepth 100000
variable {f j nj nx:Nat} {ks:List Int} {ts:List TN} {zs:List T}
theorem fv (w:World) (a b c d e f:Value) (t:TypeId):∀ j h,[a,b,c,d,e,f][j]?=some h->(w.alloc (.cells #[a,b,c,d,e,f] t)).cell? ((⟨w.heap.size,0,none⟩:Addr).add j)=some h:=by
 intro j h g
 match j,g with
 | 0,g=>simpa[Addr.add] using g
 | 1,g=>simpa[Addr.add] using g
 | 2,g=>simpa[Addr.add] using g
 | 3,g=>simpa[Addr.add] using g
 | 4,g=>simpa[Addr.add] using g
 | 5,g=>simpa[Addr.add] using g
def zX (ts:List TN) (f:Nat) (ks:List Int) (nx j:Nat) (zs:List T) (nj:Nat) (bad:Bool):Prop :=
 zs.length=j∧(nx<=nj∧nj<=ts.length)∧(j+nx<=nj+(if bad then 1 else 0))∧(bad=false->fm (rd ts f) ks nx=(zs++(fm (rd ts f) (ks.drop j) nj).1,(fm (rd ts f) (ks.drop j) nj).2.1,(fm (rd ts f) (ks.drop j) nj).2.2))∧(bad=true->fm (rd ts f) ks nx=(zs,nj,true))
theorem zX.start (ts:List TN) (f:Nat) (ks:List Int) (nx:Nat) (h:nx<=ts.length):zX ts f ks nx 0 [] nx false:=⟨rfl,⟨Ek _,h⟩,by simp,fun _=>by simp,fun h=>by cases h⟩
theorem rm (h:j<ks.length):ks.drop j=ks.getD j 0::ks.drop (j+1):=by
 rw[List.drop_eq_getElem_cons h];simp[List.getD,h]
theorem uF (a:Nat->T × Nat × Bool) (k:Int) (ks:List Int) (nx:Nat):fm a (k::ks) nx=if k=nx then
   if (a nx).2.2 then ([(a nx).1],(a nx).2.1,true)
   else ((a nx).1::(fm a ks (a nx).2.1).1,(fm a ks (a nx).2.1).2.1,(fm a ks (a nx).2.1).2.2)
  else ([],nx,true):=rfl
theorem zX.step (h:zX ts f ks nx j zs nj false) (d:j<ks.length) (e:ks.getD j 0=nj):zX ts f ks nx (j+1) (zs++[(rd ts f nj).1]) (rd ts f nj).2.1 (rd ts f nj).2.2:=by
 obtain⟨g,i,k,a,_⟩:=h;have c:=uD ts f nj i.2;have a:=a rfl;rw[rm d,uF,if_pos e] at a;refine⟨by simp[g],⟨by omega,c.2.1⟩,?_,fun b=>?_,fun b=>?_⟩
 ·simp only[EC,EO] at k;cases l:(rd ts f nj).2.2 with
  | false=>have:=c.2.2 l;simp;omega
  | true=>simp;omega
 ·rw[b] at a;simpa using a
 ·rw[b] at a;simpa using a
theorem zX.stop (h:zX ts f ks nx j zs nj false) (b:j<ks.length) (c:¬ ks.getD j 0=nj):fm (rd ts f) ks nx=(zs,nj,true):=by
 have a:=h.2.2.2.1 rfl;rw[rm b,uF,if_neg c] at a;simpa using a
theorem zX.done {a:Bool} (h:zX ts f ks nx j zs nj a) (c:j<ks.length->a=true) (e:j<=ks.length):fm (rd ts f) ks nx=(zs,nj,a):=by
 cases a with
 | true=>exact h.2.2.2.2 rfl
 |false=>have g:¬ j<ks.length:=fun d=>(by cases c d);have b:=h.2.2.2.1 rfl;rw[List.drop_eq_nil_of_le (by omega)] at b;simpa[fm] using b
def xI (ts:List TN) (f:Nat) (a:Option Addr) (n c A B Wk:Nat):Prop:=∀ (nx:Nat) (w:World),nx<=ts.length->ts.length - nx<f->B<=w.heap.size->aw w A B a n c ts->B<=Wk->w.heap[Wk]?=some (.cells #[.slice a n c,.int .i64 nx,.bool false] 97) ->
  Calls prog 38 #[.pointer (some ⟨Wk,0,none⟩)] w fun e w'=>ph ts f nx a n c A B Wk w e w'
set_option maxHeartbeats 4000000 in
theorem sL (ts:List TN) (f nx:Nat) (a:Option Addr) (n c A B d:Nat) (cy:xI ts f a n c A B d) (w:World) (dS:B<=w.heap.size) (bz:aw w A B a n c ts) (bZ:nx<ts.length) (cz:ts.length - nx<f+1) (cA:ts.length<=1000) (b0:(ts.getD nx dT).leaf=false) (cB:B<=d) (bA:w.heap[d]?=some (.cells #[.slice a n c,.int .i64 nx,.bool false] 97)) :
  Calls prog 38 #[.pointer (some ⟨d,0,none⟩)] w fun aD ae=>ph ts (f+1) nx a n c A B d w aD ae:=by
 have b1:rd ts (f+1) nx=if (ts.getD nx dT).kids.length=0 then (⟨false,(ts.getD nx dT).page,[],(ts.getD nx dT).vals,(ts.getD nx dT).over,[]⟩,nx+1,true) else (⟨false,(ts.getD nx dT).page,[],(ts.getD nx dT).vals,(ts.getD nx dT).over,(fm (rd ts f) (ts.getD nx dT).kids (nx+1)).1⟩,(fm (rd ts f) (ts.getD nx dT).kids (nx+1)).2.1,(fm (rd ts f) (ts.getD nx dT).kids (nx+1)).2.2):=by
  conv=>lhs;unfold rd
  rw[if_pos bZ,if_neg (by rw[b0];simp)]
 have b2:=Za bA;have cC:=bz.1;have dq:=hidI bz;have dr:=hidI cy;obtain⟨e,r,rfl,dU,X,Y,Z,k,l,m,o,on,q,aE,s,ag,b3⟩:=bz.at (i:=nx) (by omega);have dV:nx<n:=by omega
 have dW:n<=1000:=by omega
 have bB:Hid (nx<ts.length∧ts.length - nx<f+1∧ts.length<=1000∧ts.length=n):=⟨bZ,cz,cA,cC⟩;obtain⟨O,cD⟩:∃ O,O=ts.getD nx dT:=⟨_,rfl⟩;rw[<-cD] at b1 b3 b0;have b4:Hid _:=b1;have b5:=hidI b3;obtain⟨b6,b7,cE,cF,cG,cH,bC,ds,dt,du,bD⟩:=b3;rw[b0] at b6;have aN:=hidI bD.1;have dv:=Eo bD.2.1 bD.2.2.1;unfold maxLen at dv;clear bZ cC bz cD ds dt du bD b1 cy cz cA;obtain⟨g,b8⟩:∃ g,g=O.page:=⟨_,rfl⟩;rw[<-b8] at b7 bC;have cI:=hidI b8;clear b8;have aq:Below w.heap.size w (w.alloc (.cells (Z0 false 0) 57)):=Zb _ _;have b9:=Ej w (.cells (Z0 false 0) 57);have b':(w.alloc (.cells (Z0 false 0) 57)).heap.size=w.heap.size+1:=by simp
 obtain⟨b,cJ⟩:=Zn w.heap.size;rw[cJ] at b9 b';have ca:=(aq.block d b2).trans bA;have aO:e<w.heap.size:=by omega
 have cK:=(aq.cell (p:=⟨e,r+nx*6,none⟩) aO).trans b6;have cL:=(aq.cell (p:=⟨e,r+nx*6+1,none⟩) aO).trans b7;have cM:=(aq.cell (p:=⟨e,r+nx*6+2,none⟩) aO).trans cE;have cO:=(aq.cell (p:=⟨e,r+nx*6+3,none⟩) aO).trans cF;have cP:=(aq.cell (p:=⟨e,r+nx*6+4,none⟩) aO).trans cG;have cQ:=(aq.cell (p:=⟨e,r+nx*6+5,none⟩) aO).trans cH;clear b6 b7 cE cF cG cH;obtain⟨S,U,V⟩:=iC ca;go_enter func38,ntmps38;go_wp2_with fail
 go_quiet (fail)
 have cb:Below w.heap.size w ((w.alloc (.cells (Z0 false 0) 57)).drewN nq):=aq.trans ⟨rfl,rfl,rfl,Ek _,fun _ _=>rfl⟩;have ac:((w.alloc (.cells (Z0 false 0) 57)).drewN nq).heap[b]?=some (.cells (Z0 false 0) 57):=b9;have bE:((w.alloc (.cells (Z0 false 0) 57)).drewN nq).heap[d]?=some (.cells #[.slice (some ⟨e,r,none⟩) n c,.int .i64 nx,.bool false] 97):=ca;have cc:((w.alloc (.cells (Z0 false 0) 57)).drewN nq).heap.size=b+1:=b';have cR:((w.alloc (.cells (Z0 false 0) 57)).drewN nq).cell? ⟨e,r+nx*6,none⟩=_:=cK;have cS:((w.alloc (.cells (Z0 false 0) 57)).drewN nq).cell? ⟨e,r+nx*6+1,none⟩=_:=cL;have cT:((w.alloc (.cells (Z0 false 0) 57)).drewN nq).cell? ⟨e,r+nx*6+2,none⟩=_:=cM;have cU:((w.alloc (.cells (Z0 false 0) 57)).drewN nq).cell? ⟨e,r+nx*6+3,none⟩=_:=cO;have cV:((w.alloc (.cells (Z0 false 0) 57)).drewN nq).cell? ⟨e,r+nx*6+4,none⟩=_:=cP;have cW:((w.alloc (.cells (Z0 false 0) 57)).drewN nq).cell? ⟨e,r+nx*6+5,none⟩=_:=cQ;generalize (w.alloc (.cells (Z0 false 0) 57)).drewN nq=aQ at cb ac bE cc cR cS cT cU cV cW ⊢;clear S U V aq b9 ca b' cK cL cM cO cP cQ;obtain⟨S,U,V⟩:=iC bE;have dX:e<aQ.heap.size:=by omega
 have dw:d<aQ.heap.size:=by omega
 go_upto_region 4 with fail
 go_cut [3] (fun dx cd=>dx=.pointer (some ⟨b+1,0,none⟩)∧cd.heap[b+1]?=some (.cells (Zs false g X Y Z k l m o on q aE s ag) 44)∧Below aQ.heap.size aQ cd∧cd.heap.size=b+2)
 case first =>
  go_region_held3 (fun ae=>ae.cell? ⟨d,0,none⟩=some (.slice (some ⟨e,r,none⟩) n c)∧ae.cell? ⟨d,1,none⟩=some (.int .i64 nx)∧ae.cell? ⟨e,r+nx*6,none⟩=some (.bool false)∧ae.cell? ⟨e,r+nx*6+1,none⟩=some (.int .i64 g)∧ae.cell? ⟨e,r+nx*6+2,none⟩=some (.slice X Y Z)∧ae.cell? ⟨e,r+nx*6+3,none⟩=some (.slice k l m)∧ae.cell? ⟨e,r+nx*6+4,none⟩=some (.slice o on q)∧ae.cell? ⟨e,r+nx*6+5,none⟩=some (.slice aE s ag)) (go_keep) (fail)
  have u:=Zb aQ (.cells (Zs false g X Y Z k l m o on q aE s ag) 44);have bF:=Ej aQ (.cells (Zs false g X Y Z k l m o on q aE s ag) 44);rw[cc] at bF;go_wp2_with fail
  go_meet
  exact⟨rfl,bF,u.drew,by simp[cc]⟩
 case rest =>
  obtain⟨rfl,ce,bG,dy⟩:=hcut;have bH:=(bG.block d dw).trans bE;have a7:=(bG.block b (by omega)).trans ac;clear S U V cR cS cT cU cV cW;obtain⟨S,U,V⟩:=iC bH;obtain⟨ah,ai,al,am,an,ao⟩:=aS ce;have aR:=ar bH;have bI:=aj bH 1 (.int .i64 (nx+1:Nat));have aT:=af wc d 1 (.int .i64 (nx+1:Nat));have a8:(wc.setCell ⟨d,1,none⟩ (.int .i64 (nx+1:Nat))).heap.size=b+2:=(by simp[World.setCell,dy]);have ab:=(aT.block b (by omega) (by omega)).trans a7;have a9:=(aT.block (b+1) (by omega) (by omega)).trans ce;have cX:d<wc.heap.size:=(by omega);have cY:(↑(nx+1:Nat):Int)=↑nx+1:=(by omega);rw[cY] at bI aT a8 ab a9;clear cY;go_upto_region 6 with fail
  generalize wc.setCell ⟨d,1,none⟩ (.int .i64 (↑nx+1))=bJ at bI aT a8 ab a9 ⊢;clear ah ai al am an ao S U V aR;have cZ:=((Fr.of_below cb).trans (Fr.of_below bG)).trans aT;clear aT bG cb ce bH a7 ac bE;obtain⟨ah,ai,al,am,an,ao⟩:=aS a9;have u:=Zb bJ (.cells (Zs false g X Y Z k l m o on q none 0 0) 57);have aU:=Ej bJ (.cells (Zs false g X Y Z k l m o on q none 0 0) 57);have bK:(bJ.alloc (.cells (Zs false g X Y Z k l m o on q none 0 0) 57)).heap.size=b+3:=(by simp[a8]);have cf:=(u.block b (by omega)).trans ab;have cg:=(u.block (b+1) (by omega)).trans a9;have ch:=(u.block d (by omega)).trans bI;have aF:=cZ.trans (Fr.of_below u);rw[a8] at aU;go_upto_region 9 with fail
  generalize bJ.alloc (.cells (Zs false g X Y Z k l m o on q none 0 0) 57)=aW at aU bK cf cg ch aF ⊢;clear ah ai al am an ao u;obtain⟨a',ba,bb,bc,bd,aA⟩:=aS aU;have dz:=ar aU;have au:=af aW (b+2) 2 (.slice (some ⟨b+3,0,none⟩) 0 0);have u:=Zb (aW.setCell ⟨b+2,2,none⟩ (.slice (some ⟨b+3,0,none⟩) 0 0)) (.cells #[] 9);have dA:(aW.setCell ⟨b+2,2,none⟩ (.slice (some ⟨b+3,0,none⟩) 0 0)).heap.size=b+3:=(by simp[World.setCell,bK]);have ci:=(u.block (b+2) (by omega)).trans (aj aU 2 (.slice (some ⟨b+3,0,none⟩) 0 0));have cj:=(u.block b (by omega)).trans ((au.block b (by omega) (by omega)).trans cf);have be:=(u.block (b+1) (by omega)).trans ((au.block (b+1) (by omega) (by omega)).trans cg);have aX:=(u.block d (by omega)).trans ((au.block d (by omega) (by omega)).trans ch);have bL:((aW.setCell ⟨b+2,2,none⟩ (.slice (some ⟨b+3,0,none⟩) 0 0)).alloc (.cells #[] 9)).heap.size=b+4:=(by simp[World.setCell,bK]);have ck:Fr (fun W=>W=d) w ((aW.setCell ⟨b+2,2,none⟩ (.slice (some ⟨b+3,0,none⟩) 0 0)).alloc (.cells #[] 9)):=⟨u.os.trans (au.os.trans aF.os),u.tape.trans (au.tape.trans aF.tape),u.output.trans (au.output.trans aF.output),Eo aF.size (Eo au.size u.size),fun av dB aY=>(u.block av (by omega)).trans ((au.block av (by omega) (by omega)).trans (aF.block av dB aY))⟩;go_upto_region 10 with fail
  generalize ((aW.setCell ⟨b+2,2,none⟩ (.slice (some ⟨b+3,0,none⟩) 0 0)).alloc (.cells #[] 9))=aG at ci cj be aX bL ck ⊢;clear au u dA aU cf cg ch aF bK a' ba bb bc bd aA dz ab a9 bI cZ a8;obtain⟨S,U,V⟩:=iC aX;obtain⟨ah,ai,al,am,an,ao⟩:=aS be;have aR:=ar aX;have aZ:b+1<aG.heap.size:=(by omega);have c0:d<aG.heap.size:=(by omega);have c1:∀ a0,qJ w (aG.setCell ⟨d,2,none⟩ (.bool a0)) A B d b #[.slice (some ⟨e,r,none⟩) n c,.int .i64 (↑nx+1),.bool a0] (Zs false g X Y Z k l m o on q aE s ag) g k l m o on q [] none 0 (fun _=>[]):=fun a0=>(by have bM:=af aG d 2 (.bool a0);have dY:(aG.setCell ⟨d,2,none⟩ (.bool a0)).heap.size=b+4:=(by simp[World.setCell,bL]);exact⟨cJ,aj aX 2 (.bool a0),(bM.block b (by omega) (by omega)).trans cj,(bM.block (b+1) (by omega) (by omega)).trans be,(bM.block (b+2) (by omega) (by omega)).trans ci,World.ownsRow_nil _ _ _ _,fun ax dZ u=>by simp at u,ck.trans bM,by omega,cB,by omega⟩);have bN:Hid _:=c1;have c2:∀ a1,Fr (fun W=>W=d) w a1->aP a1 A B k l m O.vals∧bf a1 A B o on q O.over∧bf a1 A B aE s ag O.kids:=fun a1 bA=>(by have cl:eS A B w a1:=fun av aH a2=>bA.block av (by omega) (by omega);exact⟨b5.out.vals.keep cl,b5.out.over.keep cl,b5.out.kids.keep cl⟩);have aI:Hid _:=c2;clear c1 c2 ci cj ck;by_cases dC:s=0
  ·subst dC;have h:=bN.out true;have bO:Hid (rd ts (f+1) nx=(⟨false,g,[],O.vals,O.over,[]⟩,nx+1,true)):=(by show _=_;rw[b4.out,if_pos aN.out,cI.out]);go_upto_region 11 with fail
   generalize aG.setCell ⟨d,2,none⟩ (.bool true)=a3 at h ⊢;clear S U V ah ai al am an ao aR aX be bL aZ c0 bN;obtain⟨S,U,V⟩:=iC h.wk;obtain⟨ah,ai,al,am,an,ao⟩:=aS h.xb;obtain⟨a',ba,bb,bc,bd,aA⟩:=aS h.nb;obtain⟨c3,c4,c5,c6,c7,c8⟩:=aS h.rb;have c9:=ar h.rb;have bP:=h.lt;have bQ:b<a3.heap.size:=(by omega);have aZ:b+1<a3.heap.size:=(by omega);have bh:b+2<a3.heap.size:=(by omega);have cm:d<a3.heap.size:=(by omega);go_wp2_with fail
   go_loopw [5,6] (fun ax c' wr=>ax=.int .i64 0∧c'=undef∧wr=a3) (fun _ _ _=>0)
   case atStart=>exact⟨rfl,rfl,rfl⟩
   case round =>obtain⟨rfl,rfl,rfl⟩:=hrel;have aJ:=aV h.rb (.bool false) (.int .i64 g) (.slice (some ⟨b+3,0,none⟩) 0 0) (.slice k l m) (.slice o on q) (.slice none 0 0);(go_wp2_with fail);show bodyPost _ _ _ _ _ (bg wr b (.bool false) (.int .i64 g) (.slice (some ⟨b+3,0,none⟩) 0 0) (.slice k l m) (.slice o on q) (.slice none 0 0));obtain⟨bi,bj,bk,bl,p4,bm⟩:=aS aJ;refine bodyPost_ret (v:=.agg (Zs false g (some ⟨b+3,0,none⟩) 0 0 k l m o on q none 0 0)) (by simp[results,results38,go_sem,bi,bj,bk,bl,p4,bm]) rfl ?_;exact qJ.fin (zs:=[]) (nj:=nx+1) (by simpa using h) bC (aI.out _ h.fr).1 (aI.out _ h.fr).2.1 (En _) bO.out
  ·have h:=bN.out false;have bO:Hid (∀ zs nj ad,fm (rd ts f) O.kids (nx+1)=(zs,nj,ad)->rd ts (f+1) nx=(⟨false,g,[],O.vals,O.over,zs⟩,nj,ad)):=(by intro zs nj ad aD;rw[b4.out,if_neg (by have:=aN.out;omega),cI.out,aD]);have d0:((s:Int) == 0)=false:=(by simp;omega);go_upto_region 11 with fail
   generalize aG.setCell ⟨d,2,none⟩ (.bool false)=a3 at h ⊢;clear S U V ah ai al am an ao aR aX be bL aZ c0 bN b4;obtain⟨dD,dE,dF,dG,bF⟩:=info_parts gm;go_wp2_with fail
   go_loopw [5,6] (fun ax c' wr=>∃ (j:Nat) (zs:List T) (nj:Nat) (ad:Bool) (P:Option Addr) (Q:Nat) (a4:Nat->List Value),ax=.int .i64 j∧j<=s∧Hid (zX ts f O.kids (nx+1) j zs nj ad)∧qJ w wr A B d b #[.slice (some ⟨e,r,none⟩) n c,.int .i64 nj,.bool ad] (Zs false g X Y Z k l m o on q aE s ag) g k l m o on q zs P Q a4) (fun ax _ _=>s - (intOf ax).toNat)
   case atStart=>exact⟨0,[],nx+1,false,none,0,_,rfl,En _,zX.start _ _ _ _ (by have:=bB.out;omega),by simpa using h⟩
   case round =>
    clear h;obtain⟨j,zs,nj,ad,P,Q,a4,rfl,d1,aB,h⟩:=hrel;have da:=aB.out.1;have d2:nx+1<=nj∧nj<=n:=(by have:=aB.out.2.1;have:=bB.out;omega);have d3:j<=n+1:=(by have aH:=aB.out.2.2.1;split at aH<;>omega);have bn:=hidI da;clear da;obtain⟨S,U,V⟩:=iC h.wk;obtain⟨ah,ai,al,am,an,ao⟩:=aS h.xb;have bP:=h.lt;have bQ:b<wr.heap.size:=(by omega);have aZ:b+1<wr.heap.size:=(by omega);have bh:b+2<wr.heap.size:=(by omega);have cm:d<wr.heap.size:=(by omega);by_cases bR:j<s∧ad=false
    ·obtain⟨b2,rfl⟩:=bR;obtain⟨bS,cn,rfl,d4,dH,bT⟩:=bf.at (aI.out _ h.fr).2.2 b2;have db:bS<wr.heap.size:=(by omega);by_cases bo:O.kids.getD j 0=nj
     ·have dc:Hid _:=aB.out.step (by have:=aN.out;omega) bo;rw[bo] at bT;have co:((nj:Int) != (nj:Int))=false:=(by simp);have bU:decide ((j:Int)<(s:Int))=true:=(by simp;omega);(go_upto_region 14 with fail);go_quiet (fail)
      have N:qJ w (wr.drewN nq) A B d b #[.slice (some ⟨e,r,none⟩) n c,.int .i64 nj,.bool false] (Zs false g X Y Z k l m o on q (some ⟨bS,cn,none⟩) s ag) g k l m o on q zs P Q a4:=h.below ⟨rfl,rfl,rfl,Ek _,fun _ _=>rfl⟩;generalize wr.drewN nq=bp at N ⊢;clear S U V ah ai al am an ao h bT bP bQ aZ bh cm db;have dd:=dq.out.keep (fun av aH a2=>N.fr.block av (by omega) (by omega));(go_wp2_with fail);have de:=dr.out nj bp (by have:=bB.out;omega) (by have:=bB.out;omega) (by have:=N.fr.size;omega) dd cB N.wk;refine de.mono ?_;rintro aD aa bq;obtain⟨x,y,z,C,D,E,F,G,H,I,J,d5,rfl,cp⟩:=bq.ex;have ac:=N.call bq.fr bq.wk;have dI:=bq.fr.size;have dJ:=N.lt;have df:=N.row;obtain⟨R,bV⟩:∃ R,R=(rd ts f nj).1:=⟨_,rfl⟩;obtain⟨bW,cq⟩:∃ bW,bW=(rd ts f nj).2.1:=⟨_,rfl⟩;obtain⟨bX,cr⟩:∃ bX,bX=(rd ts f nj).2.2:=⟨_,rfl⟩;rw[<-bV,<-cq,<-cr] at dc;rw[<-bV] at cp;rw[<-cq,<-cr] at ac;rw[<-bV];clear bV cq cr bq de dd
      have br:cN aa A B (fun e=>b+3<=e∧e<aa.heap.size∧∀ W,(Value.slice P zs.length Q).ownBlock=some W->e≠W) R [.bool R.leaf,.int .i64 R.page,.slice x y z,.slice C D E,.slice F G H,.slice I R.kids.length J] :=
       cN.keep (eS.refl _ _ _) (fun _ _=>rfl) (fun cs aK=>⟨by omega,aK.2,fun W dK=>by have:=(df.lt W dK).2;omega⟩) (Ek _) (Ek _) R _ cp.mk'
      generalize R.leaf=K at br ⊢;generalize R.page=L at br ⊢;generalize R.kids.length=M at br ⊢;have ct:=Zb aa (.cells (Zs K L x y z C D E F G H I M J) 57);have cu:=Zb (aa.alloc (.cells (Zs K L x y z C D E F G H I M J) 57)) (.cells (Zs K L x y z C D E F G H I M J) 57);have a7:=ac.below ct;have ab:=a7.below cu;have aY:=ct.trans (cu.mono (by simp))
      have dg:cN ((aa.alloc (.cells (Zs K L x y z C D E F G H I M J) 57)).alloc (.cells (Zs K L x y z C D E F G H I M J) 57)) A B (fun e=>b+3<=e∧e<((aa.alloc (.cells (Zs K L x y z C D E F G H I M J) 57)).alloc (.cells (Zs K L x y z C D E F G H I M J) 57)).heap.size∧∀ W,(Value.slice P zs.length Q).ownBlock=some W->e≠W) R [.bool K,.int .i64 L,.slice x y z,.slice C D E,.slice F G H,.slice I M J] :=
       cN.keep (fun av aH a2=>aY.block av (by have:=ac.lt;have:=ac.wlt;omega)) (fun cs aK=>aY.block cs aK.2.1) (fun cs aK=>⟨aK.1,Er aK.2.1 aY.size,aK.2.2⟩) (Ek _) (Ek _) R _ br
      clear br cp df;obtain⟨a',ba,bb,bc,bd,aA⟩:=aS ac.nb;have d6:=ac.lt;have bh:b+2<aa.heap.size:=(by omega);have dL:=ar ab.nb;have cv:=ab.row;have ay:=bn.out;rw[ay] at cv aA;clear N co bU dI dJ;have cw:=fv (aa.alloc (.cells (Zs K L x y z C D E F G H I M J) 57)) (.bool K) (.int .i64 L) (.slice x y z) (.slice C D E) (.slice F G H) (.slice I M J) 57;have dM:(aa.alloc (.cells (Zs K L x y z C D E F G H I M J) 57)).heap.size=aa.heap.size+1:=(by simp);rw[dM] at cw;have dh:Hid (∀ aC aL,aL.ownsRow (b+4) 57 6 aC (j+1) (az a4 j++[.bool K,.int .i64 L,.slice x y z,.slice C D E,.slice F G H,.slice I M J])->((aa.alloc (.cells (Zs K L x y z C D E F G H I M J) 57)).alloc (.cells (Zs K L x y z C D E F G H I M J) 57)).grownBy aL (Value.slice P j Q).ownBlock->(aC.ownBlock=(Value.slice P j Q).ownBlock∨∀ W,aC.ownBlock=some W->((aa.alloc (.cells (Zs K L x y z C D E F G H I M J) 57)).alloc (.cells (Zs K L x y z C D E F G H I M J) 57)).heap.size<=W)->∃ a5 a6,aC=.slice a5 (j+1) a6∧qJ w (aL.setCell ⟨b+2,5,none⟩ aC) A B d b #[.slice (some ⟨e,r,none⟩) n c,.int .i64 bW,.bool bX] (Zs false g X Y Z k l m o on q (some ⟨bS,cn,none⟩) s ag) g k l m o on q (zs++[R]) a5 a6 (fun ax=>if ax=zs.length then [.bool K,.int .i64 L,.slice x y z,.slice C D E,.slice F G H,.slice I M J] else a4 ax)∧aL.heap[b+2]?=some (.cells (Zs false g (some ⟨b+3,0,none⟩) 0 0 k l m o on q P j Q) 57)):=(by intro aC aL aH a2 di;rw[<-ay] at aH a2 di;obtain⟨a5,a6,aD,dN⟩:=ab.push (t:=R) rfl dg aH a2 di;have dj:=ab.nb;have d7:=ab.lt;rw[ay] at aD dj;refine⟨a5,a6,aD,dN,(a2.block (b+2) (by omega) (fun dO=>?_)).trans dj⟩;have:=(ab.row.lt (b+2) dO.symm).1;omega);clear ab dg a7 ac ct cu aY dL;(go_wp2_with (at_builtin;refine ak _ rfl _ _ 55 rfl (b+4) 57 dD _ 6 112 underlying55 dE dF dG bF rfl (by decide) _ _ _ rfl cv ⟨aa.heap.size+1,0,none⟩ 1 1 [.bool K,.int .i64 L,.slice x y z,.slice C D E,.slice F G H,.slice I M J] rfl rfl cw (by simp[Value.oneCell']) (by unfold maxLen;omega) (by omega) (by simp;omega) ?_;intro aC aL dk dl dm;obtain⟨a5,a6,rfl,dP,bY⟩:=dh.out aC aL dk dl dm;have d8:=Za bY;obtain⟨d9,d',ea,eb,ec,ed⟩:=aS bY;have ee:=ar bY;clear dk dl dm dh cv cw bY));go_roundw
      case rel=>exact⟨j+1,zs++[R],bW,bX,a5,a6,_,by go_num,by omega,dc,dP⟩
      case measure=>simp[intOf];omega
     ·have dn:Hid _:=aB.out.stop (by have:=aN.out;omega) bo;have co:(O.kids.getD j 0 != (nj:Int))=true:=(by simpa using bo);generalize O.kids.getD j 0=ef at bT co dH;clear bo;(go_upto_region 14 with fail);go_quiet (fail)
      have N:qJ w (wr.drewN nq) A B d b #[.slice (some ⟨e,r,none⟩) n c,.int .i64 nj,.bool false] (Zs false g X Y Z k l m o on q (some ⟨bS,cn,none⟩) s ag) g k l m o on q zs P Q a4:=h.below ⟨rfl,rfl,rfl,Ek _,fun _ _=>rfl⟩;generalize wr.drewN nq=bp at N ⊢;clear S U V ah ai al am an ao h bT bP bQ aZ bh cm db;have ap:=N.call (af bp d 2 (.bool true)) (by simpa using aj N.wk 2 (.bool true));obtain⟨S,U,V⟩:=iC N.wk;have aR:=ar N.wk;have cX:d<bp.heap.size:=(by have:=N.lt;have:=N.wlt;omega);(go_upto_region 16 with fail);generalize bp.setCell ⟨d,2,none⟩ (.bool true)=cx at ap ⊢;clear S U V aR cX N;have bs:=bO.out _ _ _ dn.out;have bt:=fun aM=>qJ.fin (ts:=ts) (f:=f+1) (nx:=nx) ap bC (aI.out _ ap.fr).1 (aI.out _ ap.fr).2.1 aM bs;have bu:Hid _:=bt;have ay:=bn.out;have aJ:=aV ap.rb (.bool false) (.int .i64 g) (.slice (some ⟨b+3,0,none⟩) 0 0) (.slice k l m) (.slice o on q) (.slice P zs.length Q);have bv:Hid _:=aJ;obtain⟨a',ba,bb,bc,bd,aA⟩:=aS ap.nb;obtain⟨c3,c4,c5,c6,c7,c8⟩:=aS ap.rb;have c9:=ar ap.rb;have bP:=ap.lt;have bQ:b<cx.heap.size:=(by omega);have bh:b+2<cx.heap.size:=(by omega);have bw:zs.length<=maxLen:=(by unfold maxLen;omega);generalize zs.length=bx at ay aA bu bv bw;clear bt aJ bs ap dn aB bn ay;(go_wp2_with fail);show bodyPost _ _ _ _ _ (bg cx b (.bool false) (.int .i64 g) (.slice (some ⟨b+3,0,none⟩) 0 0) (.slice k l m) (.slice o on q) (.slice P bx Q));obtain⟨bi,bj,bk,bl,p4,bm⟩:=aS bv.out;refine bodyPost_ret (v:=.agg (Zs false g (some ⟨b+3,0,none⟩) 0 0 k l m o on q P bx Q)) (by simp[results,results38,go_sem,bi,bj,bk,bl,p4,bm]) rfl ?_;exact bu.out bw
    ·have dp:=aB.out.done (fun aM=>by
      cases ad with
      | true=>rfl
      | false=>exact absurd ⟨by have:=aN.out;omega,rfl⟩ bR) (by have:=aN.out;omega)
     have bs:=bO.out _ _ _ dp;have bt:=fun aM=>qJ.fin (ts:=ts) (f:=f+1) (nx:=nx) h bC (aI.out _ h.fr).1 (aI.out _ h.fr).2.1 aM bs;have bu:Hid _:=bt;have ay:=bn.out;have aJ:=aV h.rb (.bool false) (.int .i64 g) (.slice (some ⟨b+3,0,none⟩) 0 0) (.slice k l m) (.slice o on q) (.slice P zs.length Q);have bv:Hid _:=aJ;obtain⟨a',ba,bb,bc,bd,aA⟩:=aS h.nb;obtain⟨c3,c4,c5,c6,c7,c8⟩:=aS h.rb;have c9:=ar h.rb;have bw:zs.length<=maxLen:=(by unfold maxLen;omega);generalize zs.length=bx at ay aA bu bv bw;have dQ:¬ j<s∨ad=true:=by
      by_cases aM:j<s;·exact .inr (by cases ad with | true=>rfl | false=>exact absurd ⟨aM,rfl⟩ bR)
      ·exact .inl aM
     clear bt aJ bs h aB bn ay dp bR;rcases dQ with dR | rfl
     focus have bU:decide ((j:Int)<(s:Int))=false:=by simp;omega
     rotate_left
     focus by_cases dR:j<s
     focus have bU:decide ((j:Int)<(s:Int))=true:=by simp;omega
     rotate_left
     focus have bU:decide ((j:Int)<(s:Int))=false:=by simp;omega
     rotate_left
     all_goals
       (go_wp2_with fail);show bodyPost _ _ _ _ _ (bg wr b (.bool false) (.int .i64 g) (.slice (some ⟨b+3,0,none⟩) 0 0) (.slice k l m) (.slice o on q) (.slice P bx Q));obtain⟨bi,bj,bk,bl,p4,bm⟩:=aS bv.out;refine bodyPost_ret (v:=.agg (Zs false g (some ⟨b+3,0,none⟩) 0 0 k l m o on q P bx Q)) (by simp[results,results38,go_sem,bi,bj,bk,bl,p4,bm]) rfl ?_;exact bu.out bw
theorem pi (ts:List TN) (d:ts.length<=1000) (a:Option Addr) (n c A B b:Nat):∀ f,xI ts f a n c A B b
 | 0=>fun nx e o k=>by omega
 | f+1=>fun nx e o k g h i j=>by
  by_cases l:nx<ts.length
  ·by_cases m:(ts.getD nx dT).leaf=true
   ·exact uE ts f nx a n c A B b e g h l d m i j
   ·exact sL ts f nx a n c A B b (pi ts d a n c A B b f) e g h l k d (by simpa using m) i j
  ·exact wv ts f nx a n c A B b e g (by omega) d h.1 i j
end Go.Proofs.YtggmghkcdfjdoaaGreat
