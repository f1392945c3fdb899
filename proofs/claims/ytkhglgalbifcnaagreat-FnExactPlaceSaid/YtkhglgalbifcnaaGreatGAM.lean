import Derived.Test.YtkhglgalbifcnaaGreatGAL
import Derived.Test.YtkhglgalbifcnaaGreatGAK
namespace Go.Proofs.YtkhglgalbifcnaaGreat
open Go.RowKit
set_option linter.unusedVariables false
set_option linter.unusedSimpArgs false
set_option maxRecDepth 100000
theorem cell_six_new (w:World) (a b c d e f:Value) (t:TypeId):∀ j u,[a,b,c,d,e,f][j]?=some u->(w.alloc (.cells #[a,b,c,d,e,f] t)).cell? ((⟨w.heap.size,0,none⟩:Addr).add j)=some u:=by
 intro j u h
 match j,h with
 | 0,h=>simpa[Addr.add] using h
 | 1,h=>simpa[Addr.add] using h
 | 2,h=>simpa[Addr.add] using h
 | 3,h=>simpa[Addr.add] using h
 | 4,h=>simpa[Addr.add] using h
 | 5,h=>simpa[Addr.add] using h
def Far (ts:List TN) (f:Nat) (ks:List Int) (nx j:Nat) (zs:List T) (nj:Nat) (bad:Bool):Prop :=
 zs.length=j∧(nx<=nj∧nj<=ts.length)∧(j+nx<=nj+(if bad then 1 else 0))∧(bad=false->rdK (rd ts f) ks nx=(zs++(rdK (rd ts f) (ks.drop j) nj).1,(rdK (rd ts f) (ks.drop j) nj).2.1,(rdK (rd ts f) (ks.drop j) nj).2.2))∧(bad=true->rdK (rd ts f) ks nx=(zs,nj,true))
theorem Far.start (ts:List TN) (f:Nat) (ks:List Int) (nx:Nat) (h:nx<=ts.length):Far ts f ks nx 0 [] nx false:=⟨rfl,⟨Nat.le_refl _,h⟩,by simp,fun _=>by simp,fun h=>by cases h⟩
theorem drop_getD {ks:List Int} {j:Nat} (h:j<ks.length):ks.drop j=ks.getD j 0::ks.drop (j+1):=by
 rw[List.drop_eq_getElem_cons h]
 simp[List.getD,h]
theorem rdK_cons (one:Nat->T × Nat × Bool) (k:Int) (ks:List Int) (nx:Nat):rdK one (k::ks) nx=if k=nx then
   if (one nx).2.2 then ([(one nx).1],(one nx).2.1,true)
   else ((one nx).1::(rdK one ks (one nx).2.1).1,(rdK one ks (one nx).2.1).2.1,(rdK one ks (one nx).2.1).2.2)
  else ([],nx,true):=rfl
theorem Far.step {ts:List TN} {f:Nat} {ks:List Int} {nx j:Nat} {zs:List T} {nj:Nat} (h:Far ts f ks nx j zs nj false) (hj:j<ks.length) (hk:ks.getD j 0=nj):Far ts f ks nx (j+1) (zs++[(rd ts f nj).1]) (rd ts f nj).2.1 (rd ts f nj).2.2:=by
 obtain⟨h1,h2,h3,h4,_⟩:=h
 have hr:=rd_range ts f nj h2.2
 have h4:=h4 rfl
 rw[drop_getD hj,rdK_cons,if_pos hk] at h4
 refine⟨by simp[h1],⟨by omega,hr.2.1⟩,?_,fun hb=>?_,fun hb=>?_⟩
 ·simp only[Bool.false_eq_true,if_false] at h3
  cases e:(rd ts f nj).2.2 with
  | false=>have:=hr.2.2 e;simp;omega
  | true=>simp;omega
 ·rw[hb] at h4
  simpa using h4
 ·rw[hb] at h4
  simpa using h4
theorem Far.stop {ts:List TN} {f:Nat} {ks:List Int} {nx j:Nat} {zs:List T} {nj:Nat} (h:Far ts f ks nx j zs nj false) (hj:j<ks.length) (hk:¬ ks.getD j 0=nj):rdK (rd ts f) ks nx=(zs,nj,true):=by
 have h4:=h.2.2.2.1 rfl
 rw[drop_getD hj,rdK_cons,if_neg hk] at h4
 simpa using h4
theorem Far.done {ts:List TN} {f:Nat} {ks:List Int} {nx j:Nat} {zs:List T} {nj:Nat} {bad:Bool} (h:Far ts f ks nx j zs nj bad) (hj:j<ks.length->bad=true) (hjl:j<=ks.length):rdK (rd ts f) ks nx=(zs,nj,bad):=by
 cases bad with
 | true=>exact h.2.2.2.2 rfl
 | false =>
  have hj2:¬ j<ks.length:=fun e=>by cases hj e
  have h4:=h.2.2.2.1 rfl
  rw[List.drop_eq_nil_of_le (by omega)] at h4
  simpa[rdK] using h4
def ReadAll (ts:List TN) (f:Nat) (a:Option Addr) (n c A B Wk:Nat):Prop:=∀ (nx:Nat) (w:World),nx<=ts.length->ts.length - nx<f->B<=w.heap.size->NodesAt w A B a n c ts->B<=Wk->w.heap[Wk]?=some (.cells #[.slice a n c,.int .i64 nx,.bool false] 86) ->
  Calls Tryz.prog 42 #[.pointer (some ⟨Wk,0,none⟩)] w fun e w'=>ReadAt ts f nx a n c A B Wk w e w'
set_option maxHeartbeats 4000000 in
theorem l3Read_inner (ts:List TN) (f nx:Nat) (a:Option Addr) (n c A B Wk:Nat) (ih:ReadAll ts f a n c A B Wk) (w:World) (hB:B<=w.heap.size) (hT:NodesAt w A B a n c ts) (hnx:nx<ts.length) (hf:ts.length - nx<f+1) (hm:ts.length<=1000) (hlf:(ts.getD nx dT).leaf=false) (hWk:B<=Wk) (hW:w.heap[Wk]?=some (.cells #[.slice a n c,.int .i64 nx,.bool false] 86)) :
  Calls Tryz.prog 42 #[.pointer (some ⟨Wk,0,none⟩)] w fun e w'=>ReadAt ts (f+1) nx a n c A B Wk w e w':=by
 have hRD:rd ts (f+1) nx=if (ts.getD nx dT).kids.length=0 then (⟨false,(ts.getD nx dT).page,[],(ts.getD nx dT).vals,(ts.getD nx dT).over,[]⟩,nx+1,true) else (⟨false,(ts.getD nx dT).page,[],(ts.getD nx dT).vals,(ts.getD nx dT).over,(rdK (rd ts f) (ts.getD nx dT).kids (nx+1)).1⟩,(rdK (rd ts f) (ts.getD nx dT).kids (nx+1)).2.1,(rdK (rd ts f) (ts.getD nx dT).kids (nx+1)).2.2):=by
  conv=>lhs;unfold rd
  rw[if_pos hnx,if_neg (by rw[hlf];simp)]
 have hlt:Wk<w.heap.size:=(Array.getElem?_eq_some_iff.1 hW).1
 have hl:=hT.1
 have HT:Hid (NodesAt w A B a n c ts):=hT
 have IH:Hid (ReadAll ts f a n c A B Wk):=ih
 obtain⟨b,off,rfl,hb,ka,kn,kc,va,vn,vc,oa,on,oc,ya,yn,yc,hX⟩:=hT.at (i:=nx) (by omega)
 have hn:nx<n:=by omega
 have hn2:n<=1000:=by omega
 have HNX:Hid (nx<ts.length∧ts.length - nx<f+1∧ts.length<=1000∧ts.length=n):=⟨hnx,hf,hm,hl⟩
 obtain⟨x,hx⟩:∃ x,x=ts.getD nx dT:=⟨_,rfl⟩
 rw[<-hx] at hRD hX hlf
 have HRD:Hid _:=hRD
 have HX:Hid (TNodeIs w A B b (off+nx*6) x ka kn kc va vn vc oa on oc ya yn yc):=hX
 obtain⟨c0,c1,c2,c3,c4,c5,hpg,hK,hV,hO,hY⟩:=hX
 rw[hlf] at c0
 have HYL:Hid (x.kids.length=yn):=hY.1
 have hym:yn<=maxLen:=Nat.le_trans hY.2.1 hY.2.2.1
 unfold maxLen at hym
 clear hnx hl hT hx hK hV hO hY hRD ih hf hm
 obtain⟨pg,hpgx⟩:∃ pg,pg=x.page:=⟨_,rfl⟩
 rw[<-hpgx] at c1 hpg
 have HPG:Hid (pg=x.page):=hpgx
 clear hpgx
 have hb0:Below w.heap.size w (w.alloc (.cells #[.bool false,.int .i64 0,.slice none 0 0,.slice none 0 0,.slice none 0 0,.slice none 0 0] 49)):=(Below.refl _ _).alloc (Nat.le_refl _) _
 have R0:=heap_alloc_new w (.cells #[.bool false,.int .i64 0,.slice none 0 0,.slice none 0 0,.slice none 0 0,.slice none 0 0] 49)
 have s0:(w.alloc (.cells #[.bool false,.int .i64 0,.slice none 0 0,.slice none 0 0,.slice none 0 0,.slice none 0 0] 49)).heap.size=w.heap.size+1:=by simp
 obtain⟨N,hN⟩:∃ N,w.heap.size=N:=⟨_,rfl⟩
 rw[hN] at R0 s0
 have W0:=(hb0.block Wk hlt).trans hW
 have hbl:b<w.heap.size:=by omega
 have d0:=(hb0.cell (p:=⟨b,off+nx*6,none⟩) hbl).trans c0
 have d1:=(hb0.cell (p:=⟨b,off+nx*6+1,none⟩) hbl).trans c1
 have d2:=(hb0.cell (p:=⟨b,off+nx*6+2,none⟩) hbl).trans c2
 have d3:=(hb0.cell (p:=⟨b,off+nx*6+3,none⟩) hbl).trans c3
 have d4:=(hb0.cell (p:=⟨b,off+nx*6+4,none⟩) hbl).trans c4
 have d5:=(hb0.cell (p:=⟨b,off+nx*6+5,none⟩) hbl).trans c5
 clear c0 c1 c2 c3 c4 c5
 obtain⟨x0,x1,x2⟩:=box3w W0
 go_enter Tryz.func42,Tryz.ntmps42
 go_wp2_with fail
 go_quiet (fail)
 have e0:Below w.heap.size w ((w.alloc (.cells #[.bool false,.int .i64 0,.slice none 0 0,.slice none 0 0,.slice none 0 0,.slice none 0 0] 49)).drewN nq):=hb0.trans ⟨rfl,rfl,rfl,Nat.le_refl _,fun _ _=>rfl⟩
 have R1:((w.alloc (.cells #[.bool false,.int .i64 0,.slice none 0 0,.slice none 0 0,.slice none 0 0,.slice none 0 0] 49)).drewN nq).heap[N]?=some (.cells #[.bool false,.int .i64 0,.slice none 0 0,.slice none 0 0,.slice none 0 0,.slice none 0 0] 49):=R0
 have W1:((w.alloc (.cells #[.bool false,.int .i64 0,.slice none 0 0,.slice none 0 0,.slice none 0 0,.slice none 0 0] 49)).drewN nq).heap[Wk]?=some (.cells #[.slice (some ⟨b,off,none⟩) n c,.int .i64 nx,.bool false] 86):=W0
 have s1:((w.alloc (.cells #[.bool false,.int .i64 0,.slice none 0 0,.slice none 0 0,.slice none 0 0,.slice none 0 0] 49)).drewN nq).heap.size=N+1:=s0
 have g0:((w.alloc (.cells #[.bool false,.int .i64 0,.slice none 0 0,.slice none 0 0,.slice none 0 0,.slice none 0 0] 49)).drewN nq).cell? ⟨b,off+nx*6,none⟩=_:=d0
 have g1:((w.alloc (.cells #[.bool false,.int .i64 0,.slice none 0 0,.slice none 0 0,.slice none 0 0,.slice none 0 0] 49)).drewN nq).cell? ⟨b,off+nx*6+1,none⟩=_:=d1
 have g2:((w.alloc (.cells #[.bool false,.int .i64 0,.slice none 0 0,.slice none 0 0,.slice none 0 0,.slice none 0 0] 49)).drewN nq).cell? ⟨b,off+nx*6+2,none⟩=_:=d2
 have g3:((w.alloc (.cells #[.bool false,.int .i64 0,.slice none 0 0,.slice none 0 0,.slice none 0 0,.slice none 0 0] 49)).drewN nq).cell? ⟨b,off+nx*6+3,none⟩=_:=d3
 have g4:((w.alloc (.cells #[.bool false,.int .i64 0,.slice none 0 0,.slice none 0 0,.slice none 0 0,.slice none 0 0] 49)).drewN nq).cell? ⟨b,off+nx*6+4,none⟩=_:=d4
 have g5:((w.alloc (.cells #[.bool false,.int .i64 0,.slice none 0 0,.slice none 0 0,.slice none 0 0,.slice none 0 0] 49)).drewN nq).cell? ⟨b,off+nx*6+5,none⟩=_:=d5
 generalize (w.alloc (.cells #[.bool false,.int .i64 0,.slice none 0 0,.slice none 0 0,.slice none 0 0,.slice none 0 0] 49)).drewN nq=V at e0 R1 W1 s1 g0 g1 g2 g3 g4 g5 ⊢
 clear x0 x1 x2 hb0 R0 W0 s0 d0 d1 d2 d3 d4 d5
 obtain⟨x0,x1,x2⟩:=box3w W1
 have bV:b<V.heap.size:=by omega
 have kV:Wk<V.heap.size:=by omega
 go_upto_region 4 with fail
 go_cut [3] (fun v wx=>v=.pointer (some ⟨N+1,0,none⟩)∧wx.heap[N+1]?=some (.cells #[.bool false,.int .i64 pg,.slice ka kn kc,.slice va vn vc,.slice oa on oc,.slice ya yn yc] 103)∧Below V.heap.size V wx∧wx.heap.size=N+2)
 case first =>
  go_region_held3 (fun w'=>w'.cell? ⟨Wk,0,none⟩=some (.slice (some ⟨b,off,none⟩) n c)∧w'.cell? ⟨Wk,1,none⟩=some (.int .i64 nx)∧w'.cell? ⟨b,off+nx*6,none⟩=some (.bool false)∧w'.cell? ⟨b,off+nx*6+1,none⟩=some (.int .i64 pg)∧w'.cell? ⟨b,off+nx*6+2,none⟩=some (.slice ka kn kc)∧w'.cell? ⟨b,off+nx*6+3,none⟩=some (.slice va vn vc)∧w'.cell? ⟨b,off+nx*6+4,none⟩=some (.slice oa on oc)∧w'.cell? ⟨b,off+nx*6+5,none⟩=some (.slice ya yn yc)) (go_keep) (fail)
  have hz:=(Below.refl V.heap.size V).alloc (Nat.le_refl _) (.cells #[.bool false,.int .i64 pg,.slice ka kn kc,.slice va vn vc,.slice oa on oc,.slice ya yn yc] 103)
  have hz2:=heap_alloc_new V (.cells #[.bool false,.int .i64 pg,.slice ka kn kc,.slice va vn vc,.slice oa on oc,.slice ya yn yc] 103)
  rw[s1] at hz2
  go_wp2_with fail
  go_meet
  exact⟨rfl,hz2,hz.drew,by simp[s1]⟩
 case rest =>
  obtain⟨rfl,xb,bx,sx⟩:=hcut
  have W2:=(bx.block Wk kV).trans W1
  have R2:=(bx.block N (by omega)).trans R1
  clear x0 x1 x2 g0 g1 g2 g3 g4 g5
  obtain⟨x0,x1,x2⟩:=box3w W2
  obtain⟨y0,y1,y2,y3,y4,y5⟩:=box6 xb
  have fw:=thawT W2
  have W3:=heap_setT W2 1 (.int .i64 (nx+1:Nat))
  have f3:=fr_setT wc Wk 1 (.int .i64 (nx+1:Nat))
  have s3:(wc.setCell ⟨Wk,1,none⟩ (.int .i64 (nx+1:Nat))).heap.size=N+2:=by simp[World.setCell,sx]
  have R3:=(f3.block N (by omega) (by omega)).trans R2
  have X3:=(f3.block (N+1) (by omega) (by omega)).trans xb
  have lw:Wk<wc.heap.size:=by omega
  have ecast:(↑(nx+1:Nat):Int)=↑nx+1:=by omega
  rw[ecast] at W3 f3 s3 R3 X3
  clear ecast
  go_upto_region 6 with fail
  generalize wc.setCell ⟨Wk,1,none⟩ (.int .i64 (↑nx+1))=V3 at W3 f3 s3 R3 X3 ⊢
  clear y0 y1 y2 y3 y4 y5 x0 x1 x2 fw
  have F3:Fr (fun g=>g=Wk) w V3:=((Fr.of_below e0).trans (Fr.of_below bx)).trans f3
  clear f3 bx e0 xb W2 R2 R1 W1
  obtain⟨y0,y1,y2,y3,y4,y5⟩:=box6 X3
  have hz:=(Below.refl V3.heap.size V3).alloc (Nat.le_refl _) (.cells #[.bool false,.int .i64 pg,.slice ka kn kc,.slice va vn vc,.slice oa on oc,.slice none 0 0] 49)
  have N4:=heap_alloc_new V3 (.cells #[.bool false,.int .i64 pg,.slice ka kn kc,.slice va vn vc,.slice oa on oc,.slice none 0 0] 49)
  have s4:(V3.alloc (.cells #[.bool false,.int .i64 pg,.slice ka kn kc,.slice va vn vc,.slice oa on oc,.slice none 0 0] 49)).heap.size=N+3:=by simp[s3]
  have R4:=(hz.block N (by omega)).trans R3
  have X4:=(hz.block (N+1) (by omega)).trans X3
  have W4:=(hz.block Wk (by omega)).trans W3
  have F4:=F3.trans (Fr.of_below hz)
  rw[s3] at N4
  go_upto_region 9 with fail
  generalize V3.alloc (.cells #[.bool false,.int .i64 pg,.slice ka kn kc,.slice va vn vc,.slice oa on oc,.slice none 0 0] 49)=V4 at N4 s4 R4 X4 W4 F4 ⊢
  clear y0 y1 y2 y3 y4 y5 hz
  obtain⟨n0,n1,n2,n3,n4,n5⟩:=box6 N4
  have fn:=thawT N4
  have hset:=fr_setT V4 (N+2) 2 (.slice (some ⟨N+3,0,none⟩) 0 0)
  have hz:=(Below.refl (V4.setCell ⟨N+2,2,none⟩ (.slice (some ⟨N+3,0,none⟩) 0 0)).heap.size (V4.setCell ⟨N+2,2,none⟩ (.slice (some ⟨N+3,0,none⟩) 0 0))).alloc (Nat.le_refl _) (.cells #[] 9)
  have s5:(V4.setCell ⟨N+2,2,none⟩ (.slice (some ⟨N+3,0,none⟩) 0 0)).heap.size=N+3:=by simp[World.setCell,s4]
  have N5:=(hz.block (N+2) (by omega)).trans (heap_setT N4 2 (.slice (some ⟨N+3,0,none⟩) 0 0))
  have R5:=(hz.block N (by omega)).trans ((hset.block N (by omega) (by omega)).trans R4)
  have X5:=(hz.block (N+1) (by omega)).trans ((hset.block (N+1) (by omega) (by omega)).trans X4)
  have W5:=(hz.block Wk (by omega)).trans ((hset.block Wk (by omega) (by omega)).trans W4)
  have s6:((V4.setCell ⟨N+2,2,none⟩ (.slice (some ⟨N+3,0,none⟩) 0 0)).alloc (.cells #[] 9)).heap.size=N+4:=by simp[World.setCell,s4]
  have F5:Fr (fun g=>g=Wk) w ((V4.setCell ⟨N+2,2,none⟩ (.slice (some ⟨N+3,0,none⟩) 0 0)).alloc (.cells #[] 9)):=⟨hz.os.trans (hset.os.trans F4.os),hz.tape.trans (hset.tape.trans F4.tape),hz.output.trans (hset.output.trans F4.output),Nat.le_trans F4.size (Nat.le_trans hset.size hz.size),fun k hk1 hk2=>(hz.block k (by omega)).trans ((hset.block k (by omega) (by omega)).trans (F4.block k hk1 hk2))⟩
  go_upto_region 10 with fail
  generalize ((V4.setCell ⟨N+2,2,none⟩ (.slice (some ⟨N+3,0,none⟩) 0 0)).alloc (.cells #[] 9))=V5 at N5 R5 X5 W5 s6 F5 ⊢
  clear hset hz s5 N4 R4 X4 W4 F4 s4 n0 n1 n2 n3 n4 n5 fn R3 X3 W3 F3 s3
  obtain⟨x0,x1,x2⟩:=box3w W5
  obtain⟨y0,y1,y2,y3,y4,y5⟩:=box6 X5
  have fw:=thawT W5
  have l1:N+1<V5.heap.size:=by omega
  have lw5:Wk<V5.heap.size:=by omega
  have hinit:∀ bd,RSt w (V5.setCell ⟨Wk,2,none⟩ (.bool bd)) A B Wk N #[.slice (some ⟨b,off,none⟩) n c,.int .i64 (↑nx+1),.bool bd] #[.bool false,.int .i64 pg,.slice ka kn kc,.slice va vn vc,.slice oa on oc,.slice ya yn yc] pg va vn vc oa on oc [] none 0 (fun _=>[]):=fun bd=>by
   have hs:=fr_setT V5 Wk 2 (.bool bd)
   have hs2:(V5.setCell ⟨Wk,2,none⟩ (.bool bd)).heap.size=N+4:=by simp[World.setCell,s6]
   exact⟨hN,heap_setT W5 2 (.bool bd),(hs.block N (by omega) (by omega)).trans R5,(hs.block (N+1) (by omega) (by omega)).trans X5,(hs.block (N+2) (by omega) (by omega)).trans N5,World.ownsRow_nil _ _ _ _,fun i z hz=>by simp at hz,F5.trans hs,by omega,hWk,by omega⟩
  have HI:Hid _:=hinit
  have hkeep:∀ W,Fr (fun g=>g=Wk) w W->StrsAt W A B va vn vc x.vals∧IntsAt W A B oa on oc x.over∧IntsAt W A B ya yn yc x.kids:=fun W hW=>by
   have hk:Keeps A B w W:=fun k h1 h2=>hW.block k (by omega) (by omega)
   exact⟨HX.out.vals.keep hk,HX.out.over.keep hk,HX.out.kids.keep hk⟩
  have HK:Hid _:=hkeep
  clear hinit hkeep N5 R5 F5
  by_cases ty:yn=0
  ·subst ty
   have RS:=HI.out true
   have HR2:Hid (rd ts (f+1) nx=(⟨false,pg,[],x.vals,x.over,[]⟩,nx+1,true)):=by
    show _=_
    rw[HRD.out,if_pos HYL.out,HPG.out]
   go_upto_region 11 with fail
   generalize V5.setCell ⟨Wk,2,none⟩ (.bool true)=V6 at RS ⊢
   clear x0 x1 x2 y0 y1 y2 y3 y4 y5 fw W5 X5 s6 l1 lw5 HI
   obtain⟨x0,x1,x2⟩:=box3w RS.wk
   obtain⟨y0,y1,y2,y3,y4,y5⟩:=box6 RS.xb
   obtain⟨n0,n1,n2,n3,n4,n5⟩:=box6 RS.nb
   obtain⟨r0,r1,r2,r3,r4,r5⟩:=box6 RS.rb
   have fr:=thawT RS.rb
   have l:=RS.lt
   have l0:N<V6.heap.size:=by omega
   have l1:N+1<V6.heap.size:=by omega
   have l2:N+2<V6.heap.size:=by omega
   have lw6:Wk<V6.heap.size:=by omega
   go_wp2_with fail
   go_loopw [5,6] (fun i u wr=>i=.int .i64 0∧u=undef∧wr=V6) (fun _ _ _=>0)
   case atStart=>exact⟨rfl,rfl,rfl⟩
   case round =>
    obtain⟨rfl,rfl,rfl⟩:=hrel
    have hbox:=put6T_box RS.rb (.bool false) (.int .i64 pg) (.slice (some ⟨N+3,0,none⟩) 0 0) (.slice va vn vc) (.slice oa on oc) (.slice none 0 0)
    go_wp2_with fail
    show bodyPost _ _ _ _ _ (put6T wr N (.bool false) (.int .i64 pg) (.slice (some ⟨N+3,0,none⟩) 0 0) (.slice va vn vc) (.slice oa on oc) (.slice none 0 0))
    obtain⟨p0,p1,p2,p3,p4,p5⟩:=box6 hbox
    refine bodyPost_ret (v:=.agg #[.bool false,.int .i64 pg,.slice (some ⟨N+3,0,none⟩) 0 0,.slice va vn vc,.slice oa on oc,.slice none 0 0]) (by simp[results,Tryz.results42,go_sem,p0,p1,p2,p3,p4,p5]) rfl ?_
    exact RSt.fin (zs:=[]) (nj:=nx+1) (by simpa using RS) hpg (HK.out _ RS.fr).1 (HK.out _ RS.fr).2.1 (Nat.zero_le _) HR2.out
  ·have RS:=HI.out false
   have HR2:Hid (∀ zs nj bad,rdK (rd ts f) x.kids (nx+1)=(zs,nj,bad)->rd ts (f+1) nx=(⟨false,pg,[],x.vals,x.over,zs⟩,nj,bad)):=by
    intro zs nj bad e
    rw[HRD.out,if_neg (by have:=HYL.out;omega),HPG.out,e]
   have sy:((yn:Int) == 0)=false:=by simp;omega
   go_upto_region 11 with fail
   generalize V5.setCell ⟨Wk,2,none⟩ (.bool false)=V6 at RS ⊢
   clear x0 x1 x2 y0 y1 y2 y3 y4 y5 fw W5 X5 s6 l1 lw5 HI HRD
   obtain⟨i0,hi,hz0,hz1,hz2⟩:=info_parts info_l3N
   go_wp2_with fail
   go_loopw [5,6] (fun i u wr=>∃ (j:Nat) (zs:List T) (nj:Nat) (bad:Bool) (ra:Option Addr) (rc:Nat) (css:Nat->List Value),i=.int .i64 j∧j<=yn∧Hid (Far ts f x.kids (nx+1) j zs nj bad)∧RSt w wr A B Wk N #[.slice (some ⟨b,off,none⟩) n c,.int .i64 nj,.bool bad] #[.bool false,.int .i64 pg,.slice ka kn kc,.slice va vn vc,.slice oa on oc,.slice ya yn yc] pg va vn vc oa on oc zs ra rc css) (fun i _ _=>yn - (intOf i).toNat)
   case atStart=>exact⟨0,[],nx+1,false,none,0,_,rfl,Nat.zero_le _,Far.start _ _ _ _ (by have:=HNX.out;omega),by simpa using RS⟩
   case round =>
    clear RS
    obtain⟨j,zs,nj,bad,ra,rc,css,rfl,hj,HF,RS⟩:=hrel
    have hzl:=HF.out.1
    have hnj:nx+1<=nj∧nj<=n:=by have:=HF.out.2.1;have:=HNX.out;omega
    have hj2:j<=n+1:=by
     have h1:=HF.out.2.2.1
     split at h1<;>omega
    have HZL:Hid (zs.length=j):=hzl
    clear hzl
    obtain⟨x0,x1,x2⟩:=box3w RS.wk
    obtain⟨y0,y1,y2,y3,y4,y5⟩:=box6 RS.xb
    have l:=RS.lt
    have l0:N<wr.heap.size:=by omega
    have l1:N+1<wr.heap.size:=by omega
    have l2:N+2<wr.heap.size:=by omega
    have lw6:Wk<wr.heap.size:=by omega
    by_cases tgo:j<yn∧bad=false
    ·obtain⟨hlt,rfl⟩:=tgo
     obtain⟨yb,yoff,rfl,hyb,hyf,ey⟩:=IntsAt.at (HK.out _ RS.fr).2.2 hlt
     have hyb2:yb<wr.heap.size:=by omega
     by_cases tk:x.kids.getD j 0=nj
     ·have HST:Hid _:=HF.out.step (by have:=HYL.out;omega) tk
      rw[tk] at ey
      have hss:((nj:Int) != (nj:Int))=false:=by simp
      have hdec:decide ((j:Int)<(yn:Int))=true:=by simp;omega
      go_upto_region 14 with fail
      go_quiet (fail)
      have RD:RSt w (wr.drewN nq) A B Wk N #[.slice (some ⟨b,off,none⟩) n c,.int .i64 nj,.bool false] #[.bool false,.int .i64 pg,.slice ka kn kc,.slice va vn vc,.slice oa on oc,.slice (some ⟨yb,yoff,none⟩) yn yc] pg va vn vc oa on oc zs ra rc css:=RS.below ⟨rfl,rfl,rfl,Nat.le_refl _,fun _ _=>rfl⟩
      generalize wr.drewN nq=Wd at RD ⊢
      clear x0 x1 x2 y0 y1 y2 y3 y4 y5 RS ey l l0 l1 l2 lw6 hyb2
      have hTd:NodesAt Wd A B (some ⟨b,off,none⟩) n c ts:=HT.out.keep (fun k h1 h2=>RD.fr.block k (by omega) (by omega))
      go_wp2_with fail
      have hIH:=IH.out nj Wd (by have:=HNX.out;omega) (by have:=HNX.out;omega) (by have:=RD.fr.size;omega) hTd hWk RD.wk
      refine hIH.mono ?_
      rintro e w1 hRA
      obtain⟨ka1,kn1,kc1,va1,vn1,vc1,oa1,on1,oc1,ya1,yc1,css1,rfl,hX1⟩:=hRA.ex
      have R1:=RD.call hRA.fr hRA.wk
      have hsd:=hRA.fr.size
      have hd3:=RD.lt
      have hrow:=RD.row
      obtain⟨t1,ht1⟩:∃ t1,t1=(rd ts f nj).1:=⟨_,rfl⟩
      obtain⟨nj1,hnj1⟩:∃ nj1,nj1=(rd ts f nj).2.1:=⟨_,rfl⟩
      obtain⟨bd1,hbd1⟩:∃ bd1,bd1=(rd ts f nj).2.2:=⟨_,rfl⟩
      rw[<-ht1,<-hnj1,<-hbd1] at HST
      rw[<-ht1] at hX1
      rw[<-hnj1,<-hbd1] at R1
      rw[<-ht1]
      clear ht1 hnj1 hbd1 hRA hIH hTd
      have hNode:NodeIs w1 A B (fun b=>N+3<=b∧b<w1.heap.size∧∀ g,(Value.slice ra zs.length rc).ownBlock=some g->b≠g) t1 [.bool t1.leaf,.int .i64 t1.page,.slice ka1 kn1 kc1,.slice va1 vn1 vc1,.slice oa1 on1 oc1,.slice ya1 t1.kids.length yc1] :=
       NodeIs.keep (Keeps.refl _ _ _) (fun _ _=>rfl) (fun q hq=>⟨by omega,hq.2,fun g hg=>by have:=(hrow.lt g hg).2;omega⟩) (Nat.le_refl _) (Nat.le_refl _) t1 _ hX1.mk'
      generalize t1.leaf=lf1 at hNode ⊢
      generalize t1.page=pg1 at hNode ⊢
      generalize t1.kids.length=yn1 at hNode ⊢
      have ha1:=(Below.refl w1.heap.size w1).alloc (Nat.le_refl _) (.cells #[.bool lf1,.int .i64 pg1,.slice ka1 kn1 kc1,.slice va1 vn1 vc1,.slice oa1 on1 oc1,.slice ya1 yn1 yc1] 49)
      have ha2:=(Below.refl (w1.alloc (.cells #[.bool lf1,.int .i64 pg1,.slice ka1 kn1 kc1,.slice va1 vn1 vc1,.slice oa1 on1 oc1,.slice ya1 yn1 yc1] 49)).heap.size (w1.alloc (.cells #[.bool lf1,.int .i64 pg1,.slice ka1 kn1 kc1,.slice va1 vn1 vc1,.slice oa1 on1 oc1,.slice ya1 yn1 yc1] 49))).alloc (Nat.le_refl _) (.cells #[.bool lf1,.int .i64 pg1,.slice ka1 kn1 kc1,.slice va1 vn1 vc1,.slice oa1 on1 oc1,.slice ya1 yn1 yc1] 49)
      have R2:=R1.below ha1
      have R3:=R2.below ha2
      have hk2:Below w1.heap.size w1 ((w1.alloc (.cells #[.bool lf1,.int .i64 pg1,.slice ka1 kn1 kc1,.slice va1 vn1 vc1,.slice oa1 on1 oc1,.slice ya1 yn1 yc1] 49)).alloc (.cells #[.bool lf1,.int .i64 pg1,.slice ka1 kn1 kc1,.slice va1 vn1 vc1,.slice oa1 on1 oc1,.slice ya1 yn1 yc1] 49)):=ha1.trans (ha2.mono (by simp))
      have hNode3:NodeIs ((w1.alloc (.cells #[.bool lf1,.int .i64 pg1,.slice ka1 kn1 kc1,.slice va1 vn1 vc1,.slice oa1 on1 oc1,.slice ya1 yn1 yc1] 49)).alloc (.cells #[.bool lf1,.int .i64 pg1,.slice ka1 kn1 kc1,.slice va1 vn1 vc1,.slice oa1 on1 oc1,.slice ya1 yn1 yc1] 49)) A B (fun b=>N+3<=b∧b<((w1.alloc (.cells #[.bool lf1,.int .i64 pg1,.slice ka1 kn1 kc1,.slice va1 vn1 vc1,.slice oa1 on1 oc1,.slice ya1 yn1 yc1] 49)).alloc (.cells #[.bool lf1,.int .i64 pg1,.slice ka1 kn1 kc1,.slice va1 vn1 vc1,.slice oa1 on1 oc1,.slice ya1 yn1 yc1] 49)).heap.size∧∀ g,(Value.slice ra zs.length rc).ownBlock=some g->b≠g) t1 [.bool lf1,.int .i64 pg1,.slice ka1 kn1 kc1,.slice va1 vn1 vc1,.slice oa1 on1 oc1,.slice ya1 yn1 yc1] :=
       NodeIs.keep (fun k h1 h2=>hk2.block k (by have:=R1.lt;have:=R1.wlt;omega)) (fun q hq=>hk2.block q hq.2.1) (fun q hq=>⟨hq.1,Nat.lt_of_lt_of_le hq.2.1 hk2.size,hq.2.2⟩) (Nat.le_refl _) (Nat.le_refl _) t1 _ hNode
      clear hNode hX1 hrow
      obtain⟨n0,n1,n2,n3,n4,n5⟩:=box6 R1.nb
      have lt1:=R1.lt
      have l2:N+2<w1.heap.size:=by omega
      have fnb:=thawT R3.nb
      have hrow3:=R3.row
      have hzn:=HZL.out
      rw[hzn] at hrow3 n5
      clear RD hss hdec hsd hd3
      have hcells:=cell_six_new (w1.alloc (.cells #[.bool lf1,.int .i64 pg1,.slice ka1 kn1 kc1,.slice va1 vn1 vc1,.slice oa1 on1 oc1,.slice ya1 yn1 yc1] 49)) (.bool lf1) (.int .i64 pg1) (.slice ka1 kn1 kc1) (.slice va1 vn1 vc1) (.slice oa1 on1 oc1) (.slice ya1 yn1 yc1) 49
      have hs1:(w1.alloc (.cells #[.bool lf1,.int .i64 pg1,.slice ka1 kn1 kc1,.slice va1 vn1 vc1,.slice oa1 on1 oc1,.slice ya1 yn1 yc1] 49)).heap.size=w1.heap.size+1:=by simp
      rw[hs1] at hcells
      have HPU:Hid (∀ v' w4,w4.ownsRow (N+4) 49 6 v' (j+1) (rowsC css j++[.bool lf1,.int .i64 pg1,.slice ka1 kn1 kc1,.slice va1 vn1 vc1,.slice oa1 on1 oc1,.slice ya1 yn1 yc1])->((w1.alloc (.cells #[.bool lf1,.int .i64 pg1,.slice ka1 kn1 kc1,.slice va1 vn1 vc1,.slice oa1 on1 oc1,.slice ya1 yn1 yc1] 49)).alloc (.cells #[.bool lf1,.int .i64 pg1,.slice ka1 kn1 kc1,.slice va1 vn1 vc1,.slice oa1 on1 oc1,.slice ya1 yn1 yc1] 49)).grownBy w4 (Value.slice ra j rc).ownBlock->(v'.ownBlock=(Value.slice ra j rc).ownBlock∨∀ g,v'.ownBlock=some g->((w1.alloc (.cells #[.bool lf1,.int .i64 pg1,.slice ka1 kn1 kc1,.slice va1 vn1 vc1,.slice oa1 on1 oc1,.slice ya1 yn1 yc1] 49)).alloc (.cells #[.bool lf1,.int .i64 pg1,.slice ka1 kn1 kc1,.slice va1 vn1 vc1,.slice oa1 on1 oc1,.slice ya1 yn1 yc1] 49)).heap.size<=g)->∃ ra' rc',v'=.slice ra' (j+1) rc'∧RSt w (w4.setCell ⟨N+2,5,none⟩ v') A B Wk N #[.slice (some ⟨b,off,none⟩) n c,.int .i64 nj1,.bool bd1] #[.bool false,.int .i64 pg,.slice ka kn kc,.slice va vn vc,.slice oa on oc,.slice (some ⟨yb,yoff,none⟩) yn yc] pg va vn vc oa on oc (zs++[t1]) ra' rc' (fun i=>if i=zs.length then [.bool lf1,.int .i64 pg1,.slice ka1 kn1 kc1,.slice va1 vn1 vc1,.slice oa1 on1 oc1,.slice ya1 yn1 yc1] else css i)∧w4.heap[N+2]?=some (.cells #[.bool false,.int .i64 pg,.slice (some ⟨N+3,0,none⟩) 0 0,.slice va vn vc,.slice oa on oc,.slice ra j rc] 49)):=by
       intro v' w4 h1 h2 h3
       rw[<-hzn] at h1 h2 h3
       obtain⟨ra',rc',e,hp⟩:=R3.push (t:=t1) rfl hNode3 h1 h2 h3
       have hnb:=R3.nb
       have hlt3:=R3.lt
       rw[hzn] at e hnb
       refine⟨ra',rc',e,hp,(h2.block (N+2) (by omega) (fun e2=>?_)).trans hnb⟩
       have:=(R3.row.lt (N+2) e2.symm).1
       omega
      clear R3 hNode3 R2 R1 ha1 ha2 hk2 fnb
      go_wp2_with (at_builtin;refine wpList_append_ownD _ rfl _ _ 47 rfl (N+4) 49 i0 _ 6 112 Tryz.underlying47 hi hz0 hz1 hz2 rfl (by decide) _ _ _ rfl hrow3 ⟨w1.heap.size+1,0,none⟩ 1 1 [.bool lf1,.int .i64 pg1,.slice ka1 kn1 kc1,.slice va1 vn1 vc1,.slice oa1 on1 oc1,.slice ya1 yn1 yc1] rfl rfl hcells (by simp[Value.oneCell']) (by unfold maxLen;omega) (by omega) (by simp;omega) ?_;intro v' w4 hown' hgr hat;obtain⟨ra',rc',rfl,RP,nb4⟩:=HPU.out v' w4 hown' hgr hat;have l4:=(Array.getElem?_eq_some_iff.1 nb4).1;obtain⟨m0,m1,m2,m3,m4,m5⟩:=box6 nb4;have f4:=thawT nb4;clear hown' hgr hat HPU hrow3 hcells nb4)
      go_roundw
      case rel=>exact⟨j+1,zs++[t1],nj1,bd1,ra',rc',_,by go_num,by omega,HST,RP⟩
      case measure=>simp[intOf];omega
     ·have HSP:Hid _:=HF.out.stop (by have:=HYL.out;omega) tk
      have hss:(x.kids.getD j 0 != (nj:Int))=true:=by simpa using tk
      generalize x.kids.getD j 0=kv at ey hss hyf
      clear tk
      go_upto_region 14 with fail
      go_quiet (fail)
      have RD:RSt w (wr.drewN nq) A B Wk N #[.slice (some ⟨b,off,none⟩) n c,.int .i64 nj,.bool false] #[.bool false,.int .i64 pg,.slice ka kn kc,.slice va vn vc,.slice oa on oc,.slice (some ⟨yb,yoff,none⟩) yn yc] pg va vn vc oa on oc zs ra rc css:=RS.below ⟨rfl,rfl,rfl,Nat.le_refl _,fun _ _=>rfl⟩
      generalize wr.drewN nq=Wd at RD ⊢
      clear x0 x1 x2 y0 y1 y2 y3 y4 y5 RS ey l l0 l1 l2 lw6 hyb2
      have RE:RSt w (Wd.setCell ⟨Wk,2,none⟩ (.bool true)) A B Wk N #[.slice (some ⟨b,off,none⟩) n c,.int .i64 nj,.bool true] #[.bool false,.int .i64 pg,.slice ka kn kc,.slice va vn vc,.slice oa on oc,.slice (some ⟨yb,yoff,none⟩) yn yc] pg va vn vc oa on oc zs ra rc css:=RD.call (fr_setT Wd Wk 2 (.bool true)) (by simpa using heap_setT RD.wk 2 (.bool true))
      obtain⟨x0,x1,x2⟩:=box3w RD.wk
      have fw:=thawT RD.wk
      have lw:Wk<Wd.heap.size:=by have:=RD.lt;have:=RD.wlt;omega
      go_upto_region 16 with fail
      generalize Wd.setCell ⟨Wk,2,none⟩ (.bool true)=We at RE ⊢
      clear x0 x1 x2 fw lw RD
      have hrd:=HR2.out _ _ _ HSP.out
      have hfin:=fun h=>RSt.fin (ts:=ts) (f:=f+1) (nx:=nx) RE hpg (HK.out _ RE.fr).1 (HK.out _ RE.fr).2.1 h hrd
      have HFN:Hid _:=hfin
      have hzn:=HZL.out
      have hbox:=put6T_box RE.rb (.bool false) (.int .i64 pg) (.slice (some ⟨N+3,0,none⟩) 0 0) (.slice va vn vc) (.slice oa on oc) (.slice ra zs.length rc)
      have HBX:Hid _:=hbox
      obtain⟨n0,n1,n2,n3,n4,n5⟩:=box6 RE.nb
      obtain⟨r0,r1,r2,r3,r4,r5⟩:=box6 RE.rb
      have fr:=thawT RE.rb
      have l:=RE.lt
      have l0:N<We.heap.size:=by omega
      have l2:N+2<We.heap.size:=by omega
      have hzm:zs.length<=maxLen:=by unfold maxLen;omega
      generalize zs.length=zl at hzn n5 HFN HBX hzm
      clear hfin hbox hrd RE HSP HF HZL hzn
      go_wp2_with fail
      show bodyPost _ _ _ _ _ (put6T We N (.bool false) (.int .i64 pg) (.slice (some ⟨N+3,0,none⟩) 0 0) (.slice va vn vc) (.slice oa on oc) (.slice ra zl rc))
      obtain⟨p0,p1,p2,p3,p4,p5⟩:=box6 HBX.out
      refine bodyPost_ret (v:=.agg #[.bool false,.int .i64 pg,.slice (some ⟨N+3,0,none⟩) 0 0,.slice va vn vc,.slice oa on oc,.slice ra zl rc]) (by simp[results,Tryz.results42,go_sem,p0,p1,p2,p3,p4,p5]) rfl ?_
      exact HFN.out hzm
    ·have hdone:=HF.out.done (fun h=>by
      cases bad with
      | true=>rfl
      | false=>exact absurd ⟨by have:=HYL.out;omega,rfl⟩ tgo) (by have:=HYL.out;omega)
     have hrd:=HR2.out _ _ _ hdone
     have hfin:=fun h=>RSt.fin (ts:=ts) (f:=f+1) (nx:=nx) RS hpg (HK.out _ RS.fr).1 (HK.out _ RS.fr).2.1 h hrd
     have HFN:Hid _:=hfin
     have hzn:=HZL.out
     have hbox:=put6T_box RS.rb (.bool false) (.int .i64 pg) (.slice (some ⟨N+3,0,none⟩) 0 0) (.slice va vn vc) (.slice oa on oc) (.slice ra zs.length rc)
     have HBX:Hid _:=hbox
     obtain⟨n0,n1,n2,n3,n4,n5⟩:=box6 RS.nb
     obtain⟨r0,r1,r2,r3,r4,r5⟩:=box6 RS.rb
     have fr:=thawT RS.rb
     have hzm:zs.length<=maxLen:=by unfold maxLen;omega
     generalize zs.length=zl at hzn n5 HFN HBX hzm
     have tgo2:¬ j<yn∨bad=true:=by
      by_cases h:j<yn
      ·exact .inr (by cases bad with | true=>rfl | false=>exact absurd ⟨h,rfl⟩ tgo)
      ·exact .inl h
     clear hfin hbox hrd RS HF HZL hzn hdone tgo
     rcases tgo2 with hge | rfl
     ·have hdec:decide ((j:Int)<(yn:Int))=false:=by simp;omega
      go_wp2_with fail
      show bodyPost _ _ _ _ _ (put6T wr N (.bool false) (.int .i64 pg) (.slice (some ⟨N+3,0,none⟩) 0 0) (.slice va vn vc) (.slice oa on oc) (.slice ra zl rc))
      obtain⟨p0,p1,p2,p3,p4,p5⟩:=box6 HBX.out
      refine bodyPost_ret (v:=.agg #[.bool false,.int .i64 pg,.slice (some ⟨N+3,0,none⟩) 0 0,.slice va vn vc,.slice oa on oc,.slice ra zl rc]) (by simp[results,Tryz.results42,go_sem,p0,p1,p2,p3,p4,p5]) rfl ?_
      exact HFN.out hzm
     ·by_cases hge:j<yn
      ·have hdec:decide ((j:Int)<(yn:Int))=true:=by simp;omega
       go_wp2_with fail
       show bodyPost _ _ _ _ _ (put6T wr N (.bool false) (.int .i64 pg) (.slice (some ⟨N+3,0,none⟩) 0 0) (.slice va vn vc) (.slice oa on oc) (.slice ra zl rc))
       obtain⟨p0,p1,p2,p3,p4,p5⟩:=box6 HBX.out
       refine bodyPost_ret (v:=.agg #[.bool false,.int .i64 pg,.slice (some ⟨N+3,0,none⟩) 0 0,.slice va vn vc,.slice oa on oc,.slice ra zl rc]) (by simp[results,Tryz.results42,go_sem,p0,p1,p2,p3,p4,p5]) rfl ?_
       exact HFN.out hzm
      ·have hdec:decide ((j:Int)<(yn:Int))=false:=by simp;omega
       go_wp2_with fail
       show bodyPost _ _ _ _ _ (put6T wr N (.bool false) (.int .i64 pg) (.slice (some ⟨N+3,0,none⟩) 0 0) (.slice va vn vc) (.slice oa on oc) (.slice ra zl rc))
       obtain⟨p0,p1,p2,p3,p4,p5⟩:=box6 HBX.out
       refine bodyPost_ret (v:=.agg #[.bool false,.int .i64 pg,.slice (some ⟨N+3,0,none⟩) 0 0,.slice va vn vc,.slice oa on oc,.slice ra zl rc]) (by simp[results,Tryz.results42,go_sem,p0,p1,p2,p3,p4,p5]) rfl ?_
       exact HFN.out hzm
theorem l3Read_any (ts:List TN) (hm:ts.length<=1000) (a:Option Addr) (n c A B Wk:Nat):∀ f,ReadAll ts f a n c A B Wk
 | 0=>fun nx w h1 h2=>by omega
 | f+1=>fun nx w h1 h2 hB hT hWk hW=>by
  by_cases hlt:nx<ts.length
  ·by_cases hl:(ts.getD nx dT).leaf=true
   ·exact l3Read_leaf ts f nx a n c A B Wk w hB hT hlt hm hl hWk hW
   ·exact l3Read_inner ts f nx a n c A B Wk (l3Read_any ts hm a n c A B Wk f) w hB hT hlt h2 hm (by simpa using hl) hWk hW
  ·exact l3Read_end ts f nx a n c A B Wk w hB (by omega) hm hT.1 hWk hW
theorem run_append_zeroT {P:Program} (w:World) (base:Nat) (t ty e:TypeId) (i:TypeInfo) (size:Nat) (ht:P.underlying t=some (.slice e)) (hi:P.info? e=some i)
  (v:Value) (n:Nat) (xs:List Value) (hown:w.ownsRow base e size v n xs) (c:Nat) :
  (Builtin.append_ #[t,t] ty #[v,.slice none 0 c]).run P w=.ok v w:=by
 rcases hown.2 with ⟨rfl,rfl⟩ | ⟨g,cap,cur,rfl,_,_,hnc,_⟩
 ·simp[Builtin.append_,run_underlying ht,sizeOf,typeInfo,hi,Builtin.lenOf,Builtin.firstCells]
 ·simp[Builtin.append_,run_underlying ht,sizeOf,typeInfo,hi,Builtin.lenOf,Builtin.firstCells,hnc,storeCells]
theorem wpList_append_rowsT {α:Type} {P:Program} (w:World) {ops:Array Oper} {rest:List Oper} {o:Oper} {a:Act} {Q:Exit->Act->World->Prop} (hgd:o.guard=none) (s x:Operand) (t:TypeId)
  (ho:o.op=.call { callee:=.builtin .append,args:=#[s,x],argTypes:=#[t,t] })
  (base:Nat) (e:TypeId) (i:TypeInfo) (z:Value) (bytes:Nat) (ht:P.underlying t=some (.slice e)) (hi:P.info? e=some i) (hz:i.zero=some z)
  (hsize:i.size=1) (hby:i.bytes=bytes) (hzs:z.cells.size=1)
  (g n cp:Nat) (xs:List Value) (hs:a.eval s=.slice (some ⟨g,0,none⟩) n cp) (hown:w.ownsRow base e 1 (.slice (some ⟨g,0,none⟩) n cp) n xs)
  {cs:α->List Value} {fit:α->Prop} {d:α} (hm:∀ x,(cs x).length=1) (h1:∀ x,∀ u ∈ cs x,u.oneCell'=true) {A B:Nat} {ad:Option Addr} {m c:Nat} {ys:List α} (hx:a.eval x=.slice ad m c) (hr:RowsAt w A B 1 cs fit d ad m c ys)
  (h63:n+m<=maxLen) (hbytes:(n+m)*bytes<=140737488355328) (hbase:base<=w.heap.size)
  (h:∀ g' c' w',w'.ownsRow base e 1 (.slice (some ⟨g',0,none⟩) (n+m) c') (n+m) (xs++rowsOf cs ys)->w.grownBy w' (some g)->wpList P ops Q rest (a.put o.dst (.slice (some ⟨g',0,none⟩) (n+m) c')) w'):wpList P ops Q (o::rest) a w:=by
 have hl:=hr.1
 cases ad with
 | none =>
  have h0:m=0:=by
   rcases Nat.eq_zero_or_pos m with h | h
   ·exact h
   ·obtain⟨b,off,e,_⟩:=hr.2.2.2.2 h;cases e
  subst h0
  have hy:ys=[]:=List.eq_nil_of_length_eq_zero hl
  subst hy
  refine wpList_plain hgd fun _ hK=>?_
  have hrun:=run_append_zeroT (P:=P) w base t o.type e i 1 ht hi _ n xs hown c
  unfold Oper.wp execOp
  simp only[ho,resolve,invoke,builtin,Sem.run_bind,Sem.run_pure,Result.andThen_ok,List.map_toArray,List.map_cons,List.map_nil,hs,hx,hrun]
  refine hK _ _ ?_
  have:=h g cp w (by simpa[rowsOf] using hown) ⟨rfl,rfl,rfl,Nat.le_refl _,fun _ _ _=>rfl⟩
  simpa using this
 | some ad =>
  refine wpList_append_someT w hgd s x t ho base e i z 1 bytes ht hi hz hsize hby hzs (by omega) g n cp xs hs hown ad m c (rowsOf cs ys) hx (by rw[rowsOf_length hm,hl]) (fun j u hj=>?_) (fun u hu=>?_) h63 hbytes hbase h
  ·have hjl:j<m:=by
    have:=(List.getElem?_eq_some_iff.1 hj).1
    rw[rowsOf_length hm,hl] at this
    omega
   obtain⟨b,off,e,hb,hc⟩:=hr.2.2.2.2 (by omega)
   cases e
   have h2:=hc j hjl 0 (by omega)
   have h3:=rowsOf_get hm d ys j 0 (by omega) (by omega)
   simp only[Nat.mul_one,Nat.add_zero] at h2 h3
   rw[h3] at hj
   rw[show (⟨b,off,none⟩:Addr).add j=⟨b,off+j,none⟩ by simp[Addr.add],h2,hj]
  ·simp only[rowsOf,List.mem_flatMap] at hu
   obtain⟨y,_,hy⟩:=hu
   exact h1 y u hy
theorem one_str1:∀ x,∀ u ∈ strCells x,u.oneCell'=true:=fun x u hu=>by
 simp[strCells] at hu;subst hu;rfl
theorem one_int1:∀ x,∀ u ∈ intCells x,u.oneCell'=true:=fun x u hu=>by
 simp[intCells] at hu;subst hu;rfl
def Off (w:World) (lo g:Nat) (R:World->Nat->Nat->Prop):Prop:=∃ A,lo<=A∧A≠g∧A<w.heap.size∧R w A (A+1)
theorem Off.keep {w w':World} {lo g g':Nat} {R:World->Nat->Nat->Prop} (h:Off w lo g R) (hR:∀ A,R w A (A+1)->w'.heap[A]?=w.heap[A]?->R w' A (A+1)) (hk:∀ k,lo<=k->k<w.heap.size->k≠g->w'.heap[k]?=w.heap[k]?) (hg:g'=g∨w.heap.size<=g') (hs:w.heap.size<=w'.heap.size):Off w' lo g' R:=by
 obtain⟨A,h1,h2,h3,h4⟩:=h
 exact⟨A,h1,by rcases hg with rfl | hg<;>omega,by omega,hR A h4 (hk A h1 h3 h2)⟩
theorem rows_keep1 {α:Type} {m:Nat} {cs:α->List Value} {fit:α->Prop} {d:α} {a:Option Addr} {n c:Nat} {xs:List α} {w w':World} (A:Nat) (h:RowsAt w A (A+1) m cs fit d a n c xs) (hk:w'.heap[A]?=w.heap[A]?):RowsAt w' A (A+1) m cs fit d a n c xs :=
 h.keep (fun k h1 h2=>by obtain rfl:k=A:=by omega
                         exact hk)
def FNode (w:World) (lo g:Nat) (t:TN) (cs:List Value):Prop:=∃ (ka:Option Addr) (kn kc:Nat) (va:Option Addr) (vn vc:Nat) (oa:Option Addr) (on oc:Nat) (ya:Option Addr) (yn yc:Nat),cs=[.bool t.leaf,.int .i64 t.page,.slice ka kn kc,.slice va vn vc,.slice oa on oc,.slice ya yn yc]∧I64 t.page ∧
 Off w lo g (fun w A B=>StrsAt w A B ka kn kc t.keys)∧Off w lo g (fun w A B=>StrsAt w A B va vn vc t.vals)∧Off w lo g (fun w A B=>IntsAt w A B oa on oc t.over)∧Off w lo g (fun w A B=>IntsAt w A B ya yn yc t.kids)
theorem FNode.keep {w w':World} {lo g g':Nat} {t:TN} {cs:List Value} (h:FNode w lo g t cs) (hk:∀ k,lo<=k->k<w.heap.size->k≠g->w'.heap[k]?=w.heap[k]?) (hg:g'=g∨w.heap.size<=g') (hs:w.heap.size<=w'.heap.size):FNode w' lo g' t cs:=by
 obtain⟨ka,kn,kc,va,vn,vc,oa,on,oc,ya,yn,yc,e,h0,h1,h2,h3,h4⟩:=h
 exact⟨ka,kn,kc,va,vn,vc,oa,on,oc,ya,yn,yc,e,h0,h1.keep (fun A=>rows_keep1 A) hk hg hs,h2.keep (fun A=>rows_keep1 A) hk hg hs,h3.keep (fun A=>rows_keep1 A) hk hg hs,h4.keep (fun A=>rows_keep1 A) hk hg hs⟩
structure FlatAt (w:World) (lo g c:Nat) (css:Nat->List Value) (ts:List TN):Prop where
 row:w.ownsRow lo 103 6 (.slice (some ⟨g,0,none⟩) ts.length c) ts.length (rowsC css ts.length)
 node:∀ i t,ts[i]?=some t->(css i).length=6∧FNode w lo g t (css i)
theorem FlatAt.lt {w:World} {lo g c:Nat} {css:Nat->List Value} {ts:List TN} (h:FlatAt w lo g c css ts):lo<=g∧g<w.heap.size:=h.row.lt g rfl
theorem FlatAt.fr {S:Nat->Prop} {w w':World} {lo g c:Nat} {css:Nat->List Value} {ts:List TN} (h:FlatAt w lo g c css ts) (hf:Fr S w w') (hS:∀ k,lo<=k->k<w.heap.size->¬ S k):FlatAt w' lo g c css ts :=
 ⟨owns_fr h.row hf (fun q hq=>hS q (h.row.lt q hq).1 (h.row.lt q hq).2),fun i t hi=>⟨(h.node i t hi).1,(h.node i t hi).2.keep (fun k h1 h2 _=>hf.block k h2 (hS k h1 h2)) (.inl rfl) hf.size⟩⟩
theorem FlatAt.below {w w':World} {lo g c:Nat} {css:Nat->List Value} {ts:List TN} (h:FlatAt w lo g c css ts) (hb:Below w.heap.size w w'):FlatAt w' lo g c css ts :=
 h.fr (S:=fun _=>False) (Fr.of_below hb) (fun _ _ _ e=>e)
theorem FlatAt.push {w w4:World} {lo g c g' c':Nat} {css:Nat->List Value} {ts:List TN} {t:TN} {kcs:List Value} (h:FlatAt w lo g c css ts) (hk6:kcs.length=6) (hk:FNode w lo g t kcs)
  (hown:w4.ownsRow lo 103 6 (.slice (some ⟨g',0,none⟩) (ts.length+1) c') (ts.length+1) (rowsC css ts.length++kcs)) (hgr:w.grownBy w4 (some g)) (hat:g'=g∨w.heap.size<=g') :
  FlatAt w4 lo g' c' (fun i=>if i=ts.length then kcs else css i) (ts++[t]):=by
 have hzl:(ts++[t]).length=ts.length+1:=by simp
 have hG:∀ k,lo<=k->k<w.heap.size->k≠g->w4.heap[k]?=w.heap[k]?:=fun k _ h1 h2=>hgr.block k h1 (fun e=>h2 (by simpa using e))
 refine⟨?_,fun i x hx=>?_⟩
 ·rw[hzl,rowsC_succ,if_pos rfl,rowsC_congr (css:=css) (fun i hi=>if_neg (by omega))]
  exact hown
 ·by_cases hi:i=ts.length
  ·subst hi
   rw[List.getElem?_append_right (Nat.le_refl _)] at hx
   simp at hx
   subst hx
   simp only[if_true]
   exact⟨hk6,hk.keep hG hat hgr.size⟩
  ·have hi2:i<ts.length:=by
    have:=(List.getElem?_eq_some_iff.1 hx).1
    simp at this
    omega
   rw[List.getElem?_append_left hi2] at hx
   simp only[hi,if_false]
   exact⟨(h.node i x hx).1,(h.node i x hx).2.keep hG hat hgr.size⟩
theorem wpList_append_nodeT {P:Program} (w:World) {ops:Array Oper} {rest:List Oper} {o:Oper} {a:Act} {Q:Exit->Act->World->Prop} (hgd:o.guard=none) (s x:Operand) (t:TypeId)
  (ho:o.op=.call { callee:=.builtin .append,args:=#[s,x],argTypes:=#[t,t] })
  (base:Nat) (e:TypeId) (i:TypeInfo) (z:Value) (size bytes:Nat) (ht:P.underlying t=some (.slice e)) (hi:P.info? e=some i) (hz:i.zero=some z)
  (hsize:i.size=size) (hby:i.bytes=bytes) (hzs:z.cells.size=size) (hsz:0<size)
  (g n cp:Nat) (xs:List Value) (hs:a.eval s=.slice (some ⟨g,0,none⟩) n cp) (hown:w.ownsRow base e size (.slice (some ⟨g,0,none⟩) n cp) n xs)
  (ad:Addr) (c:Nat) (news:List Value) (hx:a.eval x=.slice (some ad) 1 c) (hl:news.length=size) (hnews:∀ j u,news[j]?=some u->w.cell? (ad.add j)=some u) (h1:∀ u ∈ news,u.oneCell'=true)
  (h63:n+1<=maxLen) (hbytes:(n+1)*bytes<=140737488355328) (hbase:base<=w.heap.size)
  (h:∀ g' c' w',w'.ownsRow base e size (.slice (some ⟨g',0,none⟩) (n+1) c') (n+1) (xs++news)->w.grownBy w' (some g)->(g'=g∨w.heap.size<=g')->wpList P ops Q rest (a.put o.dst (.slice (some ⟨g',0,none⟩) (n+1) c')) w'):wpList P ops Q (o::rest) a w:=by
 refine wpList_append_ownD w hgd s x t ho base e i z size bytes ht hi hz hsize hby hzs hsz _ n xs hs hown ad 1 c news hx (by omega) hnews h1 h63 hbytes hbase fun v' w' h2 h3 h4=>?_
 obtain⟨g',c',rfl⟩:=some_of_pos h2 (by omega)
 refine h g' c' w' h2 h3 ?_
 rcases h4 with e | e
 ·left;simpa[Value.ownBlock] using e
 ·right;exact e g' rfl
theorem FlatAt.nodes {w:World} {lo g c:Nat} {css:Nat->List Value} {ts:List TN} (h:FlatAt w lo g c css ts):NodesAt w lo w.heap.size (some ⟨g,0,none⟩) ts.length c ts:=by
 have hlen:=(rowsC_get (css:=css) (m:=ts.length) (fun i hi=>(h.node i ts[i] (List.getElem?_eq_getElem hi)).1)).2
 rcases h.row.2 with ⟨e,e2⟩ | ⟨g0,cap,cur,e,hg1,hg2,h1,h2,_⟩
 ·simp at e
 ·simp only[Value.slice.injEq,Option.some.injEq,Addr.mk.injEq] at e
  obtain⟨⟨rfl,_⟩,_,rfl⟩:=e
  refine⟨rfl,h1,h2,fun hn=>⟨g,0,rfl,h.lt,fun i hi=>?_⟩⟩
  obtain⟨hl6,ka,kn,kc,va,vn,vc,oa,on,oc,ya,yn,yc,e,h0,⟨A1,a1,a2,a3,a4⟩,⟨A2,b1,b2,b3,b4⟩,⟨A3,c1,c2,c3,c4⟩,⟨A4,d1,d2,d3,d4⟩⟩:=h.node i ts[i] (List.getElem?_eq_getElem hi)
  have hd:ts.getD i dT=ts[i]:=by simp[List.getD,hi]
  have hc:∀ j,j<6->w.cell? ⟨g,0+i*6+j,none⟩=(css i)[j]?:=fun j hj=>by
   rw[Nat.zero_add,h.row.cellAt (i*6+j) (by omega)]
   exact hlen i j hi hj
  rw[e] at hc
  rw[hd]
  exact⟨ka,kn,kc,va,vn,vc,oa,on,oc,ya,yn,yc,by simpa using hc 0 (by omega),by simpa using hc 1 (by omega),by simpa using hc 2 (by omega),by simpa using hc 3 (by omega),by simpa using hc 4 (by omega),by simpa using hc 5 (by omega),h0,a4.up a1 (by omega),b4.up b1 (by omega),c4.up c1 (by omega),d4.up d1 (by omega)⟩
end Go.Proofs.YtkhglgalbifcnaaGreat
