import Derived.Test.YtkhglgalbifcnaaGreatGAC
import Derived.Test.YtkhglgalbifcnaaGreatGAD
import Derived.Test.YtkhglgalbifcnaaGreatGAH
import Derived.Deep.QuietTactic
import Derived.BigQuiet
import Derived.Deep.DeepCutAuto
import Derived.Deep.RegionHeld3
namespace Go.Proofs.YtkhglgalbifcnaaGreat
set_option maxHeartbeats 2000000
open Go.RowKit
set_option linter.unusedVariables false
set_option linter.unusedSimpArgs false
set_option maxRecDepth 100000
def RRange (ts:List TN) (f:Nat):Prop:=∀ nx,nx<=ts.length->nx<=(rd ts f nx).2.1∧(rd ts f nx).2.1<=ts.length∧((rd ts f nx).2.2=false->nx<(rd ts f nx).2.1)
theorem rdK_range {ts:List TN} {f:Nat} (hf:RRange ts f):∀ (ks:List Int) (nx:Nat),nx<=ts.length->nx<=(rdK (rd ts f) ks nx).2.1∧(rdK (rd ts f) ks nx).2.1<=ts.length
 | [],nx,h=>by simp[rdK,h]
 | k::ks,nx,h=>by
  unfold rdK
  have h1:=hf nx h
  split
  ·split
   ·exact⟨h1.1,h1.2.1⟩
   ·have h2:=rdK_range hf ks (rd ts f nx).2.1 h1.2.1
    exact⟨by simp only;omega,h2.2⟩
  ·exact⟨Nat.le_refl _,h⟩
theorem rd_range (ts:List TN):∀ f,RRange ts f
 | 0=>by intro nx h;simp[rd,h]
 | f+1=>by
  have ih:=rd_range ts f
  intro nx h
  unfold rd
  split
  ·rename_i hlt
   split
   ·exact⟨by simp only;omega,by simp only;omega,fun _=>by simp only;omega⟩
   ·split
    ·exact⟨by simp only;omega,by simp only;omega,fun _=>by simp only;omega⟩
    ·have:=rdK_range ih (ts.getD nx dT).kids (nx+1) (by omega)
     exact⟨by simp only;omega,this.2,fun _=>by simp only;omega⟩
  ·exact⟨Nat.le_refl _,h,fun e=>by simp at e⟩
theorem info_l3N:(Tryz.prog.info? 49).map (fun i=>(i.zero,i.size,i.bytes))=some (some (.agg #[.bool false,.int .i64 0,.slice none 0 0,.slice none 0 0,.slice none 0 0,.slice none 0 0]),6,112):=by kernel_rfl
theorem box3w {w:World} {g:Nat} {v0 v1 v2:Value} {t:TypeId} (h:w.heap[g]?=some (.cells #[v0,v1,v2] t)):w.cell? ⟨g,0,none⟩=some v0∧w.cell? ⟨g,1,none⟩=some v1∧w.cell? ⟨g,2,none⟩=some v2:=by
 simp[World.cell?,h]
structure ReadAt (ts:List TN) (f nx:Nat) (a:Option Addr) (n c A B Wk:Nat) (w:World) (e:Ending) (w':World):Prop where
 ex:∃ ka kn kc va vn vc oa on oc ya yc css,e=.returned (.agg #[.bool (rd ts f nx).1.leaf,.int .i64 (rd ts f nx).1.page,.slice ka kn kc,.slice va vn vc,.slice oa on oc,.slice ya (rd ts f nx).1.kids.length yc])∧NodeX w' A B (fun b=>w.heap.size<=b∧b<w'.heap.size) (rd ts f nx).1 ka kn kc va vn vc oa on oc ya yc css
 wk:w'.heap[Wk]?=some (.cells #[.slice a n c,.int .i64 (rd ts f nx).2.1,.bool (rd ts f nx).2.2] 86)
 fr:Fr (fun g=>g=Wk) w w'
theorem l3Read_end (ts:List TN) (f nx:Nat) (a:Option Addr) (n c A B Wk:Nat) (w:World) (hB:B<=w.heap.size) (hnx:nx=ts.length) (hm:ts.length<=1000) (hl:ts.length=n) (hWk:B<=Wk) (hW:w.heap[Wk]?=some (.cells #[.slice a n c,.int .i64 nx,.bool false] 86)) :
  Calls Tryz.prog 42 #[.pointer (some ⟨Wk,0,none⟩)] w fun e w'=>ReadAt ts (f+1) nx a n c A B Wk w e w':=by
 have HRD:Hid (rd ts (f+1) nx=(leafT,nx,true)):=by
  show _=_
  unfold rd
  rw[if_neg (by omega)]
 have hlt:Wk<w.heap.size:=(Array.getElem?_eq_some_iff.1 hW).1
 have hnn:nx=n:=by omega
 subst hnn
 clear hnx hl
 have hb0:Below w.heap.size w (w.alloc (.cells #[.bool false,.int .i64 0,.slice none 0 0,.slice none 0 0,.slice none 0 0,.slice none 0 0] 49)):=(Below.refl _ _).alloc (Nat.le_refl _) _
 have R0:=heap_alloc_new w (.cells #[.bool false,.int .i64 0,.slice none 0 0,.slice none 0 0,.slice none 0 0,.slice none 0 0] 49)
 have W0:=(hb0.block Wk hlt).trans hW
 have s0:(w.alloc (.cells #[.bool false,.int .i64 0,.slice none 0 0,.slice none 0 0,.slice none 0 0,.slice none 0 0] 49)).heap.size=w.heap.size+1:=by simp
 obtain⟨N,hN⟩:∃ N,w.heap.size=N:=⟨_,rfl⟩
 rw[hN] at R0 s0
 obtain⟨x0,x1,x2⟩:=box3w W0
 go_enter Tryz.func42,Tryz.ntmps42
 go_wp2_with fail
 go_quiet (fail)
 have hb1:Below w.heap.size w ((w.alloc (.cells #[.bool false,.int .i64 0,.slice none 0 0,.slice none 0 0,.slice none 0 0,.slice none 0 0] 49)).drewN nq):=hb0.trans ⟨rfl,rfl,rfl,Nat.le_refl _,fun _ _=>rfl⟩
 have R1:((w.alloc (.cells #[.bool false,.int .i64 0,.slice none 0 0,.slice none 0 0,.slice none 0 0,.slice none 0 0] 49)).drewN nq).heap[N]?=some (.cells #[.bool false,.int .i64 0,.slice none 0 0,.slice none 0 0,.slice none 0 0,.slice none 0 0] 49):=R0
 have W1:((w.alloc (.cells #[.bool false,.int .i64 0,.slice none 0 0,.slice none 0 0,.slice none 0 0,.slice none 0 0] 49)).drewN nq).heap[Wk]?=some (.cells #[.slice a nx c,.int .i64 nx,.bool false] 86):=W0
 have s1:((w.alloc (.cells #[.bool false,.int .i64 0,.slice none 0 0,.slice none 0 0,.slice none 0 0,.slice none 0 0] 49)).drewN nq).heap.size=N+1:=s0
 generalize (w.alloc (.cells #[.bool false,.int .i64 0,.slice none 0 0,.slice none 0 0,.slice none 0 0,.slice none 0 0] 49)).drewN nq=V at hb1 R1 W1 s1 ⊢
 clear x0 x1 x2 hb0 R0 W0 s0
 obtain⟨x0,x1,x2⟩:=box3w W1
 have fw:=thawT W1
 have W2:=heap_setT W1 2 (.bool true)
 have f2:=fr_setT V Wk 2 (.bool true)
 have R2:=(f2.block N (by omega) (by omega)).trans R1
 obtain⟨r0,r1,r2,r3,r4,r5⟩:=box6 R2
 have fr2:=thawT R2
 have hbox:=put6T_box R2 (.bool true) (.int .i64 0) (.slice none 0 0) (.slice none 0 0) (.slice none 0 0) (.slice none 0 0)
 have hfr:=put6T_fr (V.setCell ⟨Wk,2,none⟩ (.bool true)) N (.bool true) (.int .i64 0) (.slice none 0 0) (.slice none 0 0) (.slice none 0 0) (.slice none 0 0)
 have s2:(V.setCell ⟨Wk,2,none⟩ (.bool true)).heap.size=N+1:=by simp[World.setCell,s1]
 have W3:=(hfr.block Wk (by omega) (by omega)).trans W2
 have hF:Fr (fun g=>g=Wk) w (put6T (V.setCell ⟨Wk,2,none⟩ (.bool true)) N (.bool true) (.int .i64 0) (.slice none 0 0) (.slice none 0 0) (.slice none 0 0) (.slice none 0 0)) :=
  ⟨hfr.os.trans (f2.os.trans hb1.os),hfr.tape.trans (f2.tape.trans hb1.tape),hfr.output.trans (f2.output.trans hb1.output),Nat.le_trans hb1.size (Nat.le_trans f2.size hfr.size),fun k hk hn=>(hfr.block k (by omega) (by omega)).trans ((f2.block k (by omega) hn).trans (hb1.block k hk))⟩
 go_wp2_with fail
 show bodyPost _ _ _ _ _ (put6T (V.setCell ⟨Wk,2,none⟩ (.bool true)) N (.bool true) (.int .i64 0) (.slice none 0 0) (.slice none 0 0) (.slice none 0 0) (.slice none 0 0))
 obtain⟨p0,p1,p2,p3,p4,p5⟩:=box6 hbox
 refine bodyPost_ret (v:=.agg #[.bool true,.int .i64 0,.slice none 0 0,.slice none 0 0,.slice none 0 0,.slice none 0 0]) (by simp[results,Tryz.results42,go_sem,p0,p1,p2,p3,p4,p5]) rfl ?_
 have hs0:∀ (w:World),StrsAt w A B none 0 0 []:=fun w=>⟨rfl,Nat.le_refl _,Nat.zero_le _,fun i hi=>by omega,fun h=>by omega⟩
 have hi0:∀ (w:World),IntsAt w A B none 0 0 []:=fun w=>⟨rfl,Nat.le_refl _,Nat.zero_le _,fun i hi=>by omega,fun h=>by omega⟩
 refine⟨⟨none,0,0,none,0,0,none,0,0,none,0,fun _=>[],?_,?_⟩,?_,hF⟩
 ·rw[HRD.out];rfl
 ·rw[HRD.out]
  exact⟨by unfold I64 leafT;simp,hs0 _,hs0 _,hi0 _,⟨Nat.le_refl _,Nat.zero_le _⟩,fun h=>by simp[leafT] at h,fun i k hk=>by simp[leafT] at hk⟩
 ·rw[HRD.out];exact W3
theorem l3Read_leaf (ts:List TN) (f nx:Nat) (a:Option Addr) (n c A B Wk:Nat) (w:World) (hB:B<=w.heap.size) (hT:NodesAt w A B a n c ts) (hnx:nx<ts.length) (hm:ts.length<=1000) (hlf:(ts.getD nx dT).leaf=true) (hWk:B<=Wk) (hW:w.heap[Wk]?=some (.cells #[.slice a n c,.int .i64 nx,.bool false] 86)) :
  Calls Tryz.prog 42 #[.pointer (some ⟨Wk,0,none⟩)] w fun e w'=>ReadAt ts (f+1) nx a n c A B Wk w e w':=by
 have HRD:Hid (rd ts (f+1) nx=(⟨true,(ts.getD nx dT).page,(ts.getD nx dT).keys,(ts.getD nx dT).vals,(ts.getD nx dT).over,[]⟩,nx+1,false)):=by
  show _=_
  unfold rd
  rw[if_pos hnx,if_pos hlf]
 have hlt:Wk<w.heap.size:=(Array.getElem?_eq_some_iff.1 hW).1
 have hl:=hT.1
 obtain⟨b,off,rfl,hb,ka,kn,kc,va,vn,vc,oa,on,oc,ya,yn,yc,hX⟩:=hT.at (i:=nx) (by omega)
 have hn:nx<n:=by omega
 have hn2:n<=1000:=by omega
 obtain⟨x,hx⟩:∃ x,x=ts.getD nx dT:=⟨_,rfl⟩
 rw[<-hx] at HRD hX hlf
 have HX:Hid (TNodeIs w A B b (off+nx*6) x ka kn kc va vn vc oa on oc ya yn yc):=hX
 obtain⟨c0,c1,c2,c3,c4,c5,hpg,hK,hV,hO,hY⟩:=hX
 rw[hlf] at c0
 clear hnx hl hT hx hK hV hO hY
 generalize x.page=pg at c1 hpg HRD
 have hb0:Below w.heap.size w (w.alloc (.cells #[.bool false,.int .i64 0,.slice none 0 0,.slice none 0 0,.slice none 0 0,.slice none 0 0] 49)):=(Below.refl _ _).alloc (Nat.le_refl _) _
 have R0:=heap_alloc_new w (.cells #[.bool false,.int .i64 0,.slice none 0 0,.slice none 0 0,.slice none 0 0,.slice none 0 0] 49)
 have s0:(w.alloc (.cells #[.bool false,.int .i64 0,.slice none 0 0,.slice none 0 0,.slice none 0 0,.slice none 0 0] 49)).heap.size=w.heap.size+1:=by simp
 obtain⟨N,hN⟩:∃ N,w.heap.size=N:=⟨_,rfl⟩
 rw[hN] at R0 s0
 have W0:=(hb0.block Wk hlt).trans hW
 have hbl:b<w.heap.size:=by omega
 have d0:=(hb0.cell (p:=⟨b,off+nx*6,none⟩) hbl).trans c0
 have d1:=(hb0.cell (p:=⟨b,off+nx*6+1,none⟩) hbl).trans c1
 have d2:=(hb0.cell (p:=⟨b,off+nx*6+2,none⟩) hbl).trans c2
 have d3:=(hb0.cell (p:=⟨b,off+nx*6+3,none⟩) hbl).trans c3
 have d4:=(hb0.cell (p:=⟨b,off+nx*6+4,none⟩) hbl).trans c4
 have d5:=(hb0.cell (p:=⟨b,off+nx*6+5,none⟩) hbl).trans c5
 clear c0 c1 c2 c3 c4 c5
 obtain⟨x0,x1,x2⟩:=box3w W0
 go_enter Tryz.func42,Tryz.ntmps42
 go_wp2_with fail
 go_quiet (fail)
 have e0:Below w.heap.size w ((w.alloc (.cells #[.bool false,.int .i64 0,.slice none 0 0,.slice none 0 0,.slice none 0 0,.slice none 0 0] 49)).drewN nq):=hb0.trans ⟨rfl,rfl,rfl,Nat.le_refl _,fun _ _=>rfl⟩
 have R1:((w.alloc (.cells #[.bool false,.int .i64 0,.slice none 0 0,.slice none 0 0,.slice none 0 0,.slice none 0 0] 49)).drewN nq).heap[N]?=some (.cells #[.bool false,.int .i64 0,.slice none 0 0,.slice none 0 0,.slice none 0 0,.slice none 0 0] 49):=R0
 have W1:((w.alloc (.cells #[.bool false,.int .i64 0,.slice none 0 0,.slice none 0 0,.slice none 0 0,.slice none 0 0] 49)).drewN nq).heap[Wk]?=some (.cells #[.slice (some ⟨b,off,none⟩) n c,.int .i64 nx,.bool false] 86):=W0
 have s1:((w.alloc (.cells #[.bool false,.int .i64 0,.slice none 0 0,.slice none 0 0,.slice none 0 0,.slice none 0 0] 49)).drewN nq).heap.size=N+1:=s0
 have g0:((w.alloc (.cells #[.bool false,.int .i64 0,.slice none 0 0,.slice none 0 0,.slice none 0 0,.slice none 0 0] 49)).drewN nq).cell? ⟨b,off+nx*6,none⟩=_:=d0
 have g1:((w.alloc (.cells #[.bool false,.int .i64 0,.slice none 0 0,.slice none 0 0,.slice none 0 0,.slice none 0 0] 49)).drewN nq).cell? ⟨b,off+nx*6+1,none⟩=_:=d1
 have g2:((w.alloc (.cells #[.bool false,.int .i64 0,.slice none 0 0,.slice none 0 0,.slice none 0 0,.slice none 0 0] 49)).drewN nq).cell? ⟨b,off+nx*6+2,none⟩=_:=d2
 have g3:((w.alloc (.cells #[.bool false,.int .i64 0,.slice none 0 0,.slice none 0 0,.slice none 0 0,.slice none 0 0] 49)).drewN nq).cell? ⟨b,off+nx*6+3,none⟩=_:=d3
 have g4:((w.alloc (.cells #[.bool false,.int .i64 0,.slice none 0 0,.slice none 0 0,.slice none 0 0,.slice none 0 0] 49)).drewN nq).cell? ⟨b,off+nx*6+4,none⟩=_:=d4
 have g5:((w.alloc (.cells #[.bool false,.int .i64 0,.slice none 0 0,.slice none 0 0,.slice none 0 0,.slice none 0 0] 49)).drewN nq).cell? ⟨b,off+nx*6+5,none⟩=_:=d5
 generalize (w.alloc (.cells #[.bool false,.int .i64 0,.slice none 0 0,.slice none 0 0,.slice none 0 0,.slice none 0 0] 49)).drewN nq=V at e0 R1 W1 s1 g0 g1 g2 g3 g4 g5 ⊢
 clear x0 x1 x2 hb0 R0 W0 s0 d0 d1 d2 d3 d4 d5
 obtain⟨x0,x1,x2⟩:=box3w W1
 have bV:b<V.heap.size:=by omega
 have kV:Wk<V.heap.size:=by omega
 go_upto_region 4 with fail
 go_cut [3] (fun v wx=>v=.pointer (some ⟨N+1,0,none⟩)∧wx.heap[N+1]?=some (.cells #[.bool true,.int .i64 pg,.slice ka kn kc,.slice va vn vc,.slice oa on oc,.slice ya yn yc] 103)∧Below V.heap.size V wx∧wx.heap.size=N+2)
 case first =>
  go_region_held3 (fun w'=>w'.cell? ⟨Wk,0,none⟩=some (.slice (some ⟨b,off,none⟩) n c)∧w'.cell? ⟨Wk,1,none⟩=some (.int .i64 nx)∧w'.cell? ⟨b,off+nx*6,none⟩=some (.bool true)∧w'.cell? ⟨b,off+nx*6+1,none⟩=some (.int .i64 pg)∧w'.cell? ⟨b,off+nx*6+2,none⟩=some (.slice ka kn kc)∧w'.cell? ⟨b,off+nx*6+3,none⟩=some (.slice va vn vc)∧w'.cell? ⟨b,off+nx*6+4,none⟩=some (.slice oa on oc)∧w'.cell? ⟨b,off+nx*6+5,none⟩=some (.slice ya yn yc)) (go_keep) (fail)
  have hz:=(Below.refl V.heap.size V).alloc (Nat.le_refl _) (.cells #[.bool true,.int .i64 pg,.slice ka kn kc,.slice va vn vc,.slice oa on oc,.slice ya yn yc] 103)
  have hz2:=heap_alloc_new V (.cells #[.bool true,.int .i64 pg,.slice ka kn kc,.slice va vn vc,.slice oa on oc,.slice ya yn yc] 103)
  rw[s1] at hz2
  go_wp2_with fail
  go_meet
  exact⟨rfl,hz2,hz.drew,by simp[s1]⟩
 case rest =>
  obtain⟨rfl,xb,bx,sx⟩:=hcut
  have W2:=(bx.block Wk kV).trans W1
  have R2:=(bx.block N (by omega)).trans R1
  clear x0 x1 x2
  obtain⟨x0,x1,x2⟩:=box3w W2
  obtain⟨y0,y1,y2,y3,y4,y5⟩:=box6 xb
  have fw:=thawT W2
  have W3:=heap_setT W2 1 (.int .i64 (nx+1:Nat))
  have f3:=fr_setT wc Wk 1 (.int .i64 (nx+1:Nat))
  have s3:(wc.setCell ⟨Wk,1,none⟩ (.int .i64 (nx+1:Nat))).heap.size=N+2:=by simp[World.setCell,sx]
  have R3:=(f3.block N (by omega) (by omega)).trans R2
  have X3:=(f3.block (N+1) (by omega) (by omega)).trans xb
  have lw:Wk<wc.heap.size:=by omega
  have ecast:(↑(nx+1:Nat):Int)=↑nx+1:=by omega
  rw[ecast] at W3 f3 s3 R3 X3
  clear ecast
  go_upto_region 6 with fail
  generalize wc.setCell ⟨Wk,1,none⟩ (.int .i64 (↑nx+1))=V3 at W3 f3 s3 R3 X3 ⊢
  clear y0 y1 y2 y3 y4 y5 x0 x1 x2 fw
  obtain⟨y0,y1,y2,y3,y4,y5⟩:=box6 X3
  have hz:=(Below.refl V3.heap.size V3).alloc (Nat.le_refl _) (.cells #[.bool true,.int .i64 pg,.slice ka kn kc,.slice va vn vc,.slice oa on oc,.slice none 0 0] 49)
  have N4:=heap_alloc_new V3 (.cells #[.bool true,.int .i64 pg,.slice ka kn kc,.slice va vn vc,.slice oa on oc,.slice none 0 0] 49)
  have s4:(V3.alloc (.cells #[.bool true,.int .i64 pg,.slice ka kn kc,.slice va vn vc,.slice oa on oc,.slice none 0 0] 49)).heap.size=N+3:=by simp[s3]
  have R4:=(hz.block N (by omega)).trans R3
  have X4:=(hz.block (N+1) (by omega)).trans X3
  have W4:=(hz.block Wk (by omega)).trans W3
  rw[s3] at N4
  go_upto_region 7 with fail
  generalize V3.alloc (.cells #[.bool true,.int .i64 pg,.slice ka kn kc,.slice va vn vc,.slice oa on oc,.slice none 0 0] 49)=V4 at hz N4 s4 R4 X4 W4 ⊢
  clear y0 y1 y2 y3 y4 y5
  obtain⟨y0,y1,y2,y3,y4,y5⟩:=box6 X4
  obtain⟨n0,n1,n2,n3,n4,n5⟩:=box6 N4
  obtain⟨r0,r1,r2,r3,r4,r5⟩:=box6 R4
  have fr:=thawT R4
  have hbox:=put6T_box R4 (.bool true) (.int .i64 pg) (.slice ka kn kc) (.slice va vn vc) (.slice oa on oc) (.slice none 0 0)
  have hfr:=put6T_fr V4 N (.bool true) (.int .i64 pg) (.slice ka kn kc) (.slice va vn vc) (.slice oa on oc) (.slice none 0 0)
  have W5:=(hfr.block Wk (by omega) (by omega)).trans W4
  have l0:N<V4.heap.size:=by omega
  have l1:N+1<V4.heap.size:=by omega
  have l2:N+2<V4.heap.size:=by omega
  have hF:Fr (fun g=>g=Wk) w (put6T V4 N (.bool true) (.int .i64 pg) (.slice ka kn kc) (.slice va vn vc) (.slice oa on oc) (.slice none 0 0)) :=
   ⟨hfr.os.trans (hz.os.trans (f3.os.trans (bx.os.trans e0.os))),hfr.tape.trans (hz.tape.trans (f3.tape.trans (bx.tape.trans e0.tape))),hfr.output.trans (hz.output.trans (f3.output.trans (bx.output.trans e0.output))),Nat.le_trans e0.size (Nat.le_trans bx.size (Nat.le_trans f3.size (Nat.le_trans hz.size hfr.size))),fun k hk hn=>(hfr.block k (by omega) (by omega)).trans ((hz.block k (by omega)).trans ((f3.block k (by omega) hn).trans ((bx.block k (by omega)).trans (e0.block k hk))))⟩
  go_wp2_with fail
  show bodyPost _ _ _ _ _ (put6T V4 N (.bool true) (.int .i64 pg) (.slice ka kn kc) (.slice va vn vc) (.slice oa on oc) (.slice none 0 0))
  obtain⟨p0,p1,p2,p3,p4,p5⟩:=box6 hbox
  refine bodyPost_ret (v:=.agg #[.bool true,.int .i64 pg,.slice ka kn kc,.slice va vn vc,.slice oa on oc,.slice none 0 0]) (by simp[results,Tryz.results42,go_sem,p0,p1,p2,p3,p4,p5]) rfl ?_
  have hkeep:Keeps A B w (put6T V4 N (.bool true) (.int .i64 pg) (.slice ka kn kc) (.slice va vn vc) (.slice oa on oc) (.slice none 0 0)):=fun k h1 h2=>hF.block k (by omega) (by omega)
  obtain⟨_,_,_,_,_,_,_,hK,hV,hO,hY⟩:=HX.out
  refine⟨⟨ka,kn,kc,va,vn,vc,oa,on,oc,none,0,fun _=>[],?_,?_⟩,?_,hF⟩
  ·rw[HRD.out];rfl
  ·rw[HRD.out]
   exact⟨hpg,hK.keep hkeep,hV.keep hkeep,hO.keep hkeep,⟨Nat.le_refl _,Nat.zero_le _⟩,fun h=>by simp at h,fun i k hk=>by simp at hk⟩
  ·rw[HRD.out]
   have:(↑(nx+1:Nat):Int)=↑nx+1:=by omega
   simp only[this]
   exact W5
def rowsC (css:Nat->List Value) (m:Nat):List Value:=(List.range m).flatMap css
theorem rowsC_succ (css:Nat->List Value) (m:Nat):rowsC css (m+1)=rowsC css m++css m:=by
 simp[rowsC,List.range_succ]
theorem rowsC_congr {css cs2:Nat->List Value} {m:Nat} (h:∀ i,i<m->cs2 i=css i):rowsC cs2 m=rowsC css m:=by
 induction m with
 | zero=>rfl
 | succ m ih=>rw[rowsC_succ,rowsC_succ,ih (fun i hi=>h i (by omega)),h m (by omega)]
theorem rowsC_get {css:Nat->List Value} {m:Nat} (h:∀ i,i<m->(css i).length=6):(rowsC css m).length=m*6∧∀ i j,i<m->j<6->(rowsC css m)[i*6+j]?=(css i)[j]?:=by
 induction m with
 | zero=>exact⟨rfl,fun i j hi=>by omega⟩
 | succ m ih =>
  obtain⟨h1,h2⟩:=ih (fun i hi=>h i (by omega))
  rw[rowsC_succ]
  refine⟨by rw[List.length_append,h1,h m (by omega)];omega,fun i j hi hj=>?_⟩
  by_cases him:i=m
  ·subst him
   rw[List.getElem?_append_right (by omega),h1,show i*6+j - i*6=j by omega]
  ·rw[List.getElem?_append_left (by omega)]
   exact h2 i j (by omega) hj
structure RSt (w wr:World) (A B Wk N:Nat) (wcs xcs:Array Value) (pg:Int) (va:Option Addr) (vn vc:Nat) (oa:Option Addr) (on oc:Nat) (zs:List T) (ra:Option Addr) (rc:Nat) (css:Nat->List Value):Prop where
 sz:w.heap.size=N
 wk:wr.heap[Wk]?=some (.cells wcs 86)
 rb:wr.heap[N]?=some (.cells #[.bool false,.int .i64 0,.slice none 0 0,.slice none 0 0,.slice none 0 0,.slice none 0 0] 49)
 xb:wr.heap[N+1]?=some (.cells xcs 103)
 nb:wr.heap[N+2]?=some (.cells #[.bool false,.int .i64 pg,.slice (some ⟨N+3,0,none⟩) 0 0,.slice va vn vc,.slice oa on oc,.slice ra zs.length rc] 49)
 row:wr.ownsRow (N+4) 49 6 (.slice ra zs.length rc) zs.length (rowsC css zs.length)
 kid:∀ i z,zs[i]?=some z->(css i).length=6∧NodeIs wr A B (fun b=>N+3<=b∧b<wr.heap.size∧∀ g,(Value.slice ra zs.length rc).ownBlock=some g->b≠g) z (css i)
 fr:Fr (fun g=>g=Wk) w wr
 wlt:Wk<N
 blk:B<=Wk
 lt:N+3<wr.heap.size
theorem RSt.call {w wr w1:World} {A B Wk N:Nat} {wcs xcs wcs':Array Value} {pg:Int} {va:Option Addr} {vn vc:Nat} {oa:Option Addr} {on oc:Nat} {zs:List T} {ra:Option Addr} {rc:Nat} {css:Nat->List Value} (h:RSt w wr A B Wk N wcs xcs pg va vn vc oa on oc zs ra rc css) (hf:Fr (fun g=>g=Wk) wr w1) (hw:w1.heap[Wk]?=some (.cells wcs' 86)):RSt w w1 A B Wk N wcs' xcs pg va vn vc oa on oc zs ra rc css:=by
 have l:=h.lt
 have l2:=h.wlt
 have l3:=h.blk
 refine⟨h.sz,hw,(hf.block N (by omega) (by omega)).trans h.rb,(hf.block (N+1) (by omega) (by omega)).trans h.xb,(hf.block (N+2) (by omega) (by omega)).trans h.nb,owns_fr h.row hf (fun g hg e=>?_),fun i z hz=>⟨(h.kid i z hz).1,?_⟩,h.fr.trans hf,h.wlt,h.blk,Nat.lt_of_lt_of_le l hf.size⟩
 ·have:=(h.row.lt g hg).1
  omega
 ·refine NodeIs.keep (fun k h1 h2=>hf.block k (by omega) (by omega)) (fun b hb=>hf.block b hb.2.1 (by omega)) (fun b hb=>⟨hb.1,Nat.lt_of_lt_of_le hb.2.1 hf.size,hb.2.2⟩) (Nat.le_refl _) (Nat.le_refl _) z _ (h.kid i z hz).2
theorem RSt.below {w wr w1:World} {A B Wk N:Nat} {wcs xcs:Array Value} {pg:Int} {va:Option Addr} {vn vc:Nat} {oa:Option Addr} {on oc:Nat} {zs:List T} {ra:Option Addr} {rc:Nat} {css:Nat->List Value} (h:RSt w wr A B Wk N wcs xcs pg va vn vc oa on oc zs ra rc css) (hb:Below wr.heap.size wr w1):RSt w w1 A B Wk N wcs xcs pg va vn vc oa on oc zs ra rc css :=
 h.call (Fr.of_below hb) ((hb.block Wk (by have:=h.lt;have:=h.wlt;omega)).trans h.wk)
theorem RSt.push {w w3 w4:World} {A B Wk N:Nat} {wcs xcs:Array Value} {pg:Int} {va:Option Addr} {vn vc:Nat} {oa:Option Addr} {on oc:Nat} {zs:List T} {ra:Option Addr} {rc:Nat} {css:Nat->List Value} {t:T} {kcs:List Value} {v':Value} (h:RSt w w3 A B Wk N wcs xcs pg va vn vc oa on oc zs ra rc css) (hk6:kcs.length=6) (hk:NodeIs w3 A B (fun b=>N+3<=b∧b<w3.heap.size∧∀ g,(Value.slice ra zs.length rc).ownBlock=some g->b≠g) t kcs)
  (hown:w4.ownsRow (N+4) 49 6 v' (zs.length+1) (rowsC css zs.length++kcs)) (hgr:w3.grownBy w4 (Value.slice ra zs.length rc).ownBlock) (hat:v'.ownBlock=(Value.slice ra zs.length rc).ownBlock∨∀ g,v'.ownBlock=some g->w3.heap.size<=g) :
  ∃ ra' rc',v'=.slice ra' (zs.length+1) rc'∧RSt w (w4.setCell ⟨N+2,5,none⟩ v') A B Wk N wcs xcs pg va vn vc oa on oc (zs++[t]) ra' rc' (fun i=>if i=zs.length then kcs else css i):=by
 obtain⟨ra',rc',rfl⟩:=own_shape hown
 refine⟨ra',rc',rfl,?_⟩
 have l:=h.lt
 have l2:=h.wlt
 have l3:=h.blk
 have hrow:=fun g hg=>(h.row.lt g hg)
 have hzl:(zs++[t]).length=zs.length+1:=by simp
 have hG:∀ k,k<w3.heap.size->(∀ g,(Value.slice ra zs.length rc).ownBlock=some g->k≠g)->w4.heap[k]?=w3.heap[k]?:=fun k hk1 hk2=>hgr.block k hk1 (fun e=>hk2 k e.symm rfl)
 have hlow:∀ k,k<N+4->(∀ g,(Value.slice ra zs.length rc).ownBlock=some g->k≠g):=fun k hk1 g hg=>by have:=(hrow g hg).1;omega
 have hset:=fr_setT w4 (N+2) 5 (.slice ra' (zs.length+1) rc')
 have hs4:=hgr.size
 have hG5:∀ k,k<w3.heap.size->k≠N+2->(∀ g,(Value.slice ra zs.length rc).ownBlock=some g->k≠g)->(w4.setCell ⟨N+2,5,none⟩ (.slice ra' (zs.length+1) rc')).heap[k]?=w3.heap[k]?:=fun k hk1 hk2 hk3=>(hset.block k (by omega) hk2).trans (hG k hk1 hk3)
 have hs5:(w4.setCell ⟨N+2,5,none⟩ (.slice ra' (zs.length+1) rc')).heap.size=w4.heap.size:=by simp[World.setCell]
 have hnew:∀ g,(Value.slice ra' (zs.length+1) rc').ownBlock=some g->∀ b,b<w3.heap.size->(∀ g,(Value.slice ra zs.length rc).ownBlock=some g->b≠g)->b≠g:=by
  intro g hg b hb1 hb2
  rcases hat with e | e
  ·rw[e] at hg
   exact hb2 g hg
  ·have:=e g hg
   omega
 have hkeep:Keeps A B w3 (w4.setCell ⟨N+2,5,none⟩ (.slice ra' (zs.length+1) rc')):=fun k h1 h2=>hG5 k (by omega) (by omega) (hlow k (by omega))
 have hnode:∀ z cs,NodeIs w3 A B (fun b=>N+3<=b∧b<w3.heap.size∧∀ g,(Value.slice ra zs.length rc).ownBlock=some g->b≠g) z cs->NodeIs (w4.setCell ⟨N+2,5,none⟩ (.slice ra' (zs.length+1) rc')) A B (fun b=>N+3<=b∧b<(w4.setCell ⟨N+2,5,none⟩ (.slice ra' (zs.length+1) rc')).heap.size∧∀ g,(Value.slice ra' (zs++[t]).length rc').ownBlock=some g->b≠g) z cs:=fun z cs hz =>
  NodeIs.keep hkeep (fun b hb=>hG5 b hb.2.1 (by omega) hb.2.2) (fun b hb=>⟨hb.1,by rw[hs5];omega,fun g hg=>hnew g (by rw[hzl] at hg;exact hg) b hb.2.1 hb.2.2⟩) (Nat.le_refl _) (Nat.le_refl _) z cs hz
 refine⟨h.sz,(hG5 Wk (by omega) (by omega) (hlow Wk (by omega))).trans h.wk,(hG5 N (by omega) (by omega) (hlow N (by omega))).trans h.rb,(hG5 (N+1) (by omega) (by omega) (hlow (N+1) (by omega))).trans h.xb,?_,?_,fun i z hz=>?_,?_,h.wlt,h.blk,by rw[hs5];omega⟩
 ·have:=heap_setT ((hG (N+2) (by omega) (hlow (N+2) (by omega))).trans h.nb) 5 (.slice ra' (zs.length+1) rc')
  rw[hzl]
  simpa using this
 ·rw[hzl,rowsC_succ,if_pos rfl,rowsC_congr (css:=css) (fun i hi=>if_neg (by omega))]
  exact owns_set hown (fun g hg e=>by
   have:=(hown.lt g hg).1
   have e':N+2=g:=e
   omega) _
 ·by_cases hi:i=zs.length
  ·subst hi
   rw[List.getElem?_append_right (Nat.le_refl _)] at hz
   simp at hz
   subst hz
   simp only[if_true]
   exact⟨hk6,hnode t kcs hk⟩
  ·have hi2:i<zs.length:=by
    have:=(List.getElem?_eq_some_iff.1 hz).1
    simp at this
    omega
   rw[List.getElem?_append_left hi2] at hz
   simp only[hi,if_false]
   exact⟨(h.kid i z hz).1,hnode z _ (h.kid i z hz).2⟩
 ·have hfr:=h.fr
  exact⟨hset.os.trans (hgr.os.trans hfr.os),hset.tape.trans (hgr.tape.trans hfr.tape),hset.output.trans (hgr.output.trans hfr.output),Nat.le_trans hfr.size (Nat.le_trans hgr.size hset.size),fun k hk1 hk2=>(hG5 k (by have:=hfr.size;omega) (by have:=h.sz;omega) (hlow k (by have:=h.sz;omega))).trans (hfr.block k hk1 hk2)⟩
theorem RSt.node {w wr:World} {A B Wk N:Nat} {wcs xcs:Array Value} {pg:Int} {va:Option Addr} {vn vc:Nat} {oa:Option Addr} {on oc:Nat} {zs:List T} {ra:Option Addr} {rc:Nat} {css:Nat->List Value} {vs:List ByteArray} {os:List Int} (h:RSt w wr A B Wk N wcs xcs pg va vn vc oa on oc zs ra rc css) (hp:I64 pg) (hv:StrsAt wr A B va vn vc vs) (ho:IntsAt wr A B oa on oc os) (hm:zs.length<=maxLen) :
  NodeX wr A B (fun b=>N+3<=b∧b<wr.heap.size) ⟨false,pg,[],vs,os,zs⟩ (some ⟨N+3,0,none⟩) 0 0 va vn vc oa on oc ra rc css:=by
 have hlen:=(rowsC_get (css:=css) (m:=zs.length) (fun i hi=>(h.kid i zs[i] (List.getElem?_eq_getElem hi)).1)).2
 have hz:=h.sz
 refine⟨hp,⟨rfl,Nat.le_refl _,Nat.zero_le _,fun i hi=>by omega,fun h=>by omega⟩,hv,ho,?_,fun hn=>?_,fun i k hk hi=>?_⟩
 ·rcases h.row.2 with ⟨e,e2⟩ | ⟨g,cap,cur,e,_,_,h1,h2,_⟩
  ·simp only[Value.slice.injEq] at e
   obtain⟨_,e3,e4⟩:=e
   exact⟨by show zs.length<=rc;omega,by omega⟩
  ·simp only[Value.slice.injEq] at e
   obtain⟨_,_,rfl⟩:=e
   exact⟨h1,h2⟩
 ·have hn:0<zs.length:=hn
  rcases h.row.2 with ⟨e,e2⟩ | ⟨g,cap,cur,e,hg1,hg2,_⟩
  ·omega
  ·simp only[Value.slice.injEq] at e
   obtain⟨rfl,_,rfl⟩:=e
   have hlt:=h.row.lt g rfl
   refine⟨g,0,rfl,⟨by omega,hlt.2⟩,fun i hi j hj=>?_⟩
   have hi:i<zs.length:=hi
   rw[Nat.zero_add,h.row.cellAt (i*6+j) (by omega)]
   exact hlen i j hi hj
 ·exact NodeIs.keep (Keeps.refl _ _ _) (fun _ _=>rfl) (fun b hb=>⟨hb.1,hb.2.1⟩) (Nat.le_refl _) (Nat.le_refl _) k _ (h.kid i k hi).2
theorem NodeX.weaken {w w':World} {A B:Nat} {P Q:Nat->Prop} {t:T} {ka:Option Addr} {kn kc:Nat} {va:Option Addr} {vn vc:Nat} {oa:Option Addr} {on oc:Nat} {ya:Option Addr} {yc:Nat} {css:Nat->List Value} (h:NodeX w A B P t ka kn kc va vn vc oa on oc ya yc css) (hk:Keeps A B w w') (hp:∀ b,P b->w'.heap[b]?=w.heap[b]?) (hQ:∀ b,P b->Q b):NodeX w' A B Q t ka kn kc va vn vc oa on oc ya yc css :=
 ⟨h.page,h.keys.keep hk,h.vals.keep hk,h.over.keep hk,h.cap,fun hn=>by
  obtain⟨b,off,e,hb,hc⟩:=h.cell hn
  exact⟨b,off,e,hQ b hb,fun i hi j hj=>(World.cell?_of_block (w:=w) (a:=⟨b,off+i*6+j,none⟩) (hp b hb)).trans (hc i hi j hj)⟩,fun i k hm hi=>NodeIs.keep hk hp hQ (Nat.le_refl _) (Nat.le_refl _) k _ (h.kid i k hm hi)⟩
theorem RSt.fin {ts:List TN} {f nx:Nat} {a:Option Addr} {n c:Nat} {nj:Nat} {bad:Bool} {w wr:World} {A B Wk N:Nat} {xcs:Array Value} {pg:Int} {va:Option Addr} {vn vc:Nat} {oa:Option Addr} {on oc:Nat} {zs:List T} {ra:Option Addr} {rc:Nat} {css:Nat->List Value} {vs:List ByteArray} {os:List Int} (h:RSt w wr A B Wk N #[.slice a n c,.int .i64 nj,.bool bad] xcs pg va vn vc oa on oc zs ra rc css) (hp:I64 pg) (hv:StrsAt wr A B va vn vc vs) (ho:IntsAt wr A B oa on oc os) (hm:zs.length<=maxLen)
  (hrd:rd ts f nx=(⟨false,pg,[],vs,os,zs⟩,nj,bad)) :
  ReadAt ts f nx a n c A B Wk w (.returned (.agg #[.bool false,.int .i64 pg,.slice (some ⟨N+3,0,none⟩) 0 0,.slice va vn vc,.slice oa on oc,.slice ra zs.length rc])) (put6T wr N (.bool false) (.int .i64 pg) (.slice (some ⟨N+3,0,none⟩) 0 0) (.slice va vn vc) (.slice oa on oc) (.slice ra zs.length rc)):=by
 have hfr:=put6T_fr wr N (.bool false) (.int .i64 pg) (.slice (some ⟨N+3,0,none⟩) 0 0) (.slice va vn vc) (.slice oa on oc) (.slice ra zs.length rc)
 have l:=h.lt
 have l2:=h.wlt
 have l3:=h.blk
 have hX:=h.node hp hv ho hm
 have hsz:=h.sz
 refine⟨⟨some ⟨N+3,0,none⟩,0,0,va,vn,vc,oa,on,oc,ra,rc,css,?_,?_⟩,?_,?_⟩
 ·rw[hrd]
 ·rw[hrd]
  exact hX.weaken (fun k h1 h2=>hfr.block k (by omega) (by omega)) (fun b hb=>hfr.block b hb.2 (by omega)) (fun b hb=>⟨by omega,Nat.lt_of_lt_of_le hb.2 hfr.size⟩)
 ·rw[hrd]
  exact (hfr.block Wk (by omega) (by omega)).trans h.wk
 ·exact⟨hfr.os.trans h.fr.os,hfr.tape.trans h.fr.tape,hfr.output.trans h.fr.output,Nat.le_trans h.fr.size hfr.size,fun k hk1 hk2=>(hfr.block k (by omega) (by omega)).trans (h.fr.block k hk1 hk2)⟩
end Go.Proofs.YtkhglgalbifcnaaGreat
