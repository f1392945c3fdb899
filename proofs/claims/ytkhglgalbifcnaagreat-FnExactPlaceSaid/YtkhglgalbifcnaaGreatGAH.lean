import Derived.Test.YtkhglgalbifcnaaGreatGAB
import Derived.Test.YtkhglgalbifcnaaGreatGAC
import Derived.Test.YtkhglgalbifcnaaGreatTge
import Derived.BigQuiet
import Derived.Test.YtkhglgalbifcnaaGreatChecked
import Derived.WalkKit
import Derived.ProofKit
namespace Go.Proofs.YtkhglgalbifcnaaGreat
set_option maxHeartbeats 4000000
open Go.RowKit
set_option linter.unusedVariables false
set_option linter.unusedSimpArgs false
set_option maxRecDepth 100000
theorem GrowAns.up {w w1 w':World} {G:Nat} {a:Option Addr} {n c:Nat} {res:Option (T × Nat × (Int->Bool))} {e:Ending} (h:GrowAns w1 G a n c res e w') (hf:Fr (fun k=>k=G) w w1):GrowAns w G a n c res e w':=by
 obtain⟨h1,h2,h3⟩:=h
 refine⟨h1,fun t nx' met' hr=>?_,hf.trans h3⟩
 obtain⟨u,e1,hg,hgr⟩:=h2 t nx' met' hr
 have:=hf.size
 exact⟨u,e1,GM.keep t _ _ u (fun _ _=>rfl) (fun b hb=>⟨by omega,hb.2⟩) hg,hgr⟩
theorem gr_leaf {ts:List TN} {f nx:Nat} {met m:Int->Bool} (hne:¬ nx=ts.length) (hm:meetB met (ts.getD nx dT).page=some m) (hl:(ts.getD nx dT).leaf=true):gr ts (f+1) nx met=leafRes (ts.getD nx dT) (nx+1) m:=by
 unfold gr leafRes
 rw[if_neg hne,hm]
 simp only[hl,if_true]
 generalize ts.getD nx dT=x
 by_cases hc:4<x.keys.length∨x.vals.length≠x.keys.length∨x.over.length≠x.keys.length∨0<x.kids.length
 ·rw[if_pos hc,if_pos hc]
 ·rw[if_neg hc,if_neg hc]
  cases meetL x.page (x.vals.zip x.over) m<;>rfl
theorem gr_inner {ts:List TN} {f nx:Nat} {met m:Int->Bool} (hne:¬ nx=ts.length) (hm:meetB met (ts.getD nx dT).page=some m) (hl:(ts.getD nx dT).leaf=false):gr ts (f+1) nx met=innerRes ts f (ts.getD nx dT) (nx+1) m:=by
 unfold gr innerRes
 rw[if_neg hne,hm]
 simp only[hl,Bool.false_eq_true,if_false]
 generalize ts.getD nx dT=x
 by_cases hc:x.kids.length<2∨4<x.kids.length∨x.keys.length+1≠x.kids.length∨0<x.vals.length∨0<x.over.length
 ·rw[if_pos hc,if_pos hc]
 ·rw[if_neg hc,if_neg hc]
  cases grK x.page x.keys (gr ts f) x.kids [] (nx+1) m with
  | none=>rfl
  | some v=>obtain⟨ys,nx',m'⟩:=v;rfl
theorem gr_meet {ts:List TN} {f nx:Nat} {met:Int->Bool} (hm:meetB met (ts.getD nx dT).page=none):gr ts (f+1) nx met=none:=by
 unfold gr
 split
 ·rfl
 ·rw[hm]
theorem gr_end {ts:List TN} {f nx:Nat} {met:Int->Bool} (h:nx=ts.length):gr ts (f+1) nx met=none:=by
 unfold gr
 rw[if_pos h]
theorem growNode_any (ts:List TN) (hts:ts.length<=1000) (a:Option Addr) (n c A B G:Nat) (hB:B<=G):∀ f,GNCall ts f a n c A B G
 | 0=>fun nx met w h1 h2 _ _=>by omega
 | f+1=>by
  have IH:=growNode_any ts hts a n c A B G hB f
  intro nx met w hnx hfu hT hG
  have g0:=hG.c0
  have g1:=hG.c1
  have gl:=hG.lt
  have HL:Hid (ts.length=n):=hT.1
  by_cases te:nx=ts.length
  ·have hgn:gr ts (f+1) nx met=none:=gr_end te
   have HNO:Hid (gr ts (f+1) nx met=none):=hgn
   have hnn:nx=n:=by have:=HL.out;omega
   rw[hgn]
   clear hgn te hT hG IH
   subst hnn
   have s0:((nx:Int) == (nx:Int))=true:=by simp
   go_enter Tryz.func49,Tryz.ntmps49
   go_upto_region 1 with fail
   go_quiet (fail)
   go_wp2_with fail
   refine bodyPost_ret (v:=.tuple #[.nilIface,.bool false]) (by simp[results,Tryz.results49,go_sem]) rfl ?_
   exact⟨fun _=>rfl,(fun t' nx' met' h=>by cases h),⟨rfl,rfl,rfl,Nat.le_refl _,fun _ _ _=>rfl⟩⟩
  ·have hlt:nx<n:=by have:=HL.out;omega
   obtain⟨b,off,rfl,hb,ka,kn,kc,va,vn,vc,oa,on,oc,ya,yn,yc,hX⟩:=hT.at hlt
   have HNE:Hid (¬ nx=ts.length):=te
   have IH2:Hid (GNCall ts f (some ⟨b,off,none⟩) n c A B G):=IH
   have HT:Hid (NodesAt w A B (some ⟨b,off,none⟩) n c ts):=hT
   have HG:Hid (GrAt w G (some ⟨b,off,none⟩) n c nx met):=hG
   have HX:Hid (StrsAt w A B ka kn kc (ts.getD nx dT).keys∧StrsAt w A B va vn vc (ts.getD nx dT).vals∧IntsAt w A B oa on oc (ts.getD nx dT).over∧IntsAt w A B ya yn yc (ts.getD nx dT).kids):=⟨hX.keys,hX.vals,hX.over,hX.kids⟩
   obtain⟨c0,c1,c2,c3,c4,c5,_,_,_,_,_⟩:=hX
   obtain⟨x,hx⟩:∃ x,ts.getD nx dT=x:=⟨_,rfl⟩
   have HXX:Hid (ts.getD nx dT=x):=hx
   rw[hx] at HX c0 c1
   obtain⟨lf,hlf⟩:∃ lf,x.leaf=lf:=⟨_,rfl⟩
   obtain⟨pg,hpg⟩:∃ pg,x.page=pg:=⟨_,rfl⟩
   have HLF:Hid (x.leaf=lf∧x.page=pg):=⟨hlf,hpg⟩
   rw[hlf] at c0
   rw[hpg] at c1
   have hbl:b<w.heap.size:=lt_of_cellG c0
   have s0:((nx:Int) == (n:Int))=false:=by simp;omega
   obtain⟨res,hres⟩:∃ res,gr ts (f+1) nx met=res:=⟨_,rfl⟩
   have HRES:Hid (gr ts (f+1) nx met=res):=hres
   rw[hres]
   obtain⟨N,hN⟩:∃ N,w.heap.size=N:=⟨_,rfl⟩
   have hn3:n<=1000:=by have:=HL.out;omega
   clear hT hG IH te hx hlf hpg hres
   go_enter Tryz.func49,Tryz.ntmps49
   go_upto_region 1 with fail
   go_quiet (fail)
   have HF0:Hid (Fr (fun k=>k=G) w (w.drewN nq)):=⟨rfl,rfl,rfl,Nat.le_refl _,fun _ _ _=>rfl⟩
   have HG1:Hid (GrAt (w.drewN nq) G (some ⟨b,off,none⟩) n c nx met):=HG.out.keep rfl
   have hN1:(w.drewN nq).heap.size=N:=hN
   have e0:(w.drewN nq).cell? ⟨b,off+nx*6,none⟩=some (.bool lf):=c0
   have e1:(w.drewN nq).cell? ⟨b,off+nx*6+1,none⟩=some (.int .i64 pg):=c1
   have e2:(w.drewN nq).cell? ⟨b,off+nx*6+2,none⟩=some (.slice ka kn kc):=c2
   have e3:(w.drewN nq).cell? ⟨b,off+nx*6+3,none⟩=some (.slice va vn vc):=c3
   have e4:(w.drewN nq).cell? ⟨b,off+nx*6+4,none⟩=some (.slice oa on oc):=c4
   have e5:(w.drewN nq).cell? ⟨b,off+nx*6+5,none⟩=some (.slice ya yn yc):=c5
   have f0:(w.drewN nq).cell? ⟨G,0,none⟩=some (.slice (some ⟨b,off,none⟩) n c):=g0
   have f1:(w.drewN nq).cell? ⟨G,1,none⟩=some (.int .i64 nx):=g1
   clear c0 c1 c2 c3 c4 c5 g0 g1 HG
   generalize w.drewN nq=W at *
   have hbl1:b<W.heap.size:=by omega
   have hgl1:G<W.heap.size:=by omega
   go_upto_region 3 with fail
   go_cut [4] (fun v wx=>v=.pointer (some ⟨N,0,none⟩)∧wx.heap[N]?=some (.cells #[.bool lf,.int .i64 pg,.slice ka kn kc,.slice va vn vc,.slice oa on oc,.slice ya yn yc] 103)∧Below W.heap.size W wx)
   case first =>
    go_region_held3 (fun w'=>w'.cell? ⟨G,0,none⟩=some (.slice (some ⟨b,off,none⟩) n c)∧w'.cell? ⟨G,1,none⟩=some (.int .i64 nx)∧w'.cell? ⟨b,off+nx*6,none⟩=some (.bool lf)∧w'.cell? ⟨b,off+nx*6+1,none⟩=some (.int .i64 pg)∧w'.cell? ⟨b,off+nx*6+2,none⟩=some (.slice ka kn kc)∧w'.cell? ⟨b,off+nx*6+3,none⟩=some (.slice va vn vc)∧w'.cell? ⟨b,off+nx*6+4,none⟩=some (.slice oa on oc)∧w'.cell? ⟨b,off+nx*6+5,none⟩=some (.slice ya yn yc)) (go_keep) (fail)
    have hz:=(Below.refl W.heap.size W).alloc (Nat.le_refl _) (.cells #[.bool lf,.int .i64 pg,.slice ka kn kc,.slice va vn vc,.slice oa on oc,.slice ya yn yc] 103)
    have hz2:=heap_alloc_new W (.cells #[.bool lf,.int .i64 pg,.slice ka kn kc,.slice va vn vc,.slice oa on oc,.slice ya yn yc] 103)
    rw[hN1] at hz2
    go_wp2_with fail
    go_meet
    exact⟨rfl,hz2,hz.drew⟩
   case rest =>
    obtain⟨rfl,hxb,hbx⟩:=hcut
    have G2:=HG1.out.keep (hbx.block G hgl1)
    have FR2:Hid (Fr (fun k=>k=G) w wc):=HF0.out.trans (Fr.of_below hbx)
    have hlN:N<wc.heap.size:=(Array.getElem?_eq_some_iff.1 hxb).1
    have G3:=G2.step (nx+1)
    have hst:=fr_setT wc G 1 (.int .i64 ((nx+1:Nat):Int))
    have FR3:Hid (Fr (fun k=>k=G) w (wc.setCell ⟨G,1,none⟩ (.int .i64 ((nx+1:Nat):Int)))):=FR2.out.trans hst
    have hxb3:=(hst.block N hlN (by omega)).trans hxb
    have h1:=G2.c1
    have hth:=G2.thaw
    have hgl2:=G2.lt
    have hcast:((nx+1:Nat):Int)=(nx:Int)+1:=by omega
    rw[hcast] at G3 FR3 hxb3
    clear e0 e1 e2 e3 e4 e5 f0 f1 hbx hst hxb G2
    go_upto_region 5 with fail
    generalize wc.setCell ⟨G,1,none⟩ (.int .i64 ((nx:Int)+1))=V at *
    obtain⟨y0,y1,y2,y3,y4,y5⟩:=box6g hxb3
    have hlV:N<V.heap.size:=(Array.getElem?_eq_some_iff.1 hxb3).1
    have hmt:=meet_any V G (some ⟨b,off,none⟩) n c (nx+1) met pg G3
    clear h1 hth hgl2
    go_wp2_with fail
    refine hmt.mono ?_
    rintro e w1 ⟨r,rfl,hyes,hno,hf1⟩
    have FR4:Hid (Fr (fun k=>k=G) w w1):=FR3.out.trans hf1
    have hxb4:=(hf1.block N hlV (by omega)).trans hxb3
    clear hmt y0 y1 y2 y3 y4 y5 G3 hf1 hxb3
    cases r
    ·have HNO:Hid (res=none):=by
      show _=_
      rw[<-HRES.out]
      refine gr_meet ?_
      rw[HXX.out,HLF.out.2]
      exact hno rfl
     clear hyes hno hxb4
     go_wp2_with fail
     refine bodyPost_ret (v:=.tuple #[.nilIface,.bool false]) (by simp[results,Tryz.results49,go_sem]) rfl ?_
     exact⟨fun _=>rfl,(fun t' nx' met' h=>by rw[HNO.out] at h;cases h),FR4.out⟩
    ·obtain⟨m1,hm1,G4⟩:=hyes rfl
     clear hyes hno
     obtain⟨y0,y1,y2,y3,y4,y5⟩:=box6g hxb4
     have hl4:N<w1.heap.size:=(Array.getElem?_eq_some_iff.1 hxb4).1
     have hk:Keeps A B w w1:=fun k h1 h2=>FR4.out.block k (by omega) (by omega)
     have hT4:=HT.out.keep hk
     obtain⟨hK0,hV0,hO0,hY0⟩:=HX.out
     have hK4:=hK0.keep hk
     have hV4:=hV0.keep hk
     have hO4:=hO0.keep hk
     have hY4:=hY0.keep hk
     clear hK0 hV0 hO0 hY0
     cases lf
     ·have hres:res=innerRes ts f x (nx+1) m1:=by
       rw[<-HRES.out,<-HXX.out]
       exact gr_inner HNE.out (by rw[HXX.out,HLF.out.2];exact hm1) (by rw[HXX.out];exact HLF.out.1)
      have hc:=growInner_any ts hts f (some ⟨b,off,none⟩) n c A B G IH2.out x ka kn kc va vn vc oa on oc ya yn yc false w1 (nx+1) m1 hB (by have:=HL.out;omega) (by omega) hT4 G4 hK4 hV4 hO4 hY4
      rw[<-hres,HLF.out.2] at hc
      clear hres hT4 hK4 hV4 hO4 hY4 hk hxb4 G4
      go_wp2_with fail
      refine hc.mono ?_
      intro e w2 hA
      have hA2:=hA.up FR4.out
      clear hA hc
      cases res with
      | none =>
       obtain rfl:=hA2.1 rfl
       go_wp2_with fail
       refine bodyPost_ret (v:=.tuple #[.nilIface,.bool false]) (by simp[results,Tryz.results49,go_sem]) rfl ?_
       exact hA2
      | some val =>
       obtain⟨t',nx',m'⟩:=val
       obtain⟨u,rfl,_⟩:=hA2.2.1 t' nx' m' rfl
       go_wp2_with fail
       refine bodyPost_ret (v:=.tuple #[u,.bool true]) (by simp[results,Tryz.results49,go_sem]) rfl ?_
       exact hA2
     ·have hres:res=leafRes x (nx+1) m1:=by
       rw[<-HRES.out,<-HXX.out]
       exact gr_leaf HNE.out (by rw[HXX.out,HLF.out.2];exact hm1) (by rw[HXX.out];exact HLF.out.1)
      have hc:=growLeaf_any x ka kn kc va vn vc oa on oc ya yn yc true w1 G (some ⟨b,off,none⟩) n c (nx+1) m1 A B hB G4 hK4 hV4 hO4 hY4
      rw[<-hres,HLF.out.2] at hc
      clear hres hT4 hK4 hV4 hO4 hY4 hk hxb4 G4
      go_wp2_with fail
      refine hc.mono ?_
      intro e w2 hA
      have hA2:=hA.up FR4.out
      clear hA hc
      cases res with
      | none =>
       obtain rfl:=hA2.1 rfl
       go_wp2_with fail
       refine bodyPost_ret (v:=.tuple #[.nilIface,.bool false]) (by simp[results,Tryz.results49,go_sem]) rfl ?_
       exact hA2
      | some val =>
       obtain⟨t',nx',m'⟩:=val
       obtain⟨u,rfl,_⟩:=hA2.2.1 t' nx' m' rfl
       go_wp2_with fail
       refine bodyPost_ret (v:=.tuple #[u,.bool true]) (by simp[results,Tryz.results49,go_sem]) rfl ?_
       exact hA2
def NodeIs (w:World) (A B:Nat) (P:Nat->Prop):T->List Value->Prop
 | ⟨l,p,k,v,o,y⟩,cs=>∃ (ka:Option Addr) (kn kc:Nat) (va:Option Addr) (vn vc:Nat) (oa:Option Addr) (on oc:Nat) (ya:Option Addr) (yc:Nat) (css:Nat->List Value),cs=[.bool l,.int .i64 p,.slice ka kn kc,.slice va vn vc,.slice oa on oc,.slice ya y.length yc]∧I64 p∧StrsAt w A B ka kn kc k∧StrsAt w A B va vn vc v∧IntsAt w A B oa on oc o∧(y.length<=yc∧yc<=maxLen) ∧
  (0<y.length->∃ b off,ya=some ⟨b,off,none⟩∧P b∧∀ i,i<y.length->∀ j,j<6->w.cell? ⟨b,off+i*6+j,none⟩=(css i)[j]?)∧∀ i,∀ t ∈ y,y[i]?=some t->NodeIs w A B P t (css i)
structure NodeX (w:World) (A B:Nat) (P:Nat->Prop) (t:T) (ka:Option Addr) (kn kc:Nat) (va:Option Addr) (vn vc:Nat) (oa:Option Addr) (on oc:Nat) (ya:Option Addr) (yc:Nat) (css:Nat->List Value):Prop where
 page:I64 t.page
 keys:StrsAt w A B ka kn kc t.keys
 vals:StrsAt w A B va vn vc t.vals
 over:IntsAt w A B oa on oc t.over
 cap:t.kids.length<=yc∧yc<=maxLen
 cell:0<t.kids.length->∃ b off,ya=some ⟨b,off,none⟩∧P b∧∀ i,i<t.kids.length->∀ j,j<6->w.cell? ⟨b,off+i*6+j,none⟩=(css i)[j]?
 kid:∀ i,∀ k ∈ t.kids,t.kids[i]?=some k->NodeIs w A B P k (css i)
theorem NodeIs.out {w:World} {A B:Nat} {P:Nat->Prop} {t:T} {cs:List Value} (h:NodeIs w A B P t cs):∃ ka kn kc va vn vc oa on oc ya yc css,cs=[.bool t.leaf,.int .i64 t.page,.slice ka kn kc,.slice va vn vc,.slice oa on oc,.slice ya t.kids.length yc]∧NodeX w A B P t ka kn kc va vn vc oa on oc ya yc css:=by
 obtain⟨l,p,k,v,o,y⟩:=t
 rw[NodeIs.eq_def] at h
 obtain⟨ka,kn,kc,va,vn,vc,oa,on,oc,ya,yc,css,e,h1,h2,h3,h4,h5,h6,h7⟩:=h
 exact⟨ka,kn,kc,va,vn,vc,oa,on,oc,ya,yc,css,e,h1,h2,h3,h4,h5,h6,h7⟩
theorem NodeX.mk' {w:World} {A B:Nat} {P:Nat->Prop} {t:T} {ka:Option Addr} {kn kc:Nat} {va:Option Addr} {vn vc:Nat} {oa:Option Addr} {on oc:Nat} {ya:Option Addr} {yc:Nat} {css:Nat->List Value} (h:NodeX w A B P t ka kn kc va vn vc oa on oc ya yc css):NodeIs w A B P t [.bool t.leaf,.int .i64 t.page,.slice ka kn kc,.slice va vn vc,.slice oa on oc,.slice ya t.kids.length yc]:=by
 obtain⟨l,p,k,v,o,y⟩:=t
 rw[NodeIs.eq_def]
 exact⟨ka,kn,kc,va,vn,vc,oa,on,oc,ya,yc,css,rfl,h.page,h.keys,h.vals,h.over,h.cap,h.cell,h.kid⟩
theorem NodeIs.keep {w w':World} {A B A' B':Nat} {P Q:Nat->Prop} (hk:Keeps A B w w') (hp:∀ b,P b->w'.heap[b]?=w.heap[b]?) (hQ:∀ b,P b->Q b) (hA:A'<=A) (hB:B<=B'):∀ t cs,NodeIs w A B P t cs->NodeIs w' A' B' Q t cs:=by
 intro t
 induction t using T.ind with
 | h t ih =>
  intro cs h
  obtain⟨ka,kn,kc,va,vn,vc,oa,on,oc,ya,yc,css,rfl,h1,h2,h3,h4,h5,h6,h7⟩:=h.out
  refine NodeX.mk' (css:=css) ⟨h1,(h2.keep hk).up hA hB,(h3.keep hk).up hA hB,(h4.keep hk).up hA hB,h5,fun hn=>?_,fun i k hm hi=>ih k hm _ (h7 i k hm hi)⟩
  obtain⟨b,off,e,hb,hc⟩:=h6 hn
  exact⟨b,off,e,hQ b hb,fun i hi j hj=>(World.cell?_of_block (w:=w) (a:=⟨b,off+i*6+j,none⟩) (hp b hb)).trans (hc i hi j hj)⟩
abbrev NodeC (w:World) (C:Nat) (t:T) (cs:List Value):Prop:=NodeIs w 0 C (fun b=>b<C) t cs
theorem NodeC.below {w w':World} {C:Nat} {t:T} {cs:List Value} (h:NodeC w C t cs) (hb:Below C w w'):NodeC w' C t cs :=
 NodeIs.keep (.of_below hb) (fun b hb'=>hb.block b hb') (fun _ h=>h) (Nat.le_refl _) (Nat.le_refl _) t cs h
theorem NodeX.at {w:World} {A B:Nat} {P:Nat->Prop} {t:T} {ka:Option Addr} {kn kc:Nat} {va:Option Addr} {vn vc:Nat} {oa:Option Addr} {on oc:Nat} {ya:Option Addr} {yc:Nat} {css:Nat->List Value} (h:NodeX w A B P t ka kn kc va vn vc oa on oc ya yc css) {i:Nat} (hi:i<t.kids.length) :
  ∃ b off,ya=some ⟨b,off,none⟩∧P b∧∃ k,t.kids[i]?=some k∧k ∈ t.kids∧∃ ka kn kc va vn vc oa on oc ya yc css,NodeX w A B P k ka kn kc va vn vc oa on oc ya yc css ∧
   w.cell? ⟨b,off+i*6,none⟩=some (.bool k.leaf)∧w.cell? ⟨b,off+i*6+1,none⟩=some (.int .i64 k.page)∧w.cell? ⟨b,off+i*6+2,none⟩=some (.slice ka kn kc)∧w.cell? ⟨b,off+i*6+3,none⟩=some (.slice va vn vc)∧w.cell? ⟨b,off+i*6+4,none⟩=some (.slice oa on oc)∧w.cell? ⟨b,off+i*6+5,none⟩=some (.slice ya k.kids.length yc):=by
 obtain⟨b,off,e,hb,hc⟩:=h.cell (by omega)
 have hk:t.kids[i]?=some t.kids[i]:=List.getElem?_eq_getElem hi
 have hm:t.kids[i] ∈ t.kids:=List.getElem_mem hi
 obtain⟨ka,kn,kc,va,vn,vc,oa,on,oc,ya,yc,css',e2,hx⟩:=(h.kid i _ hm hk).out
 have hc:=hc i hi
 rw[e2] at hc
 exact⟨b,off,e,hb,_,hk,hm,ka,kn,kc,va,vn,vc,oa,on,oc,ya,yc,css',hx,by simpa using hc 0 (by omega),by simpa using hc 1 (by omega),by simpa using hc 2 (by omega),by simpa using hc 3 (by omega),by simpa using hc 4 (by omega),by simpa using hc 5 (by omega)⟩
theorem NodeX.belowC {w w':World} {C:Nat} {t:T} {ka:Option Addr} {kn kc:Nat} {va:Option Addr} {vn vc:Nat} {oa:Option Addr} {on oc:Nat} {ya:Option Addr} {yc:Nat} {css:Nat->List Value} (h:NodeX w 0 C (fun b=>b<C) t ka kn kc va vn vc oa on oc ya yc css) (hb:Below C w w'):NodeX w' 0 C (fun b=>b<C) t ka kn kc va vn vc oa on oc ya yc css :=
 ⟨h.page,h.keys.below hb,h.vals.below hb,h.over.below hb,h.cap,fun hn=>by
  obtain⟨b,off,e,hb',hc⟩:=h.cell hn
  exact⟨b,off,e,hb',fun i hi j hj=>(World.cell?_of_block (w:=w) (a:=⟨b,off+i*6+j,none⟩) (hb.block b hb')).trans (hc i hi j hj)⟩,fun i k hm hi=>(show NodeC w C k (css i) from h.kid i k hm hi).below hb⟩
def AtNode (f:Nat) (C:Nat) (t:T) (more:Array Value) (Q:World->Ending->World->Prop):Prop :=
 ∀ w ka kn kc va vn vc oa on oc ya yc css,C<=w.heap.size->NodeX w 0 C (fun b=>b<C) t ka kn kc va vn vc oa on oc ya yc css ->
  Calls Tryz.prog f (#[.agg #[.bool t.leaf,.int .i64 t.page,.slice ka kn kc,.slice va vn vc,.slice oa on oc,.slice ya t.kids.length yc]]++more) w (Q w)
theorem good_kid {t k:T} {r:Bool} (h:t.good r=true) (hk:k ∈ t.kids):k.good false=true:=by
 rw[T.good_eq] at h
 simp only[Bool.and_eq_true] at h
 exact List.all_eq_true.1 h.1.2 (k.good false) (List.mem_map.2 ⟨k,hk,rfl⟩)
theorem good_two {t:T} {r:Bool} (h:t.good r=true) (hl:t.leaf=false):2<=t.kids.length∧t.kids.length<=4:=by
 rw[T.good_eq] at h
 simp only[Bool.and_eq_true,decide_eq_true_eq] at h
 have:=h.1.1.1.1
 simpa[T.size,hl] using this
theorem l3Size_any (t:T) (ka:Option Addr) (kn kc:Nat) (va:Option Addr) (vn vc:Nat) (oa:Option Addr) (on oc:Nat) (ya:Option Addr) (yc:Nat) (w:World) (hk:t.keys.length=kn) :
  Calls Tryz.prog 68 #[.agg #[.bool t.leaf,.int .i64 t.page,.slice ka kn kc,.slice va vn vc,.slice oa on oc,.slice ya t.kids.length yc]] w fun e w'=>e=.returned (.int .i64 t.size)∧Below w.heap.size w w':=by
 have HK:Hid (t.keys.length=kn):=hk
 clear hk
 obtain⟨n,hn⟩:∃ n,n=t.kids.length:=⟨_,rfl⟩
 have HN:Hid (n=t.kids.length):=hn
 rw[<-hn]
 clear hn
 generalize t.page=p
 by_cases hl:t.leaf=true
 ·have HS:Hid (t.size=kn):=by show _=_;unfold T.size;rw[if_pos hl];exact HK.out
  rw[hl]
  go_enter Tryz.func68,Tryz.ntmps68
  go_wp2
  go_ret
  exact⟨by rw[HS.out];rfl,(Below.refl _ _).alloc (Nat.le_refl _) _⟩
 ·have hl2:t.leaf=false:=by simpa using hl
  have HS:Hid (t.size=n):=by show _=_;unfold T.size;rw[if_neg hl];exact HN.out.symm
  rw[hl2]
  clear hl hl2
  go_enter Tryz.func68,Tryz.ntmps68
  go_wp2
  go_ret
  exact⟨by rw[HS.out];rfl,(Below.refl _ _).alloc (Nat.le_refl _) _⟩
theorem l3Low_any (C:Nat):∀ (t:T),(∃ r,t.good r=true)->∀ (w:World) (ka:Option Addr) (kn kc:Nat) (va:Option Addr) (vn vc:Nat) (oa:Option Addr) (on oc:Nat) (ya:Option Addr) (yc:Nat) (css:Nat->List Value),C<=w.heap.size->NodeX w 0 C (fun b=>b<C) t ka kn kc va vn vc oa on oc ya yc css ->
  Calls Tryz.prog 43 #[.agg #[.bool t.leaf,.int .i64 t.page,.slice ka kn kc,.slice va vn vc,.slice oa on oc,.slice ya t.kids.length yc]] w fun e w'=>e=.returned (.string t.low)∧Below w.heap.size w w':=by
 intro t
 induction t using T.ind with
 | h t ih =>
  rintro ⟨r,hg⟩ w ka kn kc va vn vc oa on oc ya yc css hC hX
  have hb0:Below w.heap.size w (w.alloc (.cells #[.bool t.leaf,.int .i64 t.page,.slice ka kn kc,.slice va vn vc,.slice oa on oc,.slice ya t.kids.length yc] 49)):=(Below.refl _ _).alloc (Nat.le_refl _) _
  have hX0:=hX.belowC (hb0.mono hC)
  by_cases hl:t.leaf=true
  ·have HW:Hid (t.low=t.keys.headD ByteArray.empty):=T.low_leaf hl
   have hK:=hX0.keys
   have HK:Hid (t.keys.length=kn):=hK.1
   clear hX hX0 ih
   obtain⟨n,hn⟩:∃ n,n=t.kids.length:=⟨_,rfl⟩
   rw[<-hn] at hb0 hK ⊢
   clear hn
   rw[hl] at hb0 hK ⊢
   generalize t.page=p at hb0 hK ⊢
   clear hl
   by_cases hk:kn=0
   ·subst hk
    have HE:Hid (t.low=ByteArray.empty):=by
     show _=_
     rw[HW.out,List.eq_nil_of_length_eq_zero HK.out]
     rfl
    go_enter Tryz.func43,Tryz.ntmps43
    go_wp2
    go_ret
    exact⟨by rw[HE.out];rfl,hb0⟩
   ·obtain⟨b,off,rfl,_,_,e0⟩:=StrsAt.at hK (i:=0) (by omega)
    have HE:Hid (t.low=t.keys.getD 0 ByteArray.empty):=by
     show _=_
     rw[HW.out]
     cases t.keys<;>rfl
    rw[Nat.add_zero] at e0
    generalize t.keys.getD 0 ByteArray.empty=s at e0 HE
    clear hK HW
    go_enter Tryz.func43,Tryz.ntmps43
    go_wp2
    go_ret
    exact⟨by rw[HE.out];rfl,hb0⟩
  ·have hl2:t.leaf=false:=by simpa using hl
   obtain⟨h2,h4⟩:=good_two hg hl2
   obtain⟨b,off,rfl,hbl,k,hki,hkm,ka',kn',kc',va',vn',vc',oa',on',oc',ya',yc',css',hXk,c0,c1,c2,c3,c4,c5⟩:=hX0.at (i:=0) (by omega)
   have HW:Hid (t.low=k.low):=by
    show _=_
    cases e:t.kids with
    | nil=>rw[e] at h2;simp at h2
    | cons a r=>rw[e] at hki;simp at hki;subst hki;exact T.low_inner hl2 e
   have IH:=ih k hkm ⟨false,good_kid hg hkm⟩
   simp only[Nat.zero_mul,Nat.add_zero] at c0 c1 c2 c3 c4 c5
   clear hX hX0 hki hkm ih
   obtain⟨n,hn⟩:∃ n,n=t.kids.length:=⟨_,rfl⟩
   rw[<-hn] at hb0 hXk c0 c1 c2 c3 c4 c5 h2 h4 ⊢
   clear hn
   rw[hl2] at hb0 hXk c0 c1 c2 c3 c4 c5 ⊢
   generalize t.page=p at hb0 hXk c0 c1 c2 c3 c4 c5 ⊢
   clear hl hl2
   go_enter Tryz.func43,Tryz.ntmps43
   go_wp2_with fail
   refine (IH _ ka' kn' kc' va' vn' vc' oa' on' oc' ya' yc' css' (by simp;omega) hXk).mono ?_
   rintro e w1 ⟨rfl,hb1⟩
   go_wp2_with fail
   go_ret
   exact⟨by rw[HW.out];rfl,hb0.trans (hb1.mono (by simp))⟩
theorem sum_take_succ {l:List Nat} {k:Nat} (h:k<l.length):(l.take (k+1)).sum=(l.take k).sum+l[k]:=by
 rw[List.take_succ_eq_append_getElem h,List.sum_append];simp
theorem sum_take_le (l:List Nat) (k:Nat):(l.take k).sum<=l.sum:=by
 have:=List.take_append_drop k l
 have h2:=congrArg List.sum this
 rw[List.sum_append] at h2
 omega
theorem nodes_kid {t k:T} {i:Nat} (h:t.kids[i]?=some k):k.nodes<t.nodes:=by
 rw[T.nodes_eq t]
 obtain⟨hi,e⟩:=List.getElem?_eq_some_iff.1 h
 have h1:=sum_take_succ (l:=t.kids.map T.nodes) (k:=i) (by simpa using hi)
 have h2:=sum_take_le (t.kids.map T.nodes) (i+1)
 simp[e] at h1
 omega
theorem l3Nodes_any (C:Nat):∀ (t:T),t.nodes<=1000000->∀ (w:World) (ka:Option Addr) (kn kc:Nat) (va:Option Addr) (vn vc:Nat) (oa:Option Addr) (on oc:Nat) (ya:Option Addr) (yc:Nat) (css:Nat->List Value),C<=w.heap.size->NodeX w 0 C (fun b=>b<C) t ka kn kc va vn vc oa on oc ya yc css ->
  Calls Tryz.prog 39 #[.agg #[.bool t.leaf,.int .i64 t.page,.slice ka kn kc,.slice va vn vc,.slice oa on oc,.slice ya t.kids.length yc]] w fun e w'=>e=.returned (.int .i64 t.nodes)∧Below w.heap.size w w':=by
 intro t
 induction t using T.ind with
 | h t ih =>
  intro hN w ka kn kc va vn vc oa on oc ya yc css hC hX
  have hb0:Below w.heap.size w (w.alloc (.cells #[.bool t.leaf,.int .i64 t.page,.slice ka kn kc,.slice va vn vc,.slice oa on oc,.slice ya t.kids.length yc] 49)):=(Below.refl _ _).alloc (Nat.le_refl _) _
  have hX0:=hX.belowC (hb0.mono hC)
  have A0:=heap_alloc_new w (.cells #[.bool t.leaf,.int .i64 t.page,.slice ka kn kc,.slice va vn vc,.slice oa on oc,.slice ya t.kids.length yc] 49)
  have s0:(w.alloc (.cells #[.bool t.leaf,.int .i64 t.page,.slice ka kn kc,.slice va vn vc,.slice oa on oc,.slice ya t.kids.length yc] 49)).heap.size=w.heap.size+1:=by simp
  have HT:Hid (t.nodes=1+(t.kids.map T.nodes).sum):=T.nodes_eq t
  have hle:t.kids.length<=maxLen:=Nat.le_trans hX.cap.1 hX.cap.2
  unfold maxLen at hle
  have IH:Hid (∀ (i:Nat) (k:T),t.kids[i]?=some k->k ∈ t.kids->k.nodes<=1000000->∀ (w:World) (ka:Option Addr) (kn kc:Nat) (va:Option Addr) (vn vc:Nat) (oa:Option Addr) (on oc:Nat) (ya:Option Addr) (yc:Nat) (css:Nat->List Value),C<=w.heap.size->NodeX w 0 C (fun b=>b<C) k ka kn kc va vn vc oa on oc ya yc css ->
   Calls Tryz.prog 39 #[.agg #[.bool k.leaf,.int .i64 k.page,.slice ka kn kc,.slice va vn vc,.slice oa on oc,.slice ya k.kids.length yc]] w fun e w'=>e=.returned (.int .i64 k.nodes)∧Below w.heap.size w w'):=fun i k _ hm=>ih k hm
  have HX:Hid (NodeX (w.alloc (.cells #[.bool t.leaf,.int .i64 t.page,.slice ka kn kc,.slice va vn vc,.slice oa on oc,.slice ya t.kids.length yc] 49)) 0 C (fun b=>b<C) t ka kn kc va vn vc oa on oc ya yc css):=hX0
  clear hX hX0 ih
  obtain⟨n,hn⟩:∃ n,n=t.kids.length:=⟨_,rfl⟩
  have HNN:Hid (n=t.kids.length):=hn
  rw[<-hn] at hb0 A0 s0 hle ⊢
  rw[<-hn] at HX
  clear hn
  generalize t.leaf=lf at hb0 A0 s0 HX ⊢
  generalize t.page=p at hb0 A0 s0 HX ⊢
  go_enter Tryz.func39,Tryz.ntmps39
  go_wp2
  generalize w.alloc (.cells #[.bool lf,.int .i64 p,.slice ka kn kc,.slice va vn vc,.slice oa on oc,.slice ya n yc] 49)=W0 at hb0 A0 s0 HX ⊢
  go_loopw [3,4] (fun o i wr=>∃ (j:Nat) (r:Nat),j<=n∧i=.int .i64 j∧o=.int .i64 r∧r<=1000000∧Hid (r=1+((t.kids.map T.nodes).take j).sum)∧Below W0.heap.size W0 wr) (fun _ i _=>n - (intOf i).toNat)
  case atStart=>exact⟨0,1,Nat.zero_le _,rfl,rfl,by omega,by show _=_;simp,Below.refl _ _⟩
  case round =>
   obtain⟨j,r,hj,rfl,rfl,hr,HR,hbel⟩:=hrel
   have A1:=(hbel.block _ (by omega)).trans A0
   obtain⟨x0,x1,x2,x3,x4,x5⟩:=box6 A1
   have l1:w.heap.size<wr.heap.size:=by have:=hbel.size;omega
   by_cases hlt:j<n
   ·obtain⟨b,off,rfl,hbl,k,hki,hkm,ka',kn',kc',va',vn',vc',oa',on',oc',ya',yc',css',hXk,c0,c1,c2,c3,c4,c5⟩:=(HX.out.belowC (hbel.mono (by omega))).at (i:=j) (by have:=HNN.out;omega)
    have hnk:=nodes_kid hki
    have HS:Hid (((t.kids.map T.nodes).take (j+1)).sum=((t.kids.map T.nodes).take j).sum+k.nodes∧((t.kids.map T.nodes).take (j+1)).sum<=(t.kids.map T.nodes).sum):=by
     refine⟨?_,sum_take_le _ _⟩
     have:=sum_take_succ (l:=t.kids.map T.nodes) (k:=j) (by simp;have:=HNN.out;omega)
     obtain⟨hi,e⟩:=List.getElem?_eq_some_iff.1 hki
     simp only[List.getElem_map,e] at this
     exact this
    have IHk:=IH.out j k hki hkm (by omega)
    clear hki hkm
    go_wp2_with fail
    refine (IHk wr ka' kn' kc' va' vn' vc' oa' on' oc' ya' yc' css' (by omega) hXk).mono ?_
    rintro e w1 ⟨rfl,hb1⟩
    have HR2:Hid (r+k.nodes=1+((t.kids.map T.nodes).take (j+1)).sum):=by
     have e1:=HR.out;have e2:=HS.out.1
     show _=_
     omega
    have hr2:r+k.nodes<=1000000:=by
     have e1:=HR2.out;have e2:=HS.out.2;have e3:=HT.out
     omega
    have hbel2:=hbel.trans (hb1.mono hbel.size)
    clear c0 c1 c2 c3 c4 c5 hXk IHk HS hnk x0 x1 x2 x3 x4 x5 A1
    generalize k.nodes=m at *
    go_wp2
    go_roundw
    case rel=>exact⟨j+1,r+m,by omega,by go_num,by go_num,hr2,HR2,hbel2⟩
    case measure=>simp[intOf];omega
   ·have HE:Hid (t.nodes=r):=by
     have e1:=HR.out;have e2:=HT.out;have e3:=HNN.out
     rw[List.take_of_length_le (by simp;omega)] at e1
     show _=_
     omega
    go_wp2
    go_ret
    exact⟨by rw[HE.out];rfl,hb0.trans (hbel.mono (by omega))⟩
def CallAt (f C:Nat) (t:T) (more:List Value) (Q:World->Ending->World->Prop):Prop :=
 ∀ (w:World) (ka:Option Addr) (kn kc:Nat) (va:Option Addr) (vn vc:Nat) (oa:Option Addr) (on oc:Nat) (ya:Option Addr) (yc:Nat) (css:Nat->List Value),C<=w.heap.size->NodeX w 0 C (fun b=>b<C) t ka kn kc va vn vc oa on oc ya yc css ->
  Calls Tryz.prog f ((Value.agg #[.bool t.leaf,.int .i64 t.page,.slice ka kn kc,.slice va vn vc,.slice oa on oc,.slice ya t.kids.length yc])::more).toArray w (Q w)
theorem sum_get_le {l:List Nat} {x:Nat} (h:x ∈ l):x<=l.sum:=by
 induction l with
 | nil=>cases h
 | cons a r ih =>
  rcases List.mem_cons.1 h with rfl | h
  ·simp
  ·have:=ih h;simp;omega
theorem ht_le (t:T):-1<=t.ht∧t.ht<t.nodes:=by
 induction t using T.ind with
 | h t ih =>
  rw[T.ht_eq,T.nodes_eq]
  split
  ·omega
  ·match e:t.kids with
   | []=>simp[T.htOf]
   | k::r =>
    have h1:=ih k (by rw[e];exact List.mem_cons_self ..)
    simp only[List.map_cons,List.sum_cons]
    have e2:T.htOf (k.ht::r.map T.ht)=(if k.ht<0 then (-1:Int) else if (r.map T.ht).all (fun x=>x == k.ht) then k.ht+1 else -1):=rfl
    rw[e2]
    split
    ·have:=h1.1;omega
    ·split<;>omega
theorem htOf_bad {l:List Int} {j:Nat} {v h:Int} (hj:l[j]?=some v) (hall:∀ i x,i<j->l[i]?=some x->x=h∧0<=h) (hv:v<0∨(0<j∧v≠h)):T.htOf l=-1:=by
 cases l with
 | nil=>simp at hj
 | cons a r =>
  show (if a<0 then (-1:Int) else if r.all (fun x=>x == a) then a+1 else -1)=-1
  cases j with
  | zero =>
   simp at hj
   subst hj
   rw[if_pos (by omega)]
  | succ j =>
   have ha:=hall 0 a (by omega) (by simp)
   rw[if_neg (by omega),if_neg]
   intro hc
   have:=List.all_eq_true.1 hc v (by simp at hj;exact List.mem_of_getElem? hj)
   simp at this
   omega
theorem htOf_end {l:List Int} {h:Int} (hall:∀ i x,i<l.length->l[i]?=some x->x=h∧0<=h) (h0:l.length=0->h=-1):T.htOf l=h+1:=by
 cases l with
 | nil=>rw[h0 rfl];rfl
 | cons a r =>
  have ha:=hall 0 a (by simp) (by simp)
  rw[htOf_all (by omega)]
  ·omega
  ·intro x hx
   obtain⟨i,hi⟩:=List.mem_iff_getElem?.1 hx
   have:=hall (i+1) x (by have:=(List.getElem?_eq_some_iff.1 hi).1;simp;omega) (by simpa using hi)
   omega
theorem l3Height_any (C:Nat):∀ (t:T),t.nodes<=1000000->CallAt 38 C t [] (fun w e w'=>e=.returned (.int .i64 t.ht)∧Below w.heap.size w w'):=by
 intro t
 induction t using T.ind with
 | h t ih =>
  intro hN w ka kn kc va vn vc oa on oc ya yc css hC hX
  have hb0:Below w.heap.size w (w.alloc (.cells #[.bool t.leaf,.int .i64 t.page,.slice ka kn kc,.slice va vn vc,.slice oa on oc,.slice ya t.kids.length yc] 49)):=(Below.refl _ _).alloc (Nat.le_refl _) _
  have hX0:=hX.belowC (hb0.mono hC)
  have A0:=heap_alloc_new w (.cells #[.bool t.leaf,.int .i64 t.page,.slice ka kn kc,.slice va vn vc,.slice oa on oc,.slice ya t.kids.length yc] 49)
  have s0:(w.alloc (.cells #[.bool t.leaf,.int .i64 t.page,.slice ka kn kc,.slice va vn vc,.slice oa on oc,.slice ya t.kids.length yc] 49)).heap.size=w.heap.size+1:=by simp
  have HT:Hid (t.ht=if t.leaf then 0 else T.htOf (t.kids.map T.ht)):=T.ht_eq t
  have hle:t.kids.length<=maxLen:=Nat.le_trans hX.cap.1 hX.cap.2
  unfold maxLen at hle
  have IH:Hid (∀ (i:Nat) (k:T),t.kids[i]?=some k->k ∈ t.kids->CallAt 38 C k [] (fun w e w'=>e=.returned (.int .i64 k.ht)∧Below w.heap.size w w')):=fun i k hi hm=>ih k hm (by have:=nodes_kid hi;omega)
  have HX:Hid (NodeX (w.alloc (.cells #[.bool t.leaf,.int .i64 t.page,.slice ka kn kc,.slice va vn vc,.slice oa on oc,.slice ya t.kids.length yc] 49)) 0 C (fun b=>b<C) t ka kn kc va vn vc oa on oc ya yc css):=hX0
  have HB:Hid (∀ (i:Nat) (k:T),t.kids[i]?=some k->-1<=k.ht∧k.ht<1000000):=fun i k hi=>by have:=nodes_kid hi;have:=ht_le k;omega
  clear hX hX0 ih
  obtain⟨n,hn⟩:∃ n,n=t.kids.length:=⟨_,rfl⟩
  have HNN:Hid (n=t.kids.length):=hn
  rw[<-hn] at hb0 A0 s0 hle ⊢
  rw[<-hn] at HX
  clear hn
  by_cases hl:t.leaf=true
  ·have HE:Hid (t.ht=0):=by show _=_;rw[HT.out,if_pos hl]
   rw[hl] at hb0 ⊢
   generalize t.page=p at hb0 ⊢
   clear A0 s0 HX HT hl
   go_enter Tryz.func38,Tryz.ntmps38
   go_wp2
   go_ret
   exact⟨by rw[HE.out];rfl,hb0⟩
  have HE:Hid (t.ht=T.htOf (t.kids.map T.ht)):=by show _=_;rw[HT.out,if_neg hl]
  have hl2:t.leaf=false:=by simpa using hl
  rw[hl2] at hb0 A0 s0 HX ⊢
  clear hl hl2 HT
  generalize t.page=p at hb0 A0 s0 HX ⊢
  go_enter Tryz.func38,Tryz.ntmps38
  go_wp2
  generalize w.alloc (.cells #[.bool false,.int .i64 p,.slice ka kn kc,.slice va vn vc,.slice oa on oc,.slice ya n yc] 49)=W0 at hb0 A0 s0 HX ⊢
  go_loopw [3,4] (fun o i wr=>∃ (j:Nat) (h:Int),j<=n∧i=.int .i64 j∧o=.int .i64 h∧(-1<=h∧h<1000000)∧Hid ((∀ i x,i<j->(t.kids.map T.ht)[i]?=some x->x=h∧0<=h)∧(j=0->h=-1))∧Below W0.heap.size W0 wr) (fun _ i _=>n - (intOf i).toNat)
  case atStart=>exact⟨0,-1,Nat.zero_le _,rfl,rfl,by omega,⟨fun i x hi=>by omega,fun _=>rfl⟩,Below.refl _ _⟩
  case round =>
   obtain⟨j,h,hj,rfl,rfl,hh,HR,hbel⟩:=hrel
   have A1:=(hbel.block _ (by omega)).trans A0
   obtain⟨x0,x1,x2,x3,x4,x5⟩:=box6 A1
   have l1:w.heap.size<wr.heap.size:=by have:=hbel.size;omega
   by_cases hlt:j<n
   ·obtain⟨b,off,rfl,hbl,k,hki,hkm,ka',kn',kc',va',vn',vc',oa',on',oc',ya',yc',css',hXk,c0,c1,c2,c3,c4,c5⟩:=(HX.out.belowC (hbel.mono (by omega))).at (i:=j) (by have:=HNN.out;omega)
    have HM:Hid ((t.kids.map T.ht)[j]?=some k.ht):=by show _=_;rw[List.getElem?_map,hki];rfl
    have hkb:=HB.out j k hki
    have IHk:=IH.out j k hki hkm
    clear hki hkm
    go_wp2_with fail
    refine (IHk wr ka' kn' kc' va' vn' vc' oa' on' oc' ya' yc' css' (by omega) hXk).mono ?_
    rintro e w1 ⟨rfl,hb1⟩
    have hbel2:=hbel.trans (hb1.mono hbel.size)
    clear c0 c1 c2 c3 c4 c5 hXk IHk x0 x1 x2 x3 x4 x5 A1
    generalize k.ht=v at *
    by_cases t1:v<0
    ·have HZ:Hid (t.ht=-1):=by show _=_;rw[HE.out];exact htOf_bad HM.out HR.out.1 (.inl t1)
     go_wp2
     go_ret
     exact⟨by rw[HZ.out];rfl,hb0.trans (hbel2.mono (by omega))⟩
    ·by_cases t2:0<j
     ·by_cases t3:v=h
      ·have s3:(v != h)=false:=by simp[t3]
       have HR2:Hid ((∀ i x,i<j+1->(t.kids.map T.ht)[i]?=some x->x=v∧0<=v)∧(j+1=0->v=-1)):=by
        refine⟨fun i x hi hx=>?_,fun h=>by omega⟩
        by_cases hij:i=j
        ·subst hij
         rw[HM.out] at hx
         simp at hx
         omega
        ·have:=HR.out.1 i x (by omega) hx
         omega
       clear HR t3
       go_wp2
       go_roundw
       case rel=>exact⟨j+1,v,by omega,by go_num,rfl,by omega,HR2,hbel2⟩
       case measure=>simp[intOf];omega
      ·have s3:(v != h)=true:=by simpa using t3
       have HZ:Hid (t.ht=-1):=by show _=_;rw[HE.out];exact htOf_bad HM.out HR.out.1 (.inr ⟨t2,t3⟩)
       clear t3
       go_wp2
       go_ret
       exact⟨by rw[HZ.out];rfl,hb0.trans (hbel2.mono (by omega))⟩
     ·have HR2:Hid ((∀ i x,i<j+1->(t.kids.map T.ht)[i]?=some x->x=v∧0<=v)∧(j+1=0->v=-1)):=by
       refine⟨fun i x hi hx=>?_,fun h=>by omega⟩
       have hij:i=j:=by omega
       subst hij
       rw[HM.out] at hx
       simp at hx
       omega
      clear HR
      go_wp2
      go_roundw
      case rel=>exact⟨j+1,v,by omega,by go_num,rfl,by omega,HR2,hbel2⟩
      case measure=>simp[intOf];omega
   ·have HZ:Hid (t.ht=h+1):=by
     have e3:=HNN.out
     show _=_
     rw[HE.out]
     exact htOf_end (fun i x hi hx=>HR.out.1 i x (by simp at hi;omega) hx) (fun h=>HR.out.2 (by simp at h;rw[h] at e3;simp at e3;omega))
    go_wp2
    go_ret
    exact⟨by rw[HZ.out];rfl,hb0.trans (hbel.mono (by omega))⟩
theorem l1In_any (x lo hi:Int) (w:World) :
  Calls Tryz.prog 18 #[.int .i64 x,.int .i64 lo,.int .i64 hi] w fun e w'=>e=.returned (.bool (decide (lo<=x∧x<=hi)))∧w'=w:=by
 by_cases h1:lo<=x
 ·go_enter Tryz.func18,Tryz.ntmps18
  go_wp2
  go_ret
  exact⟨by simp[h1],rfl⟩
 ·have hd:decide (lo<=x)=false:=by simp;omega
  go_enter Tryz.func18,Tryz.ntmps18
  go_wp2
  go_ret
  exact⟨by simp,rfl⟩
end Go.Proofs.YtkhglgalbifcnaaGreat
