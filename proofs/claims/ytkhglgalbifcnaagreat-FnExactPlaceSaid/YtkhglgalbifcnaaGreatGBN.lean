import Derived.Test.YtkhglgalbifcnaaGreatGAA
import Derived.Test.YtkhglgalbifcnaaGreatGBL
import Derived.Test.YtkhglgalbifcnaaGreatTpm
import Derived.Deep.LoopGhost
import Derived.Deep.DeepCutAuto
namespace Go.Proofs.YtkhglgalbifcnaaGreat
set_option maxHeartbeats 6400000
open Go.RowKit
set_option linter.unusedVariables false
set_option linter.unusedSimpArgs false
set_option maxRecDepth 100000
theorem write_any (P:Nat) (Z R:Nat->Prop) (tx t0 num:Int) (s:PSt) (w:World) (h:QW w P Z tx s) (c:PgC) (kd nx:Int) (d:ByteArray) (ka:Option Addr) (kn kc:Nat) (ea:Option Addr) (en ec:Nat)
  (hc:PgIs (fun g=>¬ R g) w tx [.int .i64 kd,.int .i64 tx,.int .i64 0,.int .i64 0,.int .i64 0,.slice ka kn kc,.slice ea en ec,.int .i64 nx,.string d] c) (hR:∀ g,R g->g<w.heap.size∧¬ Z g) (hlen:s.log.length<=1000000) :
  Calls Tryz.prog 82 #[.pointer (some ⟨P,0,none⟩),.int .i64 num,.agg #[.int .i64 kd,.int .i64 t0,.int .i64 0,.int .i64 0,.int .i64 0,.slice ka kn kc,.slice ea en ec,.int .i64 nx,.string d]] w fun e w'=>e=.returned (.tuple #[])∧∃ Z',QW w' P Z' tx { s with log:=s.log++[(num,c)] }∧Fr Z w w'∧∀ g,Z' g->Z g∨R g∨w.heap.size<=g:=by
 obtain⟨fa,fn,fc,pv,nv,css,q⟩:=h
 obtain⟨ns,hns⟩:∃ ns,s.log.map Prod.fst=ns:=⟨_,rfl⟩
 obtain⟨pl,hpl⟩:∃ pl,s.log.map Prod.snd=pl:=⟨_,rfl⟩
 have HLG:Hid (s.log.map Prod.fst=ns∧s.log.map Prod.snd=pl):=⟨hns,hpl⟩
 have h1:ns.length=s.log.length:=by rw[<-hns];simp
 have h2:pl.length=s.log.length:=by rw[<-hpl];simp
 rw[hns,hpl] at q
 obtain⟨pa,pc,rfl⟩:=own_shape q.prow
 obtain⟨na,nc,rfl⟩:=own_shape q.nrow
 rw[<-h1] at hlen
 obtain⟨A,hA⟩:∃ A,ns.length=A:=⟨_,rfl⟩
 have hA2:pl.length=A:=by omega
 rw[hA,hA2] at q
 have HAA:Hid (ns.length=A∧pl.length=A):=⟨hA,hA2⟩
 have hA6:A<=1000000:=by omega
 obtain⟨W,hW⟩:∃ W,W=w.alloc (.cells #[.int .i64 kd,.int .i64 tx,.int .i64 0,.int .i64 0,.int .i64 0,.slice ka kn kc,.slice ea en ec,.int .i64 nx,.string d] 93):=⟨_,rfl⟩
 have b1:Below w.heap.size w W:=by rw[hW];exact (Below.refl w.heap.size w).alloc (Nat.le_refl _) _
 have hbx:W.heap[w.heap.size]?=some (.cells #[.int .i64 kd,.int .i64 tx,.int .i64 0,.int .i64 0,.int .i64 0,.slice ka kn kc,.slice ea en ec,.int .i64 nx,.string d] 93):=by rw[hW];exact heap_alloc_new w _
 obtain⟨c0,c1,c2,c3,c4⟩:=box5P q.box
 have lP:P<w.heap.size:=q.lt P q.zp
 clear hns hpl h1 h2 hA hA2 hlen
 have HQW:Hid (QAt W P Z tx s fa fn fc (.slice pa A pc) (.slice na A nc) css ns pl):=q.keep b1.size (fun g hg=>b1.block g (q.lt g hg))
 have HPW:Hid (PgIs (fun g=>¬ R g) W tx [.int .i64 kd,.int .i64 tx,.int .i64 0,.int .i64 0,.int .i64 0,.slice ka kn kc,.slice ea en ec,.int .i64 nx,.string d] c):=hc.below b1
 have HRW:Hid (∀ g,R g->g<w.heap.size∧¬ Z g):=hR
 have HB1:Hid (Below w.heap.size w W):=b1
 have HBX:Hid (W.heap[w.heap.size]?=some (.cells #[.int .i64 kd,.int .i64 tx,.int .i64 0,.int .i64 0,.int .i64 0,.slice ka kn kc,.slice ea en ec,.int .i64 nx,.string d] 93)):=hbx
 obtain⟨ip,hip,hp0,hp1,hp2⟩:=info_parts info_PageP
 obtain⟨ii,hii,hj0,hj1,hj2⟩:=info_parts info_int64
 clear hc hR q b1 hbx
 go_enter Tryz.func82,Tryz.ntmps82
 go_upto_region 2 with fail
 rw[<-hW]
 clear c0 c1 c2 c3 c4 hW
 obtain⟨c0,c1,c2,c3,c4⟩:=box5P HQW.out.box
 have lPW:P<W.heap.size:=HQW.out.lt P HQW.out.zp
 obtain⟨X,hX⟩:∃ X,X=W.alloc (.cells #[.int .i64 num] 2):=⟨_,rfl⟩
 have HWX:Hid (Below W.heap.size W X):=by rw[hX];exact (Below.refl _ _).alloc (Nat.le_refl _) _
 have QX:Hid (QAt X P Z tx s fa fn fc (.slice pa A pc) (.slice na A nc) css ns pl):=HQW.out.keep HWX.out.size (fun g hg=>HWX.out.block g (HQW.out.lt g hg))
 have HN0:Hid (X.ownsRow 0 2 1 (.slice na A nc) A (rowsOf intCells ns)):=by
  have:=QX.out.nrow
  rw[HAA.out.1] at this
  exact this
 have hcn:∀ j u,[Value.int .i64 num][j]?=some u->X.cell? ((⟨W.heap.size,0,none⟩:Addr).add j)=some u:=by rw[hX];exact cell_one_newP _ _ _
 go_upto_region 3 with (at_builtin;rw[<-hX];refine wpList_append_ownD _ rfl _ _ 25 rfl 0 2 ii _ 1 8 Tryz.underlying25 hii hj0 hj1 hj2 rfl (by decide) (.slice na A nc) A _ rfl HN0.out ⟨W.heap.size,0,none⟩ 1 1 [.int .i64 num] rfl rfl hcn (by simp[Value.oneCell']) (by unfold maxLen;omega) (by omega) (Nat.zero_le _) ?_;intro v2 w2 ho2 hg2 hl2;obtain⟨g2,k2,rfl⟩:=own_shape ho2;have hb2:w2.heap[P]?=_:=(hg2.block P (QX.out.lt P QX.out.zp) (fun e=>own_ne_ty QX.out.nrow QX.out.box (by decide) e.symm)).trans QX.out.box;have f2:=thawT hb2;have l2:P<w2.heap.size:=(Array.getElem?_eq_some_iff.1 hb2).1;obtain⟨d0,d1,d2,d3,d4⟩:=box5P hb2;have HPN:=Hid.i (QX.out.pushN (y:=num) (v':=.slice g2 (A+1) k2) (by rw[HAA.out.1];exact ho2) hg2 hl2);have HG2:=Hid.i hg2;clear ho2 hg2 hl2 hb2)
 have lN:w.heap.size<W.heap.size:=(Array.getElem?_eq_some_iff.1 HBX.out).1
 have HBN:Hid ((w2.setCell ⟨P,4,none⟩ (.slice g2 (A+1) k2)).heap[w.heap.size]?=some (.cells #[.int .i64 kd,.int .i64 tx,.int .i64 0,.int .i64 0,.int .i64 0,.slice ka kn kc,.slice ea en ec,.int .i64 nx,.string d] 93)):=by
  have lX:=HWX.out.size
  have e1:X.heap[w.heap.size]?=W.heap[w.heap.size]?:=HWX.out.block _ lN
  have e2:w2.heap[w.heap.size]?=_:=HG2.out.block _ (by omega) (fun e=>own_ne_ty QX.out.nrow (e1.trans HBX.out) (by decide) e.symm)
  show _=_
  rw[(fr_setT w2 P 4 _).block _ (by have:=HG2.out.size;omega) (by omega),e2,e1,HBX.out]
 have HFX:Hid (Fr Z X (w2.setCell ⟨P,4,none⟩ (.slice g2 (A+1) k2))):=HPN.out.2
 have HF1:Hid (Fr Z w (w2.setCell ⟨P,4,none⟩ (.slice g2 (A+1) k2))):=((Fr.of_below HB1.out).trans (Fr.of_below HWX.out)).trans HFX.out
 have hsX:w.heap.size<=X.heap.size:=Nat.le_trans HB1.out.size HWX.out.size
 obtain⟨Z1,hZ1⟩:∃ Z1:Nat->Prop,Z1=fun g=>Z g∨(X.heap.size<=g∧g<w2.heap.size):=⟨_,rfl⟩
 have HZ1:Hid (∀ g,Z1 g->Z g∨w.heap.size<=g):=fun g e=>by rw[hZ1] at e;exact e.elim .inl (fun e=>.inr (by omega))
 have HQ1:Hid (QAt (w2.setCell ⟨P,4,none⟩ (.slice g2 (A+1) k2)) P Z1 tx s fa fn fc (.slice pa A pc) (.slice g2 (A+1) k2) css (ns++[num]) pl):=by rw[hZ1];exact HPN.out.1
 have HZZ:Hid (∀ g,Z g->Z1 g):=fun g e=>by rw[hZ1];exact .inl e
 generalize w2.setCell ⟨P,4,none⟩ (.slice g2 (A+1) k2)=W3 at *
 have HP3:Hid (PgIs (fun g=>¬ R g) W3 tx [.int .i64 kd,.int .i64 tx,.int .i64 0,.int .i64 0,.int .i64 0,.slice ka kn kc,.slice ea en ec,.int .i64 nx,.string d] c):=by
  have:=(HPW.out.below HWX.out)
  refine this.keepZ (fun g hg=>?_)
  exact .inr (HFX.out.block g (by have:=(HRW.out g hg).1;omega) (HRW.out g hg).2)
 have hs3:w.heap.size<=W3.heap.size:=HF1.out.size
 have HR3:Hid (∀ g,R g->g<W3.heap.size∧¬ Z1 g):=fun g hg=>⟨by have:=(HRW.out g hg).1;omega,fun e=>(HZ1.out g e).elim (HRW.out g hg).2 (fun e=>by have:=(HRW.out g hg).1;omega)⟩
 have lP3:P<W3.heap.size:=by omega
 clear hZ1 HPN HG2 HFX HN0 hcn hX HWX QX HPW HBX HB1 HQW c0 c1 c2 c3 c4 lPW d0 d1 d2 d3 d4 f2 l2 lN hsX
 have bV0:=(Below.refl W3.heap.size W3).drew
 refine wp_region_noPanic ?_
 refine wp_region_held_drew (S:=(fun _:World=>True)) (by kernel_rfl) (trivial) (fun hHeld=>?_)
 clear hHeld
 generalize W3.drew=V at bV0 ⊢
 have hHeld:=trivial
 have HQV:Hid (QAt V P Z1 tx s fa fn fc (.slice pa A pc) (.slice g2 (A+1) k2) css (ns++[num]) pl):=HQ1.out.keep bV0.size (fun g hg=>bV0.block g (HQ1.out.lt g hg))
 have HPV:Hid (PgIs (fun g=>¬ R g) V tx [.int .i64 kd,.int .i64 tx,.int .i64 0,.int .i64 0,.int .i64 0,.slice ka kn kc,.slice ea en ec,.int .i64 nx,.string d] c):=HP3.out.below bV0
 have HBV:Hid (V.heap[w.heap.size]?=some (.cells #[.int .i64 kd,.int .i64 tx,.int .i64 0,.int .i64 0,.int .i64 0,.slice ka kn kc,.slice ea en ec,.int .i64 nx,.string d] 93)):=(bV0.block w.heap.size (Array.getElem?_eq_some_iff.1 HBN.out).1).trans HBN.out
 have HSV:Hid (W3.heap.size<=V.heap.size):=bV0.size
 have HVB:Hid (Below W3.heap.size W3 V):=bV0
 obtain⟨q0,q1,q2,q3,q4⟩:=box5P HQV.out.box
 obtain⟨y0,y1,y2,y3,y4,y5,y6,y7,y8⟩:=box9P HBV.out
 have lPV:P<V.heap.size:=HQV.out.lt P HQV.out.zp
 have lNV:w.heap.size<V.heap.size:=(Array.getElem?_eq_some_iff.1 HBV.out).1
 clear bV0
 refine tY 0 (.pointer (some ⟨P,0,none⟩)) .z (by kernel_rfl) (by rfl) ?_ ‹_› ?_
 ·intro wq hSw;go_simp
 refine tY 1 (.pointer (some ⟨P,0,none⟩)) (.s .z) (by kernel_rfl) (by rfl) ?_ ‹_› ?_
 ·intro wq hSw;go_simp
 refine tY 2 (.pointer (some ⟨P,0,none⟩)) (.s (.s .z)) (by kernel_rfl) (by rfl) ?_ ‹_› ?_
 ·intro wq hSw;go_simp
 refine tY 3 (.pointer (some ⟨P,3,none⟩)) (.s (.s (.s .z))) (by kernel_rfl) (by rfl) ?_ ‹_› ?_
 ·intro wq hSw;go_simp
 try simp only[Act.put,q1,q2,q3]
 refine wpAnyH_ready (rs:=[4,5]) (by kernel_rfl) (by simp) ?_
 refine rdA (.s (.s (.s (.s .z)))) (fun K hK=>?_) ?_
 rotate_left 1
 refine rdA (.f .z) (fun K hK=>?_) ?_
 rotate_left 1
 exact AllReadyH.nil
 ·go_simp
  refine hK.out _ _ (trivial) (fun hHeld=>?_)
  clear hK K
  try simp only[Act.put,q1,q2,q3]
  refine wpAnyH_ready (rs:=[5]) (by kernel_rfl) (by simp) ?_
  refine rdA (.f .z) (fun K hK=>?_) AllReadyH.nil
  go_simp
  refine hK.out _ _ (trivial) (fun hHeld=>?_)
  clear hK K
  try simp only[Act.put,q1,q2,q3]
  refine wpAnyH_ready (rs:=[6]) (by kernel_rfl) (by simp) ?_
  refine rdA (.f (.s .z)) (fun K hK=>?_) AllReadyH.nil
  go_simp
  have HAL:Hid (Below V.heap.size V (V.alloc (.cells #[.int .i64 kd,.int .i64 tx,.int .i64 0,.int .i64 0,.int .i64 0,.slice ka kn kc,.slice ea en ec,.int .i64 nx,.string d] 93))):=(Below.refl V.heap.size V).alloc (Nat.le_refl _) (.cells #[.int .i64 kd,.int .i64 tx,.int .i64 0,.int .i64 0,.int .i64 0,.slice ka kn kc,.slice ea en ec,.int .i64 nx,.string d] 93)
  have HQA:Hid (QAt (V.alloc (.cells #[.int .i64 kd,.int .i64 tx,.int .i64 0,.int .i64 0,.int .i64 0,.slice ka kn kc,.slice ea en ec,.int .i64 nx,.string d] 93)) P Z1 tx s fa fn fc (.slice pa A pc) (.slice g2 (A+1) k2) css (ns++[num]) pl):=HQV.out.keep HAL.out.size (fun g hg=>HAL.out.block g (HQV.out.lt g hg))
  obtain⟨z0,z1,z2,z3,z4⟩:=box5P HQA.out.box
  obtain⟨x0,x1,x2,x3,x4,x5,x6,x7,x8⟩:=box9P ((HAL.out.block w.heap.size lNV).trans HBV.out)
  have lPA:P<(V.alloc (.cells #[.int .i64 kd,.int .i64 tx,.int .i64 0,.int .i64 0,.int .i64 0,.slice ka kn kc,.slice ea en ec,.int .i64 nx,.string d] 93)).heap.size:=HQA.out.lt P HQA.out.zp
  refine hK.out _ _ (trivial) (fun hHeld=>?_)
  clear hK K
  try simp only[Act.put,q1,q2,q3]
  refine wpAnyH_ready (rs:=[7]) (by kernel_rfl) (by simp) ?_
  refine rdA (.f (.s (.s .z))) (fun K hK=>?_) AllReadyH.nil
  have hrow:(V.alloc (.cells #[.int .i64 kd,.int .i64 tx,.int .i64 0,.int .i64 0,.int .i64 0,.slice ka kn kc,.slice ea en ec,.int .i64 nx,.string d] 93)).ownsRow 0 93 9 (.slice pa A pc) A css.flatten:=by have:=HQA.out.prow;rw[HAA.out.2] at this;exact this
  refine step_append_T rfl _ _ 30 rfl 0 93 ip _ 9 112 Tryz.underlying30 hip hp0 hp1 hp2 rfl (by decide) (.slice pa A pc) A css.flatten (by simp[Act.eval]) hrow ⟨V.heap.size,0,none⟩ 1 1 [.int .i64 kd,.int .i64 tx,.int .i64 0,.int .i64 0,.int .i64 0,.slice ka kn kc,.slice ea en ec,.int .i64 nx,.string d] (by simp[Act.eval]) rfl (cell_nine_newP _ _ _ _ _ _ _ _ _ _ _) (by simp[Value.oneCell']) (by unfold maxLen;omega) (by omega) (Nat.zero_le _) ?_
  intro u7 w7 hown7 hgr7 hlies7
  obtain⟨g7,c7',rfl⟩:=own_shape hown7
  have hb7:w7.heap[P]?=_:=(hgr7.block P lPA (fun e=>own_ne_ty HQA.out.prow HQA.out.box (by decide) e.symm)).trans HQA.out.box
  obtain⟨t0,t1,t2,t3,t4⟩:=box5P hb7
  have f7:=thawT hb7
  have l7:P<w7.heap.size:=(Array.getElem?_eq_some_iff.1 hb7).1
  have HM:=Hid.i (HQA.out.pushP (R:=R) (c:=c) (cs:=[.int .i64 kd,.int .i64 tx,.int .i64 0,.int .i64 0,.int .i64 0,.slice ka kn kc,.slice ea en ec,.int .i64 nx,.string d]) (v':=.slice g7 (A+1) c7') (HPV.out.below HAL.out) (fun g hg=>⟨Nat.lt_of_lt_of_le (HR3.out g hg).1 (Nat.le_trans HSV.out HAL.out.size),(HR3.out g hg).2⟩) (by rw[HAA.out.2];exact hown7) hgr7 hlies7)
  clear hown7 hgr7 hlies7 hb7 hrow z0 z1 z2 z3 z4 lPA x0 x1 x2 x3 x4 x5 x6 x7 x8
  refine hK.out _ _ (trivial) (fun hHeld=>?_)
  clear hK K
  refine tY 8 (.pointer (some ⟨P,0,none⟩)) (.f (.s (.s (.s .z)))) (by kernel_rfl) (by rfl) ?_ ‹_› ?_
  ·intro wq hSw;go_simp
  refine tY 9 (.pointer (some ⟨P,3,none⟩)) (.f (.s (.s (.s (.s .z))))) (by kernel_rfl) (by rfl) ?_ ‹_› ?_
  ·intro wq hSw;go_simp
  try simp only[Act.put,q1,q2,q3]
  refine wpAnyH_ready (rs:=[10]) (by kernel_rfl) (by simp) ?_
  refine rdA (.t .z) (fun K hK=>?_) AllReadyH.nil
  go_simp
  refine hK.out _ _ (trivial) (fun hHeld=>?_)
  clear hK K
  try simp only[Act.put,q1,q2,q3]
  refine wpAnyH_done (by kernel_rfl) ?_ _
  refine NoPanic.normal ?_
  clear hHeld t0 t1 t2 t3 t4 f7 l7
  go_end0
  refine⟨rfl,_,⟨_,_,_,_,_,_,by rw[List.map_append,List.map_append,HLG.out.1,HLG.out.2];exact HM.out.1.log _⟩,HF1.out.up3 ((Fr.of_below HVB.out).trans ((Fr.of_below HAL.out).trans HM.out.2)) (fun g e=>HZ1.out g e),fun g e=>?_⟩
  rcases e with e | e | e
  ·exact (HZ1.out g e).elim .inl (fun e=>.inr (.inr e))
  ·exact .inr (.inl e)
  ·exact .inr (.inr (by have h1:=HSV.out;have h2:=HAL.out.size;omega))
 ·go_simp
  refine hK.out _ _ (trivial) (fun hHeld=>?_)
  clear hK K
  try simp only[Act.put,q1,q2,q3]
  refine wpAnyH_ready (rs:=[4,6]) (by kernel_rfl) (by simp) ?_
  refine rdA (.s (.s (.s (.s .z)))) (fun K hK=>?_) ?_
  rotate_left 1
  refine rdA (.f (.s .z)) (fun K hK=>?_) ?_
  rotate_left 1
  exact AllReadyH.nil
  ·go_simp
   refine hK.out _ _ (trivial) (fun hHeld=>?_)
   clear hK K
   try simp only[Act.put,q1,q2,q3]
   refine wpAnyH_ready (rs:=[6]) (by kernel_rfl) (by simp) ?_
   refine rdA (.f (.s .z)) (fun K hK=>?_) AllReadyH.nil
   go_simp
   have HAL:Hid (Below V.heap.size V (V.alloc (.cells #[.int .i64 kd,.int .i64 tx,.int .i64 0,.int .i64 0,.int .i64 0,.slice ka kn kc,.slice ea en ec,.int .i64 nx,.string d] 93))):=(Below.refl V.heap.size V).alloc (Nat.le_refl _) (.cells #[.int .i64 kd,.int .i64 tx,.int .i64 0,.int .i64 0,.int .i64 0,.slice ka kn kc,.slice ea en ec,.int .i64 nx,.string d] 93)
   have HQA:Hid (QAt (V.alloc (.cells #[.int .i64 kd,.int .i64 tx,.int .i64 0,.int .i64 0,.int .i64 0,.slice ka kn kc,.slice ea en ec,.int .i64 nx,.string d] 93)) P Z1 tx s fa fn fc (.slice pa A pc) (.slice g2 (A+1) k2) css (ns++[num]) pl):=HQV.out.keep HAL.out.size (fun g hg=>HAL.out.block g (HQV.out.lt g hg))
   obtain⟨z0,z1,z2,z3,z4⟩:=box5P HQA.out.box
   obtain⟨x0,x1,x2,x3,x4,x5,x6,x7,x8⟩:=box9P ((HAL.out.block w.heap.size lNV).trans HBV.out)
   have lPA:P<(V.alloc (.cells #[.int .i64 kd,.int .i64 tx,.int .i64 0,.int .i64 0,.int .i64 0,.slice ka kn kc,.slice ea en ec,.int .i64 nx,.string d] 93)).heap.size:=HQA.out.lt P HQA.out.zp
   refine hK.out _ _ (trivial) (fun hHeld=>?_)
   clear hK K
   try simp only[Act.put,q1,q2,q3]
   refine wpAnyH_ready (rs:=[7]) (by kernel_rfl) (by simp) ?_
   refine rdA (.f (.s (.s .z))) (fun K hK=>?_) AllReadyH.nil
   have hrow:(V.alloc (.cells #[.int .i64 kd,.int .i64 tx,.int .i64 0,.int .i64 0,.int .i64 0,.slice ka kn kc,.slice ea en ec,.int .i64 nx,.string d] 93)).ownsRow 0 93 9 (.slice pa A pc) A css.flatten:=by have:=HQA.out.prow;rw[HAA.out.2] at this;exact this
   refine step_append_T rfl _ _ 30 rfl 0 93 ip _ 9 112 Tryz.underlying30 hip hp0 hp1 hp2 rfl (by decide) (.slice pa A pc) A css.flatten (by simp[Act.eval]) hrow ⟨V.heap.size,0,none⟩ 1 1 [.int .i64 kd,.int .i64 tx,.int .i64 0,.int .i64 0,.int .i64 0,.slice ka kn kc,.slice ea en ec,.int .i64 nx,.string d] (by simp[Act.eval]) rfl (cell_nine_newP _ _ _ _ _ _ _ _ _ _ _) (by simp[Value.oneCell']) (by unfold maxLen;omega) (by omega) (Nat.zero_le _) ?_
   intro u7 w7 hown7 hgr7 hlies7
   obtain⟨g7,c7',rfl⟩:=own_shape hown7
   have hb7:w7.heap[P]?=_:=(hgr7.block P lPA (fun e=>own_ne_ty HQA.out.prow HQA.out.box (by decide) e.symm)).trans HQA.out.box
   obtain⟨t0,t1,t2,t3,t4⟩:=box5P hb7
   have f7:=thawT hb7
   have l7:P<w7.heap.size:=(Array.getElem?_eq_some_iff.1 hb7).1
   have HM:=Hid.i (HQA.out.pushP (R:=R) (c:=c) (cs:=[.int .i64 kd,.int .i64 tx,.int .i64 0,.int .i64 0,.int .i64 0,.slice ka kn kc,.slice ea en ec,.int .i64 nx,.string d]) (v':=.slice g7 (A+1) c7') (HPV.out.below HAL.out) (fun g hg=>⟨Nat.lt_of_lt_of_le (HR3.out g hg).1 (Nat.le_trans HSV.out HAL.out.size),(HR3.out g hg).2⟩) (by rw[HAA.out.2];exact hown7) hgr7 hlies7)
   clear hown7 hgr7 hlies7 hb7 hrow z0 z1 z2 z3 z4 lPA x0 x1 x2 x3 x4 x5 x6 x7 x8
   refine hK.out _ _ (trivial) (fun hHeld=>?_)
   clear hK K
   refine tY 8 (.pointer (some ⟨P,0,none⟩)) (.f (.s (.s (.s .z)))) (by kernel_rfl) (by rfl) ?_ ‹_› ?_
   ·intro wq hSw;go_simp
   refine tY 9 (.pointer (some ⟨P,3,none⟩)) (.f (.s (.s (.s (.s .z))))) (by kernel_rfl) (by rfl) ?_ ‹_› ?_
   ·intro wq hSw;go_simp
   try simp only[Act.put,q1,q2,q3]
   refine wpAnyH_ready (rs:=[10]) (by kernel_rfl) (by simp) ?_
   refine rdA (.t .z) (fun K hK=>?_) AllReadyH.nil
   go_simp
   refine hK.out _ _ (trivial) (fun hHeld=>?_)
   clear hK K
   try simp only[Act.put,q1,q2,q3]
   refine wpAnyH_done (by kernel_rfl) ?_ _
   refine NoPanic.normal ?_
   clear hHeld t0 t1 t2 t3 t4 f7 l7
   go_end0
   refine⟨rfl,_,⟨_,_,_,_,_,_,by rw[List.map_append,List.map_append,HLG.out.1,HLG.out.2];exact HM.out.1.log _⟩,HF1.out.up3 ((Fr.of_below HVB.out).trans ((Fr.of_below HAL.out).trans HM.out.2)) (fun g e=>HZ1.out g e),fun g e=>?_⟩
   rcases e with e | e | e
   ·exact (HZ1.out g e).elim .inl (fun e=>.inr (.inr e))
   ·exact .inr (.inl e)
   ·exact .inr (.inr (by have h1:=HSV.out;have h2:=HAL.out.size;omega))
  ·go_simp
   have HAL:Hid (Below V.heap.size V (V.alloc (.cells #[.int .i64 kd,.int .i64 tx,.int .i64 0,.int .i64 0,.int .i64 0,.slice ka kn kc,.slice ea en ec,.int .i64 nx,.string d] 93))):=(Below.refl V.heap.size V).alloc (Nat.le_refl _) (.cells #[.int .i64 kd,.int .i64 tx,.int .i64 0,.int .i64 0,.int .i64 0,.slice ka kn kc,.slice ea en ec,.int .i64 nx,.string d] 93)
   have HQA:Hid (QAt (V.alloc (.cells #[.int .i64 kd,.int .i64 tx,.int .i64 0,.int .i64 0,.int .i64 0,.slice ka kn kc,.slice ea en ec,.int .i64 nx,.string d] 93)) P Z1 tx s fa fn fc (.slice pa A pc) (.slice g2 (A+1) k2) css (ns++[num]) pl):=HQV.out.keep HAL.out.size (fun g hg=>HAL.out.block g (HQV.out.lt g hg))
   obtain⟨z0,z1,z2,z3,z4⟩:=box5P HQA.out.box
   obtain⟨x0,x1,x2,x3,x4,x5,x6,x7,x8⟩:=box9P ((HAL.out.block w.heap.size lNV).trans HBV.out)
   have lPA:P<(V.alloc (.cells #[.int .i64 kd,.int .i64 tx,.int .i64 0,.int .i64 0,.int .i64 0,.slice ka kn kc,.slice ea en ec,.int .i64 nx,.string d] 93)).heap.size:=HQA.out.lt P HQA.out.zp
   refine hK.out _ _ (trivial) (fun hHeld=>?_)
   clear hK K
   try simp only[Act.put,q1,q2,q3]
   refine wpAnyH_ready (rs:=[4]) (by kernel_rfl) (by simp) ?_
   refine rdA (.s (.s (.s (.s .z)))) (fun K hK=>?_) AllReadyH.nil
   go_simp
   refine hK.out _ _ (trivial) (fun hHeld=>?_)
   clear hK K
   try simp only[Act.put,q1,q2,q3]
   refine wpAnyH_ready (rs:=[7]) (by kernel_rfl) (by simp) ?_
   refine rdA (.f (.s (.s .z))) (fun K hK=>?_) AllReadyH.nil
   have hrow:(V.alloc (.cells #[.int .i64 kd,.int .i64 tx,.int .i64 0,.int .i64 0,.int .i64 0,.slice ka kn kc,.slice ea en ec,.int .i64 nx,.string d] 93)).ownsRow 0 93 9 (.slice pa A pc) A css.flatten:=by have:=HQA.out.prow;rw[HAA.out.2] at this;exact this
   refine step_append_T rfl _ _ 30 rfl 0 93 ip _ 9 112 Tryz.underlying30 hip hp0 hp1 hp2 rfl (by decide) (.slice pa A pc) A css.flatten (by simp[Act.eval]) hrow ⟨V.heap.size,0,none⟩ 1 1 [.int .i64 kd,.int .i64 tx,.int .i64 0,.int .i64 0,.int .i64 0,.slice ka kn kc,.slice ea en ec,.int .i64 nx,.string d] (by simp[Act.eval]) rfl (cell_nine_newP _ _ _ _ _ _ _ _ _ _ _) (by simp[Value.oneCell']) (by unfold maxLen;omega) (by omega) (Nat.zero_le _) ?_
   intro u7 w7 hown7 hgr7 hlies7
   obtain⟨g7,c7',rfl⟩:=own_shape hown7
   have hb7:w7.heap[P]?=_:=(hgr7.block P lPA (fun e=>own_ne_ty HQA.out.prow HQA.out.box (by decide) e.symm)).trans HQA.out.box
   obtain⟨t0,t1,t2,t3,t4⟩:=box5P hb7
   have f7:=thawT hb7
   have l7:P<w7.heap.size:=(Array.getElem?_eq_some_iff.1 hb7).1
   have HM:=Hid.i (HQA.out.pushP (R:=R) (c:=c) (cs:=[.int .i64 kd,.int .i64 tx,.int .i64 0,.int .i64 0,.int .i64 0,.slice ka kn kc,.slice ea en ec,.int .i64 nx,.string d]) (v':=.slice g7 (A+1) c7') (HPV.out.below HAL.out) (fun g hg=>⟨Nat.lt_of_lt_of_le (HR3.out g hg).1 (Nat.le_trans HSV.out HAL.out.size),(HR3.out g hg).2⟩) (by rw[HAA.out.2];exact hown7) hgr7 hlies7)
   clear hown7 hgr7 hlies7 hb7 hrow z0 z1 z2 z3 z4 lPA x0 x1 x2 x3 x4 x5 x6 x7 x8
   refine hK.out _ _ (trivial) (fun hHeld=>?_)
   clear hK K
   refine tY 8 (.pointer (some ⟨P,0,none⟩)) (.f (.s (.s (.s .z)))) (by kernel_rfl) (by rfl) ?_ ‹_› ?_
   ·intro wq hSw;go_simp
   refine tY 9 (.pointer (some ⟨P,3,none⟩)) (.f (.s (.s (.s (.s .z))))) (by kernel_rfl) (by rfl) ?_ ‹_› ?_
   ·intro wq hSw;go_simp
   try simp only[Act.put,q1,q2,q3]
   refine wpAnyH_ready (rs:=[10]) (by kernel_rfl) (by simp) ?_
   refine rdA (.t .z) (fun K hK=>?_) AllReadyH.nil
   go_simp
   refine hK.out _ _ (trivial) (fun hHeld=>?_)
   clear hK K
   try simp only[Act.put,q1,q2,q3]
   refine wpAnyH_done (by kernel_rfl) ?_ _
   refine NoPanic.normal ?_
   clear hHeld t0 t1 t2 t3 t4 f7 l7
   go_end0
   refine⟨rfl,_,⟨_,_,_,_,_,_,by rw[List.map_append,List.map_append,HLG.out.1,HLG.out.2];exact HM.out.1.log _⟩,HF1.out.up3 ((Fr.of_below HVB.out).trans ((Fr.of_below HAL.out).trans HM.out.2)) (fun g e=>HZ1.out g e),fun g e=>?_⟩
   rcases e with e | e | e
   ·exact (HZ1.out g e).elim .inl (fun e=>.inr (.inr e))
   ·exact .inr (.inl e)
   ·exact .inr (.inr (by have h1:=HSV.out;have h2:=HAL.out.size;omega))
def vsP (v:ByteArray) (s:PSt) (k:Nat):PSt:={ (takeP k s).2 with log:=s.log++(ovPages v (takeP ((v.size+95) / 96) s).1).take k }
theorem nxt_setlog (s:PSt) (l:List (Int × PgC)):nxtP { s with log:=l }=((nxtP s).1,{ (nxtP s).2 with log:=l }):=by
 unfold nxtP
 show (match freeFrom s.used 2 998 with | some i=>_ | none=>_)=_
 cases freeFrom s.used 2 998<;>rfl
theorem take_getP:∀ (n k:Nat) (s:PSt),k<n->(takeP n s).1.getD k 0=(nxtP (takeP k s).2).1
 | 0,k,s,h=>by omega
 | n+1,0,s,h=>by rw[takeP];rfl
 | n+1,k+1,s,h=>by
  rw[takeP,takeP]
  simp only[List.getD_cons_succ]
  exact take_getP n k _ (by omega)
theorem vs_zero (v:ByteArray) (s:PSt):vsP v s 0=s:=by
 unfold vsP
 simp[takeP]
theorem vs_one (v:ByteArray) (s:PSt) (k:Nat):(nxtP (vsP v s k)).1=(nxtP (takeP k s).2).1:=by
 unfold vsP
 rw[nxt_setlog]
theorem vs_two (v:ByteArray) (s:PSt) (k:Nat):(nxtP (vsP v s k)).2={ (takeP (k+1) s).2 with log:=(vsP v s k).log }:=by
 unfold vsP
 rw[nxt_setlog,take_snocP2]
theorem ov_get (v:ByteArray) (ns:List Int) (k:Nat) (h:k<ns.length):(ovPages v ns)[k]?=some (ns.getD k 0,.over (if v.size<=(k+1)*96 then 0 else ns.getD (k+1) 0) (v.extract (k*96) (min ((k+1)*96) v.size))):=by
 simp[ovPages,List.getElem?_map,List.getElem?_range,h]
theorem vs_next (v:ByteArray) (s:PSt) (k:Nat) (hk:k<(v.size+95) / 96):{ (nxtP (vsP v s k)).2 with log:=(nxtP (vsP v s k)).2.log++[((nxtP (vsP v s k)).1,.over (if v.size<=(k+1)*96 then 0 else (nxtP (nxtP (vsP v s k)).2).1) (v.extract (k*96) (min ((k+1)*96) v.size)))] }=vsP v s (k+1):=by
 have hl:=take_len ((v.size+95) / 96) s
 have e:(if v.size<=(k+1)*96 then 0 else (nxtP (nxtP (vsP v s k)).2).1)=if v.size<=(k+1)*96 then 0 else (takeP ((v.size+95) / 96) s).1.getD (k+1) 0:=by
  split
  ·rfl
  ·rw[vs_two,nxt_setlog,take_getP _ _ _ (by omega)]
 rw[e,vs_one,vs_two,<-take_getP ((v.size+95) / 96) k s hk]
 unfold vsP
 simp only[PSt.mk.injEq,true_and]
 rw[List.take_add_one,ov_get _ _ _ (by omega)]
 simp
theorem vs_end (v:ByteArray) (s:PSt):vsP v s ((v.size+95) / 96)=(valP v s).2:=by
 unfold vsP valP
 rw[take_log,List.take_of_length_le (by simp[ovPages,take_len])]
theorem vs_first (v:ByteArray) (s:PSt) (h:0<v.size):(valP v s).1=(nxtP s).1:=by
 unfold valP
 obtain⟨n,hn⟩:∃ n,(v.size+95) / 96=n+1:=⟨(v.size+95) / 96 - 1,by omega⟩
 rw[hn,takeP]
 rfl
theorem vs_len (v:ByteArray) (s:PSt) (k:Nat):(vsP v s k).log.length<=s.log.length+(v.size+95) / 96:=by
 unfold vsP
 have hl:=take_len ((v.size+95) / 96) s
 simp[ovPages,hl]
 omega
theorem QW.zp {w:World} {P:Nat} {Z:Nat->Prop} {tx:Int} {s:PSt} (h:QW w P Z tx s):Z P:=by
 obtain⟨_,_,_,_,_,_,q⟩:=h
 exact q.zp
theorem QW.more {w:World} {P:Nat} {Z:Nat->Prop} {tx:Int} {s s':PSt} (h:QW w P Z tx s) (e:s=s'):QW w P Z tx s':=e ▸ h
theorem placeValue_any (P:Nat) (Z:Nat->Prop) (tx:Int) (s:PSt) (w:World) (h:QW w P Z tx s) (v:ByteArray) (hv0:0<v.size) (hv:v.size<=400) (hlen:s.log.length<=999000) :
  Calls Tryz.prog 102 #[.pointer (some ⟨P,0,none⟩),.string v] w fun e w'=>e=.returned (.int .i64 (valP v s).1)∧∃ Z',QW w' P Z' tx (valP v s).2∧Fr Z w w'∧∀ g,Z' g->Z g∨w.heap.size<=g:=by
 obtain⟨J,hJ⟩:∃ J,(v.size+95) / 96=J:=⟨_,rfl⟩
 obtain⟨n,hn⟩:∃ n,v.size=n:=⟨_,rfl⟩
 have HJN:Hid ((v.size+95) / 96=J∧v.size=n):=⟨hJ,hn⟩
 have hJn:96*J<n+96∧n<=96*J:=by omega
 obtain⟨hJa,hJb⟩:=hJn
 have hn4:n<=400:=by omega
 have hnx:=next_any P Z tx s w h
 have HV1:Hid ((valP v s).1=(nxtP s).1):=vs_first v s hv0
 have HLN:Hid (s.log.length<=999000):=hlen
 have HQ0:Hid (QW w P Z tx (vsP v s 0)):=by show QW _ _ _ _ _;rw[vs_zero];exact h
 have HE:Hid (v.extract (min (0*96) n) n=v):=by show _=_;rw[<-hn];simp
 rw[HV1.out]
 obtain⟨f,hf⟩:∃ f,(nxtP s).1=f:=⟨_,rfl⟩
 rw[hf] at hnx ⊢
 clear hJ hn h hv0 hv hlen hf
 go_enter Tryz.func102,Tryz.ntmps102
 go_wp2_with fail
 refine hnx.mono ?_
 rintro e w1 ⟨rfl,rfl⟩
 go_wp2_with fail
 go_loopg [1] J (fun gk u wr=>∃ (j:Nat) (Zj:Nat->Prop) (x:ByteArray),j<=J∧gk=J - j∧u=.string x∧Hid (x=v.extract (min (j*96) n) n)∧Hid (QW wr P Zj tx (vsP v s j))∧Hid (Fr Z w1 wr)∧Hid (∀ g,Zj g->Z g∨w1.heap.size<=g))
 case atStart=>exact⟨0,Z,v,Nat.zero_le _,rfl,rfl,HE.out.symm,HQ0,Fr.of_below (Below.refl _ _),fun g e=>.inl e⟩
 case round =>
  clear HE HQ0
  obtain⟨j,Zj,x,hj,rfl,rfl,HX,HQ,HF,HZ⟩:=hrel
  have hxs:x.size=n - min (j*96) n:=by rw[HX.out,ByteArray.size_extract,HJN.out.2];omega
  obtain⟨m,hm⟩:∃ m,x.size=m:=⟨_,rfl⟩
  have hmm:m=n - min (j*96) n:=by omega
  by_cases hlt:j*96<n
  ·have htk:=take_any P Zj tx (vsP v s j) wr HQ.out
   obtain⟨num,hnum⟩:∃ num,(nxtP (vsP v s j)).1=num:=⟨_,rfl⟩
   rw[hnum] at htk
   have HNM:Hid ((nxtP (vsP v s j)).1=num):=hnum
   clear hnum
   go_wp2_with fail
   refine htk.mono ?_
   rintro e w2 ⟨rfl,hQ2,hF2⟩
   have HQ2:Hid (QW w2 P Zj tx (nxtP (vsP v s j)).2):=hQ2
   have HF2:Hid (Fr (fun g=>g=P) wr w2):=hF2
   clear hQ2 hF2 htk
   by_cases hlast:m<=96
   ·have hl9:n<=(j+1)*96:=by omega
    go_wp2_with fail
    generalize hpz:x.extract 0 (min ((n - min (j*96) n:Nat):Int) 96).toNat=pz
    generalize hxr:x.extract (min (min ((n - min (j*96) n:Nat):Int) 96).toNat (n - min (j*96) n)) (n - min (j*96) n)=xr
    have HPZ:Hid (v.extract (j*96) (min ((j+1)*96) n)=pz):=by
     show _=_
     rw[<-hpz,HX.out,ByteArray.extract_extract]
     congr 1<;>omega
    have HXR:Hid (xr=v.extract (min ((j+1)*96) n) n):=by
     show _=_
     rw[<-hxr,HX.out,ByteArray.extract_extract]
     congr 1<;>omega
    clear hpz hxr
    have HWB:Hid (Below w2.heap.size w2 (w2.alloc (.cells #[.int .i64 4,.int .i64 0,.int .i64 0,.int .i64 0,.int .i64 0,.slice none 0 0,.slice none 0 0,.int .i64 0,.string pz] 93))):=(Below.refl _ _).alloc (Nat.le_refl _) _
    have hwr:=write_any P Zj (fun _=>False) tx 0 num (nxtP (vsP v s j)).2 _ (HQ2.out.below HWB.out) (.over 0 pz) 4 0 pz none 0 0 none 0 0 (PgIs.over _ _) (fun _ e=>e.elim) (by rw[nxt_log];have h1:=vs_len v s j;have h2:=HLN.out;have h3:=HJN.out;omega)
    refine hwr.mono ?_
    rintro e w3 ⟨rfl,Z3,hQ3,hF3,hZ3⟩
    have HQ3:Hid (QW w3 P Z3 tx (vsP v s (j+1))):=hQ3.more (by rw[<-vs_next v s j (by rw[HJN.out.1];omega),HNM.out,HJN.out.2,HPZ.out,if_pos (by omega)])
    have HF3:Hid (Fr Z w1 w3):=HF.out.up3 ((HF2.out.weak (fun g e=>e ▸ HQ.out.zp)).trans ((Fr.of_below HWB.out).trans hF3)) HZ.out
    have HZ3:Hid (∀ g,Z3 g->Z g∨w1.heap.size<=g):=fun g e=>by
     rcases hZ3 g e with e | e | e
     ·exact HZ.out g e
     ·exact e.elim
     ·exact .inr (by have h1:=HWB.out.size;have h2:=HF2.out.size;have h3:=HF.out.size;omega)
    clear hQ3 hF3 hZ3 hwr HWB
    go_wp2_with fail
    go_roundg (J - (j+1))
    case measure=>omega
    case rel=>exact⟨j+1,Z3,xr,by omega,rfl,rfl,HXR,HQ3,HF3,HZ3⟩
   ·have hl9:¬ n<=(j+1)*96:=by omega
    obtain⟨nx,hnx2⟩:∃ nx,(nxtP (nxtP (vsP v s j)).2).1=nx:=⟨_,rfl⟩
    have HNX:Hid ((nxtP (nxtP (vsP v s j)).2).1=nx):=hnx2
    clear hnx2
    go_wp2_with fail
    generalize hpz:x.extract 0 (min ((n - min (j*96) n:Nat):Int) 96).toNat=pz
    generalize hxr:x.extract (min (min ((n - min (j*96) n:Nat):Int) 96).toNat (n - min (j*96) n)) (n - min (j*96) n)=xr
    have HPZ:Hid (v.extract (j*96) (min ((j+1)*96) n)=pz):=by
     show _=_
     rw[<-hpz,HX.out,ByteArray.extract_extract]
     congr 1<;>omega
    have HXR:Hid (xr=v.extract (min ((j+1)*96) n) n):=by
     show _=_
     rw[<-hxr,HX.out,ByteArray.extract_extract]
     congr 1<;>omega
    clear hpz hxr
    have HWA:Hid (Below w2.heap.size w2 (w2.alloc (.cells #[.int .i64 4,.int .i64 0,.int .i64 0,.int .i64 0,.int .i64 0,.slice none 0 0,.slice none 0 0,.int .i64 0,.string pz] 93))):=(Below.refl _ _).alloc (Nat.le_refl _) _
    have hne:=next_any P Zj tx (nxtP (vsP v s j)).2 _ (HQ2.out.below HWA.out)
    rw[HNX.out] at hne
    refine hne.mono ?_
    rintro e w4 ⟨rfl,rfl⟩
    clear hne HWA
    go_wp2_with fail
    have HWB:Hid (Below w2.heap.size w2 (w2.alloc (.cells #[.int .i64 4,.int .i64 0,.int .i64 0,.int .i64 0,.int .i64 0,.slice none 0 0,.slice none 0 0,.int .i64 nx,.string pz] 93))):=(Below.refl _ _).alloc (Nat.le_refl _) _
    have hwr:=write_any P Zj (fun _=>False) tx 0 num (nxtP (vsP v s j)).2 _ (HQ2.out.below HWB.out) (.over nx pz) 4 nx pz none 0 0 none 0 0 (PgIs.over _ _) (fun _ e=>e.elim) (by rw[nxt_log];have h1:=vs_len v s j;have h2:=HLN.out;have h3:=HJN.out;omega)
    refine hwr.mono ?_
    rintro e w3 ⟨rfl,Z3,hQ3,hF3,hZ3⟩
    have HQ3:Hid (QW w3 P Z3 tx (vsP v s (j+1))):=hQ3.more (by rw[<-vs_next v s j (by rw[HJN.out.1];omega),HNM.out,HJN.out.2,HPZ.out,if_neg (by omega),HNX.out])
    have HF3:Hid (Fr Z w1 w3):=HF.out.up3 ((HF2.out.weak (fun g e=>e ▸ HQ.out.zp)).trans ((Fr.of_below HWB.out).trans hF3)) HZ.out
    have HZ3:Hid (∀ g,Z3 g->Z g∨w1.heap.size<=g):=fun g e=>by
     rcases hZ3 g e with e | e | e
     ·exact HZ.out g e
     ·exact e.elim
     ·exact .inr (by have h1:=HWB.out.size;have h2:=HF2.out.size;have h3:=HF.out.size;omega)
    clear hQ3 hF3 hZ3 hwr HWB
    go_wp2_with fail
    go_roundg (J - (j+1))
    case measure=>omega
    case rel=>exact⟨j+1,Z3,xr,by omega,rfl,rfl,HXR,HQ3,HF3,HZ3⟩
  ·obtain rfl:j=J:=by omega
   have hx0:x.size=0:=by omega
   clear hm hxs hmm
   have HQE:Hid (QW wr P Zj tx (valP v s).2):=by
    have:=HQ.out
    rw[<-HJN.out.1,vs_end] at this
    exact this
   go_wp2_with fail
   go_ret
   exact⟨rfl,Zj,HQE.out,HF.out,HZ.out⟩
theorem cell_ofI {w:World} {G t:Nat} {cs:Array Value} (h:w.heap[G]?=some (.cells cs t)) {o:Nat} {v:Value} (hv:cs[o]?=some v):w.cell? ⟨G,o,none⟩=some v:=by
 simp[World.cell?,h,hv]
theorem set_sameI {cs:Array Value} {o:Nat} {v:Value} (h:cs[o]?=some v):cs.setIfInBounds o v=cs:=by
 apply Array.ext_getElem?
 intro i
 rw[Array.getElem?_setIfInBounds]
 split
 ·rename_i e
  subst e
  obtain⟨hl,_⟩:=Array.getElem?_eq_some_iff.1 h
  rw[if_pos hl,h]
 ·rfl
def ovN (v:ByteArray) (ov:Int) (s:PSt):Int:=if 8<v.size∧ov=0 then (valP v s).1 else ov
def ovS (v:ByteArray) (ov:Int) (s:PSt):PSt:=if 8<v.size∧ov=0 then (valP v s).2 else s
def SlotAns (P G o t:Nat) (Z:Nat->Prop) (tx:Int) (s:PSt) (cs:Array Value) (k v:ByteArray) (ov:Int) (w:World) (e:Ending) (w':World):Prop :=
 e=.returned (.agg #[.string (entC (k,v,ovN v ov s)).1,.string (entC (k,v,ovN v ov s)).2.1,.int .i64 (entC (k,v,ovN v ov s)).2.2.1,.int .i64 (entC (k,v,ovN v ov s)).2.2.2])∧∃ Z',QW w' P Z' tx (ovS v ov s)∧w'.heap[G]?=some (.cells (cs.setIfInBounds (o+2) (.int .i64 (ovN v ov s))) t)∧Fr (fun g=>Z g∨g=G) w w'∧∀ g,Z' g->Z g∨w.heap.size<=g
def put4I (w:World) (N:Nat) (u0 u1 u2 u3:Value):World:=(((w.setCell ⟨N,0,none⟩ u0).setCell ⟨N,1,none⟩ u1).setCell ⟨N,2,none⟩ u2).setCell ⟨N,3,none⟩ u3
theorem put4I_box {w:World} {N t:Nat} {v0 v1 v2 v3:Value} (h:w.heap[N]?=some (.cells #[v0,v1,v2,v3] t)) (u0 u1 u2 u3:Value):(put4I w N u0 u1 u2 u3).heap[N]?=some (.cells #[u0,u1,u2,u3] t):=by
 unfold put4I
 rw[heap_setT (heap_setT (heap_setT (heap_setT h 0 u0) 1 u1) 2 u2) 3 u3]
 rfl
theorem put4I_fr (w:World) (N:Nat) (u0 u1 u2 u3:Value):Fr (fun g=>g=N) w (put4I w N u0 u1 u2 u3):=(((fr_setT w N 0 u0).trans (fr_setT _ N 1 u1)).trans (fr_setT _ N 2 u2)).trans (fr_setT _ N 3 u3)
theorem slot_fin {P G t:Nat} {Z Z':Nat->Prop} {tx:Int} {s:PSt} {cs:Array Value} {w V X:World} (hQ:QW V P Z' tx s) (hG:V.heap[G]?=some (.cells cs t)) (hGN:G<w.heap.size) (hF:Fr (fun g=>Z g∨g=G) w V) (hX:Fr (fun g=>g=w.heap.size) V X) (hN:∀ g,Z' g->g≠w.heap.size) (hZ:∀ g,Z' g->Z g∨w.heap.size<=g) :
  ∃ Z',QW X P Z' tx s∧X.heap[G]?=some (.cells cs t)∧Fr (fun g=>Z g∨g=G) w X∧∀ g,Z' g->Z g∨w.heap.size<=g :=
 ⟨Z',hQ.fr hX (fun g hg e=>hN g hg e),(hX.block G (Array.getElem?_eq_some_iff.1 hG).1 (by omega)).trans hG,hF.up3 hX (fun g e=>.inr (Nat.le_of_eq e.symm)),hZ⟩
theorem placeSlot_any (P G o:Nat) (Z:Nat->Prop) (tx:Int) (s:PSt) (w:World) (h:QW w P Z tx s) (cs:Array Value) (hG:w.heap[G]?=some (.cells cs 134)) (hZG:¬ Z G) (k v:ByteArray) (ov:Int) (h0:cs[o]?=some (.string k)) (h1:cs[o+1]?=some (.string v)) (h2:cs[o+2]?=some (.int .i64 ov)) (hv:v.size<=400) (hlen:s.log.length<=999000) :
  Calls Tryz.prog 80 #[.pointer (some ⟨P,0,none⟩),.pointer (some ⟨G,o,none⟩)] w fun e w'=>SlotAns P G o 134 Z tx s cs k v ov w e w':=by
 obtain⟨W,hW⟩:∃ W,W=w.alloc (.cells #[.string ⟨#[]⟩,.string ⟨#[]⟩,.int .i64 0,.int .i64 0] 98):=⟨_,rfl⟩
 have b1:Below w.heap.size w W:=by rw[hW];exact (Below.refl w.heap.size w).alloc (Nat.le_refl _) _
 have hbx:W.heap[w.heap.size]?=some (.cells #[.string ⟨#[]⟩,.string ⟨#[]⟩,.int .i64 0,.int .i64 0] 98):=by rw[hW];exact heap_alloc_new w _
 have lG:G<w.heap.size:=(Array.getElem?_eq_some_iff.1 hG).1
 have hGW:W.heap[G]?=some (.cells cs 134):=(b1.block G lG).trans hG
 have c0:=cell_ofI hGW h0
 have c1:=cell_ofI hGW h1
 have c2:=cell_ofI hGW h2
 have fG:=thawT hGW
 have fN:=thawT hbx
 have hsW:w.heap.size<W.heap.size:=(Array.getElem?_eq_some_iff.1 hbx).1
 have HQ:Hid (QW W P Z tx s):=h.below b1
 have HB:Hid (Below w.heap.size w W):=b1
 have HGW:Hid (W.heap[G]?=some (.cells cs 134)):=hGW
 have HBX:Hid (W.heap[w.heap.size]?=some (.cells #[.string ⟨#[]⟩,.string ⟨#[]⟩,.int .i64 0,.int .i64 0] 98)):=hbx
 have HZG:Hid (¬ Z G):=hZG
 have HLN:Hid (s.log.length<=999000):=hlen
 obtain⟨n,hn⟩:∃ n,v.size=n:=⟨_,rfl⟩
 have HN:Hid (v.size=n):=hn
 have hn4:n<=400:=by omega
 have HH:Hid (cs[o]?=some (.string k)∧cs[o+1]?=some (.string v)∧cs[o+2]?=some (.int .i64 ov)):=⟨h0,h1,h2⟩
 have HLZ:Hid (∀ g,Z g->g<w.heap.size):=h.lt
 obtain⟨x0,x1,x2,x3⟩:=box4P hbx
 clear h hG hZG hGW hbx b1 h0 h1 h2 hv hlen
 have hn0:w.heap.size≠G:=Nat.ne_of_gt lG
 by_cases hs:n<=8
 ·have HE:Hid (entC (k,v,ovN v ov s)=(k,v,0,(n:Int))∧ovN v ov s=ov∧ovS v ov s=s):=by
   show _∧_∧_
   unfold ovN ovS entC
   rw[if_neg (by rw[hn];omega),if_neg (by omega),if_neg (by omega),hn]
   exact⟨rfl,rfl,rfl⟩
  go_enter Tryz.func80,Tryz.ntmps80
  go_upto_region 1 with fail
  rw[<-hW]
  clear hW
  go_upto_region 3 with fail
  go_region_held3 (fun w'=>w'.cell? ⟨G,o,none⟩=some (.string k)∧w'.cell? ⟨G,o+1,none⟩=some (.string v)) (go_keep) (fail)
  have hbx:=put4I_box HBX.out (.string k) (.string v) (.int .i64 0) (.int .i64 (n:Int))
  have hfx:=put4I_fr W w.heap.size (.string k) (.string v) (.int .i64 0) (.int .i64 (n:Int))
  change Exit.then _ _ Exit.normal _ (put4I W w.heap.size (.string k) (.string v) (.int .i64 0) (.int .i64 (n:Int))).drew
  generalize put4I W w.heap.size (.string k) (.string v) (.int .i64 0) (.int .i64 (n:Int))=X at hbx hfx ⊢
  have hbd:X.drew.heap[w.heap.size]?=_:=hbx
  have hfd:Fr (fun g=>g=w.heap.size) W X.drew:=hfx.trans (Fr.of_below (Below.refl X.heap.size X).drew)
  generalize X.drew=X at hbd hfd ⊢
  obtain⟨y0,y1,y2,y3⟩:=box4P hbd
  have HFD:Hid (Fr (fun g=>g=w.heap.size) W X):=hfd
  clear hbx hfx hbd hfd
  go_wp2_with fail
  refine bodyPost_ret (v:=.agg #[(.string k),(.string v),(.int .i64 0),(.int .i64 (n:Int))]) (by simp[results,Tryz.results80,go_sem,y0,y1,y2,y3]) rfl ?_
  refine⟨by rw[HE.out.1],?_⟩
  rw[HE.out.2.2]
  exact slot_fin (HQ.out) (by rw[HE.out.2.1,set_sameI HH.out.2.2];exact HGW.out) lG ((Fr.of_below HB.out)) HFD.out (fun g hg e=>by have:=HLZ.out g hg;omega) (fun g e=>.inl e)
 ·go_enter Tryz.func80,Tryz.ntmps80
  go_upto_region 1 with fail
  rw[<-hW]
  clear hW
  by_cases ho:ov=0
  ·subst ho
   have HE:Hid (entC (k,v,ovN v 0 s)=(k,⟨#[]⟩,(valP v s).1,(n:Int))∧ovN v 0 s=(valP v s).1∧ovS v 0 s=(valP v s).2):=by
    show _∧_∧_
    unfold ovN ovS entC
    rw[if_pos (by rw[hn];omega),if_pos (by omega),if_pos (by omega),hn]
    exact⟨rfl,rfl,rfl⟩
   have hpv:=placeValue_any P Z tx s W HQ.out v (by omega) (by omega) HLN.out
   go_wp2_with fail
   refine hpv.mono ?_
   rintro e w5 ⟨rfl,Z5,hQ5,hF5,hZ5⟩
   have hG5:w5.heap[G]?=some (.cells cs 134):=(hF5.block G (by omega) HZG.out).trans HGW.out
   have hbx5:w5.heap[w.heap.size]?=some (.cells #[.string ⟨#[]⟩,.string ⟨#[]⟩,.int .i64 0,.int .i64 0] 98):=(hF5.block _ hsW (fun e=>by have:=HLZ.out _ e;omega)).trans HBX.out
   obtain⟨nv,hnv⟩:∃ nv,(valP v s).1=nv:=⟨_,rfl⟩
   have HNV:Hid ((valP v s).1=nv):=hnv
   rw[hnv] at HE ⊢
   have f5:=thawT hG5
   have d0:=cell_ofI hG5 HH.out.1
   have d1:=cell_ofI hG5 HH.out.2.1
   have d2:=cell_ofI hG5 HH.out.2.2
   have hs5:=hF5.size
   have l5:G<w5.heap.size:=by omega
   have hG6:(w5.setCell ⟨G,o+2,none⟩ (.int .i64 nv)).heap[G]?=some (.cells (cs.setIfInBounds (o+2) (.int .i64 nv)) 134):=heap_setT hG5 _ _
   have F6:=fr_setT w5 G (o+2) (.int .i64 nv)
   have HBX6:Hid ((w5.setCell ⟨G,o+2,none⟩ (.int .i64 nv)).heap[w.heap.size]?=some (.cells #[.string ⟨#[]⟩,.string ⟨#[]⟩,.int .i64 0,.int .i64 0] 98)):=(F6.block _ (by omega) (by omega)).trans hbx5
   have HZ5:Hid (∀ g,Z5 g->Z g∨W.heap.size<=g):=hZ5
   have HQ6:Hid (QW (w5.setCell ⟨G,o+2,none⟩ (.int .i64 nv)) P Z5 tx (valP v s).2):=hQ5.fr F6 (fun g hg e=>by
    rcases hZ5 g hg with e2 | e2
    ·exact HZG.out (e ▸ e2)
    ·omega)
   have HF6:Hid (Fr (fun g=>Z g∨g=G) w (w5.setCell ⟨G,o+2,none⟩ (.int .i64 nv))):=(Fr.of_below HB.out).trans ((hF5.weak (fun g e=>.inl e)).trans (F6.weak (fun g e=>.inr e)))
   have HG6:Hid ((w5.setCell ⟨G,o+2,none⟩ (.int .i64 nv)).heap[G]?=some (.cells (cs.setIfInBounds (o+2) (.int .i64 nv)) 134)):=hG6
   have e0:(w5.setCell ⟨G,o+2,none⟩ (.int .i64 nv)).cell? ⟨G,o,none⟩=some (.string k):=cell_ofI hG6 (by rw[Array.getElem?_setIfInBounds,if_neg (by omega)];exact HH.out.1)
   have e2:(w5.setCell ⟨G,o+2,none⟩ (.int .i64 nv)).cell? ⟨G,o+2,none⟩=some (.int .i64 nv):=cell_ofI hG6 (by rw[Array.getElem?_setIfInBounds,if_pos rfl,if_pos (Array.getElem?_eq_some_iff.1 HH.out.2.2).1])
   clear hnv hQ5 hF5 hZ5 hpv
   go_upto_region 6 with fail
   generalize w5.setCell ⟨G,o+2,none⟩ (.int .i64 nv)=W6 at *
   have f6:=thawT HBX6.out
   have s6:w.heap.size<W6.heap.size:=(Array.getElem?_eq_some_iff.1 HBX6.out).1
   have l6:G<W6.heap.size:=by omega
   obtain⟨z0,z1,z2,z3⟩:=box4P HBX6.out
   clear hG5 hbx5 d0 d1 d2 f5 hG6 F6 c0 c1 c2 fG fN x0 x1 x2 x3
   go_region_held3 (fun w'=>w'.cell? ⟨G,o,none⟩=some (.string k)∧w'.cell? ⟨G,o+2,none⟩=some (.int .i64 nv)) (go_keep) (fail)
   have hbx:=put4I_box HBX6.out (.string k) (.string ⟨#[]⟩) (.int .i64 nv) (.int .i64 (n:Int))
   have hfx:=put4I_fr W6 w.heap.size (.string k) (.string ⟨#[]⟩) (.int .i64 nv) (.int .i64 (n:Int))
   change Exit.then _ _ Exit.normal _ (put4I W6 w.heap.size (.string k) (.string ⟨#[]⟩) (.int .i64 nv) (.int .i64 (n:Int))).drew
   generalize put4I W6 w.heap.size (.string k) (.string ⟨#[]⟩) (.int .i64 nv) (.int .i64 (n:Int))=X at hbx hfx ⊢
   have hbd:X.drew.heap[w.heap.size]?=_:=hbx
   have hfd:Fr (fun g=>g=w.heap.size) W6 X.drew:=hfx.trans (Fr.of_below (Below.refl X.heap.size X).drew)
   generalize X.drew=X at hbd hfd ⊢
   obtain⟨y0,y1,y2,y3⟩:=box4P hbd
   have HFD:Hid (Fr (fun g=>g=w.heap.size) W6 X):=hfd
   clear hbx hfx hbd hfd
   go_wp2_with fail
   refine bodyPost_ret (v:=.agg #[(.string k),(.string ⟨#[]⟩),(.int .i64 nv),(.int .i64 (n:Int))]) (by simp[results,Tryz.results80,go_sem,y0,y1,y2,y3]) rfl ?_
   refine⟨by rw[HE.out.1],?_⟩
   rw[HE.out.2.2,HE.out.2.1]
   exact slot_fin (HQ6.out) (HG6.out) lG (HF6.out) HFD.out (fun g hg e=>(HZ5.out g hg).elim (fun e2=>by have:=HLZ.out g e2;omega) (fun e2=>by omega)) (fun g e=>(HZ5.out g e).elim .inl (fun e=>.inr (by omega)))
  ·have HE:Hid (entC (k,v,ovN v ov s)=(k,⟨#[]⟩,ov,(n:Int))∧ovN v ov s=ov∧ovS v ov s=s):=by
    show _∧_∧_
    unfold ovN ovS entC
    rw[if_pos (by rw[hn];omega),if_neg (fun e=>ho e.2),if_neg (fun e=>ho e.2),hn]
    exact⟨rfl,rfl,rfl⟩
   go_upto_region 6 with fail
   go_region_held3 (fun w'=>w'.cell? ⟨G,o,none⟩=some (.string k)∧w'.cell? ⟨G,o+2,none⟩=some (.int .i64 ov)) (go_keep) (fail)
   have hbx:=put4I_box HBX.out (.string k) (.string ⟨#[]⟩) (.int .i64 ov) (.int .i64 (n:Int))
   have hfx:=put4I_fr W w.heap.size (.string k) (.string ⟨#[]⟩) (.int .i64 ov) (.int .i64 (n:Int))
   change Exit.then _ _ Exit.normal _ (put4I W w.heap.size (.string k) (.string ⟨#[]⟩) (.int .i64 ov) (.int .i64 (n:Int))).drew
   generalize put4I W w.heap.size (.string k) (.string ⟨#[]⟩) (.int .i64 ov) (.int .i64 (n:Int))=X at hbx hfx ⊢
   have hbd:X.drew.heap[w.heap.size]?=_:=hbx
   have hfd:Fr (fun g=>g=w.heap.size) W X.drew:=hfx.trans (Fr.of_below (Below.refl X.heap.size X).drew)
   generalize X.drew=X at hbd hfd ⊢
   obtain⟨y0,y1,y2,y3⟩:=box4P hbd
   have HFD:Hid (Fr (fun g=>g=w.heap.size) W X):=hfd
   clear hbx hfx hbd hfd
   go_wp2_with fail
   refine bodyPost_ret (v:=.agg #[(.string k),(.string ⟨#[]⟩),(.int .i64 ov),(.int .i64 (n:Int))]) (by simp[results,Tryz.results80,go_sem,y0,y1,y2,y3]) rfl ?_
   refine⟨by rw[HE.out.1],?_⟩
   rw[HE.out.2.2]
   exact slot_fin (HQ.out) (by rw[HE.out.2.1,set_sameI HH.out.2.2];exact HGW.out) lG ((Fr.of_below HB.out)) HFD.out (fun g hg e=>by have:=HLZ.out g hg;omega) (fun g e=>.inl e)
end Go.Proofs.YtkhglgalbifcnaaGreat
