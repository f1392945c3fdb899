import Derived.Test.YtbfggcekifaldaaGreatTks
import Derived.Test.YtbfggcekifaldaaGreatHTwq
namespace Go.Proofs.YtbfggcekifaldaaGreat
set_option maxHeartbeats 8000000
open Go.RowKit
set_option linter.unusedVariables false
set_option linter.unusedSimpArgs false
set_option maxRecDepth 100000
theorem info_slotJ:(Tryz.prog.info? 111).map (fun i=>(i.zero,i.size,i.bytes))=some (some (.agg #[.string ByteArray.empty,.string ByteArray.empty,.int .i64 0]),3,40):=by kernel_rfl
theorem src_own {w:World} {base e size n c:Nat} {a:Option Addr} {xs:List Value} (h:w.ownsRow base e size (.slice a n c) n xs) (h1:∀ u ∈ xs,u.oneCell'=true) (hn:n<=1048576):SrcAt w w.heap.size size n (.slice a n c) xs:=by
 refine⟨h.1,hn,h1,a,c,rfl,?_⟩
 rcases h.2 with ⟨e1,e2⟩ | ⟨g,cap,cur,e1,hg1,hg2,h3,h4,_⟩
 ·simp only[Value.slice.injEq] at e1
  obtain⟨rfl,rfl,rfl⟩:=e1
  have hx:xs=[]:=List.length_eq_zero_iff.1 (by rw[h.1];simp)
  subst hx
  exact⟨fun _=>rfl,fun h0=>absurd h0 (by simp),fun x hx=>by cases hx⟩
 ·simp only[Value.slice.injEq] at e1
  obtain⟨rfl,_,rfl⟩:=e1
  refine⟨(fun e=>by cases e),fun _=>⟨g,0,rfl⟩,fun x hx j u hj=>?_⟩
  cases hx
  have hlt:=h.lt g rfl
  have hjl:=(List.getElem?_eq_some_iff.1 hj).1
  have e:(⟨g,0,none⟩:Addr).add j=⟨g,j,none⟩:=by rw[addr_add,Nat.zero_add]
  rw[e]
  exact⟨hlt.2,by rw[h.cellAt j (by rw[<-h.1];exact hjl)];exact hj⟩
def JoinAns (w:World) (P1 P2:Nat->Prop) (t1 t2:T) (u:Value) (e:Ending) (w':World):Prop:=e=.returned (.tuple #[])∧(∃ P:Nat->Prop,GM w' P (glueT t1 t2) u∧∀ b,P b->(P1 b∨P2 b∨w.heap.size<=b)∧b<w'.heap.size)∧Fr P1 w w'
theorem joinLeaf_any {w:World} {P1 P2:Nat->Prop} {t1 t2:T} {L1 L2:Nat} {a1 a2:Option Addr} {n1 c1 n2 c2:Nat} (h:GML w P1 t1 L1 a1 n1 c1) (k:GML w P2 t2 L2 a2 n2 c2) (hl1:t1.leaf=true) (hl2:t2.leaf=true) (hs1:t1.vals.length=t1.keys.length∧t1.over.length=t1.keys.length∧t1.kids=[]) (hs2:t2.vals.length=t2.keys.length∧t2.over.length=t2.keys.length∧t2.kids=[]) (hn1:n1<=1000) (hn2:n2<=1000) (hP1:∀ b,P1 b->b<w.heap.size) (hP2:∀ b,P2 b->b<w.heap.size) (hd:∀ b,P1 b->¬ P2 b) :
  Calls Tryz.prog 102 #[.iface 119 (.pointer (some ⟨L1,0,none⟩)),.iface 119 (.pointer (some ⟨L2,0,none⟩))] w fun e w'=>JoinAns w P1 P2 t1 t2 (.iface 119 (.pointer (some ⟨L1,0,none⟩))) e w':=by
 obtain⟨N,hN⟩:∃ N,w.heap.size=N:=⟨_,rfl⟩
 obtain⟨pg1,hpg1⟩:∃ pg1,t1.page=pg1:=⟨_,rfl⟩
 obtain⟨pg2,hpg2⟩:∃ pg2,t2.page=pg2:=⟨_,rfl⟩
 have hb1:=h.box
 have hb2:=k.box
 rw[hpg1] at hb1
 rw[hpg2] at hb2
 have hL1:=hP1 L1 h.at'
 have hL2:=hP2 L2 k.at'
 have hne:L1≠L2:=fun e=>hd L1 h.at' (e ▸ k.at')
 have HH:Hid (GML w P1 t1 L1 a1 n1 c1∧GML w P2 t2 L2 a2 n2 c2):=⟨h,k⟩
 have HD:Hid ((∀ b,P1 b->b<w.heap.size)∧(∀ b,P2 b->b<w.heap.size)∧∀ b,P1 b->¬ P2 b):=⟨hP1,hP2,hd⟩
 have HS:Hid ((t1.vals.length=t1.keys.length∧t1.over.length=t1.keys.length∧t1.kids=[])∧(t2.vals.length=t2.keys.length∧t2.over.length=t2.keys.length∧t2.kids=[])∧t1.leaf=true):=⟨hs1,hs2,hl1⟩
 have hsoil:=soil_any hb1
 have hm1:∀ w,(nilAhead 261 119 (.pointer (some ⟨L1,0,none⟩)) "loop.example/s02098/impl.soil").run Tryz.prog w=.ok (some false) w:=fun w=>by kernel_rfl
 have hm2:∀ w,(method 261 119 (.pointer (some ⟨L1,0,none⟩)) "loop.example/s02098/impl.soil").run Tryz.prog w=.ok (95,.pointer (some ⟨L1,0,none⟩)) w:=fun w=>by kernel_rfl
 have ta1:=ta_ll
 obtain⟨iS,hiS,hs0,hs1',hs2'⟩:=info_parts info_slotJ
 clear hl1 hl2 hs1 hs2 hP1 hP2 hd hpg1 hpg2 h k
 go_enter Tryz.func102,Tryz.ntmps102
 go_upto_region 1 with (refine hsoil.mono ?_;rintro e W1 ⟨rfl,hW1⟩)
 have f1:=fr_setT w L1 0 (.int .i64 0)
 rw[<-hW1] at f1
 have hx1:W1.heap[L1]?=some (.cells #[.int .i64 0,.slice a1 n1 c1] 121):=by rw[hW1];simpa using heap_setT hb1 0 (.int .i64 0)
 have hx2:=(f1.block L2 hL2 (Ne.symm hne)).trans hb2
 have r1:=owns_fr HH.out.1.row f1 (fun g hg e=>(HH.out.1.blk g hg).2 e)
 have r2:=owns_fr HH.out.2.row f1 (fun g hg e=>HD.out.2.2 g (by rw[e];exact HH.out.1.at') (HH.out.2.blk g hg).1)
 have s1:=f1.size
 have l1:L1<W1.heap.size:=by omega
 have l2:L2<W1.heap.size:=by omega
 have src:=src_own r2 (fun u hu=>slots_one _ u hu) (by omega)
 have hF1:Hid (Fr P1 w W1):=f1.weak (fun g e=>by rw[e];exact HH.out.1.at')
 try rw[<-hW1]
 clear hsoil hW1 f1
 go_upto_region 6 with fail
 have hS0:W1.drew.heap[L2]?=some (.cells #[.int .i64 pg2,.slice a2 n2 c2] 121):=hx2
 refine wp_region_noPanic ?_
 refine wp_region_held_drew (S:=(fun w':World=>w'.heap[L2]?=some (.cells #[.int .i64 pg2,.slice a2 n2 c2] 121))) (by kernel_rfl) (hS0) (fun hHeld=>?_)
 refine tY 0 (.pointer (some ⟨L1,0,none⟩)) .z (by kernel_rfl) (by rfl) ?_ ‹_› ?_
 ·intro wq hSw;go_simp
 refine tY 1 (.pointer (some ⟨L1,0,none⟩)) (.s .z) (by kernel_rfl) (by rfl) ?_ ‹_› ?_
 ·intro wq hSw;go_simp
 refine tY 2 (.pointer (some ⟨L1,0,none⟩)) (.s (.s .z)) (by kernel_rfl) (by rfl) ?_ ‹_› ?_
 ·intro wq hSw;go_simp
 refine tY 3 (.pointer (some ⟨L1,1,none⟩)) (.s (.s (.s .z))) (by kernel_rfl) (by rfl) ?_ ‹_› ?_
 ·intro wq hSw;go_simp
 try simp only[Act.put,q1,q2,q3]
 refine tY 5 (.pointer (some ⟨L2,0,none⟩)) (.f .z) (by kernel_rfl) (by rfl) ?_ ‹_› ?_
 ·intro wq hSw;go_simp
 refine tY 6 (.pointer (some ⟨L2,0,none⟩)) (.f (.s .z)) (by kernel_rfl) (by rfl) ?_ ‹_› ?_
 ·intro wq hSw;go_simp
 refine tY 7 (.pointer (some ⟨L2,1,none⟩)) (.f (.s (.s .z))) (by kernel_rfl) (by rfl) ?_ ‹_› ?_
 ·intro wq hSw;go_simp
 refine tY 8 (.slice a2 n2 c2) (.f (.s (.s (.s .z)))) (by kernel_rfl) (by rfl) ?_ ‹_› ?_
 ·intro wq hSw;(try dsimp only at hSw);obtain⟨y0,y1⟩:=box_twoG hSw;go_simp
 try simp only[Act.put,q1,q2,q3]
 obtain⟨c0,c1'⟩:=box_twoG hx1
 refine wpAnyH_ready (rs:=[4]) (by kernel_rfl) (by simp) ?_
 refine rdA (.s (.s (.s (.s .z)))) (fun K hK=>?_) AllReadyH.nil
 go_simp
 refine hK.out _ _ (hS0) (fun hHeld=>?_)
 clear hK K
 try simp only[Act.put,q1,q2,q3]
 refine wpAnyH_ready (rs:=[9]) (by kernel_rfl) (by simp) ?_
 refine rdA (.f (.s (.s (.s (.s .z))))) (fun K hK=>?_) AllReadyH.nil
 refine step_append_S rfl _ _ 89 rfl 0 111 iS _ 3 40 Tryz.underlying89 hiS hs0 hs1' hs2' rfl (by decide) (by decide) _ n1 _ rfl (owns_below r1 (Below.refl _ _).drew) (by omega) _ W1.heap.size n2 _ rfl (src.below (Below.refl _ _).drew) (Nat.zero_le _) ?_
 intro v' w3 g1 g2 g3
 obtain⟨x,y,rfl⟩:=own_shape g1
 have hdr:W1.drew.heap.size=W1.heap.size:=rfl
 have s3:=g2.size
 have hbL:∀ g,(Value.slice a1 n1 c1).ownBlock=some g->P1 g∧g≠L1:=HH.out.1.blk
 have hk1:w3.heap[L1]?=some (.cells #[.int .i64 0,.slice a1 n1 c1] 121):=(g2.block L1 (by omega) (fun e=>(hbL _ e.symm).2 rfl)).trans hx1
 have hk2:w3.heap[L2]?=some (.cells #[.int .i64 pg2,.slice a2 n2 c2] 121):=(g2.block L2 (by omega) (fun e=>HD.out.2.2 L2 (hbL _ e.symm).1 HH.out.2.at')).trans hS0
 have hst:=fr_setT w3 L1 1 (.slice x (n1+n2) y)
 have hbx:(w3.setCell ⟨L1,1,none⟩ (.slice x (n1+n2) y)).heap[L1]?=some (.cells #[.int .i64 0,.slice x (n1+n2) y] 121):=by simpa using heap_setT hk1 1 (.slice x (n1+n2) y)
 have hown:∀ g,(Value.slice x (n1+n2) y).ownBlock=some g->(P1 g∨W1.heap.size<=g)∧g≠L1:=fun g hg=>by
  rcases g3 with e | e
  ·rw[e] at hg;exact⟨.inl (hbL g hg).1,(hbL g hg).2⟩
  ·have:=e g hg;exact⟨.inr (by omega),by omega⟩
 have HFIN:Hid (JoinAns w P1 P2 t1 t2 (.iface 119 (.pointer (some ⟨L1,0,none⟩))) (.returned (.tuple #[])) (w3.setCell ⟨L1,1,none⟩ (.slice x (n1+n2) y))):=by
  have hst':=hst
  refine⟨rfl,⟨fun b=>b=L1∨(Value.slice x (n1+n2) y).ownBlock=some b,?_,fun b hb=>?_⟩,?_⟩
  ·refine GML.is (a:=x) (n:=n1+n2) (c:=y) ⟨.inl rfl,hbx,?_,fun g hg=>⟨.inr hg,(hown g hg).2⟩,by show n1+n2=(t1.keys++t2.keys).length;rw[List.length_append,HH.out.1.len,HH.out.2.len]⟩ HS.out.2.2
   show World.ownsRow _ 0 _ 3 _ _ (rowsOf slCells ((t1.keys++t2.keys).zip ((t1.vals++t2.vals).zip (t1.over++t2.over))))
   rw[List.zip_append (by rw[HS.out.1.1,HS.out.1.2.1]),List.zip_append (by rw[List.length_zip,HS.out.1.1,HS.out.1.2.1,Nat.min_self]),rowsOf_append]
   exact owns_fr g1 hst' (fun g hg e=>(hown g hg).2 e)
  ·have s5:(w3.setCell ⟨L1,1,none⟩ (.slice x (n1+n2) y)).heap.size=w3.heap.size:=by simp[World.setCell]
   rw[s5]
   rcases hb with rfl | hb
   ·exact⟨.inl HH.out.1.at',by omega⟩
   ·refine⟨(hown b hb).1.elim .inl (fun h=>.inr (.inr (by omega))),(g1.lt b hb).2⟩
  ·refine fr_tight ?_
   have q1:Fr (fun b=>P1 b∨w.heap.size<=b) w W1:=hF1.out.weak (fun g e=>.inl e)
   have q2:Fr (fun b=>P1 b∨w.heap.size<=b) W1 w3:=⟨g2.os,g2.tape,g2.output,s3,fun g hg hn=>g2.block g hg (fun e=>hn (.inl (hbL g e.symm).1))⟩
   exact (q1.trans q2).trans (hst.weak (fun g e=>.inl (by rw[e];exact HH.out.1.at')))
 refine hK.out _ _ (hk2) (fun hHeld=>?_)
 clear hK K
 try simp only[Act.put,q1,q2,q3]
 refine tkB (i:=10) (v:=.pointer (some ⟨L1,0,none⟩)) (.t .z) (by kernel_rfl) (fun _ _ _ h=>h) (Or.inl ⟨by rfl,?_⟩) hk2 ?_
 ·intro wq hSw;go_simp
 try simp only[Act.put,q1,q2,q3]
 refine tkB (i:=11) (v:=.pointer (some ⟨L1,1,none⟩)) (.t (.s .z)) (by kernel_rfl) (fun _ _ _ h=>h) (Or.inl ⟨by rfl,?_⟩) hk2 ?_
 ·intro wq hSw;go_simp
 try simp only[Act.put,q1,q2,q3]
 obtain⟨d0,d1⟩:=box_twoG hk1
 have ff:=thawT hk1
 have l3:L1<w3.heap.size:=(Array.getElem?_eq_some_iff.1 hk1).1
 have hk2':(w3.setCell ⟨L1,1,none⟩ (.slice x (n1+n2) y)).heap[L2]?=_:=(hst.block L2 (by omega) (Ne.symm hne)).trans hk2
 refine wpAnyH_ready (rs:=[12]) (by kernel_rfl) (by simp) ?_
 refine rdA (.t (.s (.s .z))) (fun K hK=>?_) AllReadyH.nil
 go_simp
 clear d0 d1 ff
 refine hK.out _ _ (hk2') (fun hHeld=>?_)
 clear hK K
 try simp only[Act.put,q1,q2,q3]
 refine wpAnyH_done (by kernel_rfl) ?_ _
 refine NoPanic.normal ?_
 clear hHeld
 go_wp2_with fail
 go_end0
 exact HFIN.out
theorem info_nodeJ:(Tryz.prog.info? 54).map (fun i=>(i.zero,i.size,i.bytes))=some (some .nilIface,1,16):=by kernel_rfl
theorem joinInner_any {w:World} {P1 P2:Nat->Prop} {t1 t2:T} {L1 L2:Nat} {a1 a2:Option Addr} {n1 c1 n2 c2:Nat} {ul1 ul2:List Value} {Q1 Q2:Nat->Nat->Prop} (h:GMI w P1 t1 L1 a1 n1 c1 ul1 Q1) (k:GMI w P2 t2 L2 a2 n2 c2 ul2 Q2) (hl1:t1.leaf=false) (hn1:n1<=1000) (hn2:n2<=1000) (hP1:∀ b,P1 b->b<w.heap.size) (hP2:∀ b,P2 b->b<w.heap.size) (hd:∀ b,P1 b->¬ P2 b) :
  Calls Tryz.prog 102 #[.iface 94 (.pointer (some ⟨L1,0,none⟩)),.iface 94 (.pointer (some ⟨L2,0,none⟩))] w fun e w'=>JoinAns w P1 P2 t1 t2 (.iface 94 (.pointer (some ⟨L1,0,none⟩))) e w':=by
 obtain⟨N,hN⟩:∃ N,w.heap.size=N:=⟨_,rfl⟩
 obtain⟨pg1,hpg1⟩:∃ pg1,t1.page=pg1:=⟨_,rfl⟩
 obtain⟨pg2,hpg2⟩:∃ pg2,t2.page=pg2:=⟨_,rfl⟩
 have hb1:=h.box
 have hb2:=k.box
 rw[hpg1] at hb1
 rw[hpg2] at hb2
 have hL1:=hP1 L1 h.at'
 have hL2:=hP2 L2 k.at'
 have hne:L1≠L2:=fun e=>hd L1 h.at' (e ▸ k.at')
 have HH:Hid (GMI w P1 t1 L1 a1 n1 c1 ul1 Q1∧GMI w P2 t2 L2 a2 n2 c2 ul2 Q2):=⟨h,k⟩
 have HD:Hid ((∀ b,P1 b->b<w.heap.size)∧(∀ b,P2 b->b<w.heap.size)∧(∀ b,P1 b->¬ P2 b)∧t1.leaf=false):=⟨hP1,hP2,hd,hl1⟩
 have hsoil:=soil_any hb1
 have hm1:∀ w,(nilAhead 261 94 (.pointer (some ⟨L1,0,none⟩)) "loop.example/s02098/impl.soil").run Tryz.prog w=.ok (some false) w:=fun w=>by kernel_rfl
 have hm2:∀ w,(method 261 94 (.pointer (some ⟨L1,0,none⟩)) "loop.example/s02098/impl.soil").run Tryz.prog w=.ok (95,.pointer (some ⟨L1,0,none⟩)) w:=fun w=>by kernel_rfl
 have ta1:=ta_il
 have ta2:=ta_ii
 obtain⟨iS,hiS,hs0,hs1',hs2'⟩:=info_parts info_nodeJ
 clear hl1 hP1 hP2 hd hpg1 hpg2 h k
 go_enter Tryz.func102,Tryz.ntmps102
 go_upto_region 1 with (refine hsoil.mono ?_;rintro e W1 ⟨rfl,hW1⟩)
 have f1:=fr_setT w L1 0 (.int .i64 0)
 rw[<-hW1] at f1
 have hx1:W1.heap[L1]?=some (.cells #[.int .i64 0,.slice a1 n1 c1] 100):=by rw[hW1];simpa using heap_setT hb1 0 (.int .i64 0)
 have hx2:=(f1.block L2 hL2 (Ne.symm hne)).trans hb2
 have r1:=owns_fr HH.out.1.row f1 (fun g hg e=>(HH.out.1.blk g hg).2 e)
 have r2:=owns_fr HH.out.2.row f1 (fun g hg e=>HD.out.2.2.1 g (by rw[e];exact HH.out.1.at') (HH.out.2.blk g hg).1)
 have s1:=f1.size
 have l1:L1<W1.heap.size:=by omega
 have l2:L2<W1.heap.size:=by omega
 have src:=src_own r2 HH.out.2.one (by omega)
 have hF1:Hid (Fr (fun g=>g=L1) w W1):=f1
 try rw[<-hW1]
 clear hsoil hW1 f1
 go_upto_region 11 with fail
 have hS0:W1.drew.heap[L2]?=some (.cells #[.int .i64 pg2,.slice a2 n2 c2] 100):=hx2
 refine wp_region_noPanic ?_
 refine wp_region_held_drew (S:=(fun w':World=>w'.heap[L2]?=some (.cells #[.int .i64 pg2,.slice a2 n2 c2] 100))) (by kernel_rfl) (hS0) (fun hHeld=>?_)
 refine tY 0 (.pointer (some ⟨L1,0,none⟩)) .z (by kernel_rfl) (by rfl) ?_ ‹_› ?_
 ·intro wq hSw;go_simp
 refine tY 1 (.pointer (some ⟨L1,0,none⟩)) (.s .z) (by kernel_rfl) (by rfl) ?_ ‹_› ?_
 ·intro wq hSw;go_simp
 refine tY 2 (.pointer (some ⟨L1,0,none⟩)) (.s (.s .z)) (by kernel_rfl) (by rfl) ?_ ‹_› ?_
 ·intro wq hSw;go_simp
 refine tY 3 (.pointer (some ⟨L1,1,none⟩)) (.s (.s (.s .z))) (by kernel_rfl) (by rfl) ?_ ‹_› ?_
 ·intro wq hSw;go_simp
 try simp only[Act.put,q1,q2,q3]
 refine tY 5 (.pointer (some ⟨L2,0,none⟩)) (.f .z) (by kernel_rfl) (by rfl) ?_ ‹_› ?_
 ·intro wq hSw;go_simp
 refine tY 6 (.pointer (some ⟨L2,0,none⟩)) (.f (.s .z)) (by kernel_rfl) (by rfl) ?_ ‹_› ?_
 ·intro wq hSw;go_simp
 refine tY 7 (.pointer (some ⟨L2,1,none⟩)) (.f (.s (.s .z))) (by kernel_rfl) (by rfl) ?_ ‹_› ?_
 ·intro wq hSw;go_simp
 refine tY 8 (.slice a2 n2 c2) (.f (.s (.s (.s .z)))) (by kernel_rfl) (by rfl) ?_ ‹_› ?_
 ·intro wq hSw;(try dsimp only at hSw);obtain⟨y0,y1⟩:=box_twoG hSw;go_simp
 try simp only[Act.put,q1,q2,q3]
 obtain⟨c0,c1'⟩:=box_twoG hx1
 refine wpAnyH_ready (rs:=[4]) (by kernel_rfl) (by simp) ?_
 refine rdA (.s (.s (.s (.s .z)))) (fun K hK=>?_) AllReadyH.nil
 go_simp
 refine hK.out _ _ (hS0) (fun hHeld=>?_)
 clear hK K
 try simp only[Act.put,q1,q2,q3]
 refine wpAnyH_ready (rs:=[9]) (by kernel_rfl) (by simp) ?_
 refine rdA (.f (.s (.s (.s (.s .z))))) (fun K hK=>?_) AllReadyH.nil
 refine step_append_S rfl _ _ 98 rfl 0 54 iS _ 1 16 Tryz.underlying98 hiS hs0 hs1' hs2' rfl (by decide) (by decide) _ n1 _ rfl (owns_below r1 (Below.refl _ _).drew) (by omega) _ W1.heap.size n2 _ rfl (src.below (Below.refl _ _).drew) (Nat.zero_le _) ?_
 intro v' w3 g1 g2 g3
 obtain⟨x,y,rfl⟩:=own_shape g1
 have hdr:W1.drew.heap.size=W1.heap.size:=rfl
 have s3:=g2.size
 have hbL:∀ g,(Value.slice a1 n1 c1).ownBlock=some g->P1 g∧g≠L1:=HH.out.1.blk
 have hk1:w3.heap[L1]?=some (.cells #[.int .i64 0,.slice a1 n1 c1] 100):=(g2.block L1 (by omega) (fun e=>(hbL _ e.symm).2 rfl)).trans hx1
 have hk2:w3.heap[L2]?=some (.cells #[.int .i64 pg2,.slice a2 n2 c2] 100):=(g2.block L2 (by omega) (fun e=>HD.out.2.2.1 L2 (hbL _ e.symm).1 HH.out.2.at')).trans hS0
 have hst:=fr_setT w3 L1 1 (.slice x (n1+n2) y)
 have hbx:(w3.setCell ⟨L1,1,none⟩ (.slice x (n1+n2) y)).heap[L1]?=some (.cells #[.int .i64 0,.slice x (n1+n2) y] 100):=by simpa using heap_setT hk1 1 (.slice x (n1+n2) y)
 have hown:∀ g,(Value.slice x (n1+n2) y).ownBlock=some g->((Value.slice a1 n1 c1).ownBlock=some g∨W1.heap.size<=g)∧g≠L1:=fun g hg=>by
  rcases g3 with e | e
  ·rw[e] at hg;exact⟨.inl hg,(hbL g hg).2⟩
  ·have:=e g hg;exact⟨.inr (by omega),by omega⟩
 have hkeep:∀ b,b<w.heap.size->b≠L1->(Value.slice a1 n1 c1).ownBlock≠some b->(w3.setCell ⟨L1,1,none⟩ (.slice x (n1+n2) y)).heap[b]?=w.heap[b]?:=fun b hb h1 h2=>(hst.block b (by omega) h1).trans ((g2.block b (by omega) (fun e=>h2 e.symm)).trans (hF1.out.block b hb h1))
 have HFIN:Hid (JoinAns w P1 P2 t1 t2 (.iface 94 (.pointer (some ⟨L1,0,none⟩))) (.returned (.tuple #[])) (w3.setCell ⟨L1,1,none⟩ (.slice x (n1+n2) y))):=by
  obtain⟨hA,hB⟩:=HH.out
  obtain⟨d1,d2,d3,d4⟩:=HD.out
  have s5:(w3.setCell ⟨L1,1,none⟩ (.slice x (n1+n2) y)).heap.size=w3.heap.size:=by simp[World.setCell]
  have u1:ul1.length=n1:=by have:=hA.row.1;omega
  have q1P:∀ i b,Q1 i b->P1 b∧b≠L1∧(Value.slice a1 n1 c1).ownBlock≠some b:=hA.sub
  have q2P:∀ i b,Q2 i b->P2 b:=fun i b hb=>(hB.sub i b hb).1
  have hnot:∀ b,P2 b->b≠L1∧(Value.slice a1 n1 c1).ownBlock≠some b:=fun b hb=>⟨fun e=>d3 L1 hA.at' (e ▸ hb),fun e=>d3 b (hbL b e).1 hb⟩
  refine⟨rfl,⟨fun b=>b=L1∨(Value.slice x (n1+n2) y).ownBlock=some b∨∃ i,Q1 i b∨Q2 i b,?_,fun b hb=>?_⟩,?_⟩
  ·refine GMI.is (a:=x) (n:=n1+n2) (c:=y) (ul:=ul1++ul2) (Q:=fun i b=>(i<n1∧Q1 i b)∨(n1<=i∧Q2 (i - n1) b)) ⟨.inl rfl,hbx,owns_fr g1 hst (fun g hg e=>(hown g hg).2 e),fun g hg=>⟨.inr (.inl hg),(hown g hg).2⟩,by show n1+n2=(t1.kids++t2.kids).length;rw[List.length_append,hA.len,hB.len],?_,?_,?_⟩ d4
   ·intro i j b hi hj
    rcases hi with ⟨i1,i2⟩ | ⟨i1,i2⟩<;>rcases hj with ⟨j1,j2⟩ | ⟨j1,j2⟩
    ·exact hA.dis i j b i2 j2
    ·exact absurd (q2P _ b j2) (d3 b (q1P i b i2).1)
    ·exact absurd (q2P _ b i2) (d3 b (q1P j b j2).1)
    ·have:=hB.dis _ _ b i2 j2;omega
   ·intro i b hi
    have hP:(P1 b∨P2 b)∧b≠L1∧(Value.slice a1 n1 c1).ownBlock≠some b:=by
     rcases hi with ⟨i1,i2⟩ | ⟨i1,i2⟩
     ·exact⟨.inl (q1P i b i2).1,(q1P i b i2).2⟩
     ·exact⟨.inr (q2P _ b i2),hnot b (q2P _ b i2)⟩
    refine⟨.inr (.inr ?_),hP.2.1,fun e=>?_⟩
    ·rcases hi with ⟨i1,i2⟩ | ⟨i1,i2⟩
     ·exact⟨i,.inl i2⟩
     ·exact⟨i - n1,.inr i2⟩
    ·rcases (hown b e).1 with h9 | h9
     ·exact hP.2.2 h9
     ·rcases hP.1 with h8 | h8
      ·have:=d1 b h8;omega
      ·have:=d2 b h8;omega
   ·intro i z hz hi
    have hi':(t1.kids++t2.kids)[i]?=some z:=hi
    by_cases hlt:i<n1
    ·rw[List.getElem?_append_left (by rw[<-hA.len];exact hlt)] at hi'
     have hg:=hA.kid i z (List.mem_of_getElem? hi') hi'
     have e:(ul1++ul2).getD i .nilIface=ul1.getD i .nilIface:=by simp only[List.getD];rw[List.getElem?_append_left (by omega)]
     rw[e]
     exact GM.keep z (Q1 i) _ _ (fun b hb=>hkeep b (d1 b (q1P i b hb).1) (q1P i b hb).2.1 (q1P i b hb).2.2) (fun b hb=>.inl ⟨hlt,hb⟩) hg
    ·rw[List.getElem?_append_right (by rw[<-hA.len];omega),<-hA.len] at hi'
     have hg:=hB.kid (i - n1) z (List.mem_of_getElem? hi') hi'
     have e:(ul1++ul2).getD i .nilIface=ul2.getD (i - n1) .nilIface:=by simp only[List.getD];rw[List.getElem?_append_right (by omega),u1]
     rw[e]
     exact GM.keep z (Q2 (i - n1)) _ _ (fun b hb=>hkeep b (d2 b (q2P _ b hb)) (hnot b (q2P _ b hb)).1 (hnot b (q2P _ b hb)).2) (fun b hb=>.inr ⟨by omega,hb⟩) hg
  ·rw[s5]
   rcases hb with rfl | hb | ⟨i,hb | hb⟩
   ·exact⟨.inl hA.at',by omega⟩
   ·exact⟨(hown b hb).1.elim (fun h=>.inl (hbL b h).1) (fun h=>.inr (.inr (by omega))),(g1.lt b hb).2⟩
   ·exact⟨.inl (q1P i b hb).1,by have:=d1 b (q1P i b hb).1;omega⟩
   ·exact⟨.inr (.inl (q2P i b hb)),by have:=d2 b (q2P i b hb);omega⟩
  ·refine fr_tight ?_
   have q1:Fr (fun b=>P1 b∨w.heap.size<=b) w W1:=hF1.out.weak (fun g e=>.inl (by rw[e];exact hA.at'))
   have q2:Fr (fun b=>P1 b∨w.heap.size<=b) W1 w3:=⟨g2.os,g2.tape,g2.output,s3,fun g hg hn=>g2.block g hg (fun e=>hn (.inl (hbL g e.symm).1))⟩
   exact (q1.trans q2).trans (hst.weak (fun g e=>.inl (by rw[e];exact hA.at')))
 refine hK.out _ _ (hk2) (fun hHeld=>?_)
 clear hK K
 try simp only[Act.put,q1,q2,q3]
 refine tkB (i:=10) (v:=.pointer (some ⟨L1,0,none⟩)) (.t .z) (by kernel_rfl) (fun _ _ _ h=>h) (Or.inl ⟨by rfl,?_⟩) hk2 ?_
 ·intro wq hSw;go_simp
 try simp only[Act.put,q1,q2,q3]
 refine tkB (i:=11) (v:=.pointer (some ⟨L1,1,none⟩)) (.t (.s .z)) (by kernel_rfl) (fun _ _ _ h=>h) (Or.inl ⟨by rfl,?_⟩) hk2 ?_
 ·intro wq hSw;go_simp
 try simp only[Act.put,q1,q2,q3]
 obtain⟨d0,d1⟩:=box_twoG hk1
 have ff:=thawT hk1
 have l3:L1<w3.heap.size:=(Array.getElem?_eq_some_iff.1 hk1).1
 have hk2':(w3.setCell ⟨L1,1,none⟩ (.slice x (n1+n2) y)).heap[L2]?=_:=(hst.block L2 (by omega) (Ne.symm hne)).trans hk2
 refine wpAnyH_ready (rs:=[12]) (by kernel_rfl) (by simp) ?_
 refine rdA (.t (.s (.s .z))) (fun K hK=>?_) AllReadyH.nil
 go_simp
 clear d0 d1 ff
 refine hK.out _ _ (hk2') (fun hHeld=>?_)
 clear hK K
 try simp only[Act.put,q1,q2,q3]
 refine wpAnyH_done (by kernel_rfl) ?_ _
 refine NoPanic.normal ?_
 clear hHeld
 go_wp2_with fail
 go_end0
 exact HFIN.out
end Go.Proofs.YtbfggcekifaldaaGreat
