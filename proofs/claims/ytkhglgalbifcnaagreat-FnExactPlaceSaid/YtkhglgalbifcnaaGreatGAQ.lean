import Derived.Test.YtkhglgalbifcnaaGreatGAA
import Derived.Test.YtkhglgalbifcnaaGreatGAP
import Derived.Test.YtkhglgalbifcnaaGreatGAM
import Derived.Test.YtkhglgalbifcnaaGreatTlp
namespace Go.Proofs.YtkhglgalbifcnaaGreat
set_option maxHeartbeats 4000000
open Go.RowKit
set_option linter.unusedVariables false
set_option linter.unusedSimpArgs false
set_option maxRecDepth 100000
theorem Off.lower {w:World} {lo lo' g:Nat} {R:World->Nat->Nat->Prop} (h:Off w lo g R) (hl:lo'<=lo):Off w lo' g R:=by
 obtain⟨A,h1,h2⟩:=h
 exact⟨A,by omega,h2⟩
theorem FlatAt.lower {w:World} {lo lo' g c:Nat} {css:Nat->List Value} {ts:List TN} (h:FlatAt w lo g c css ts) (hl:lo'<=lo):FlatAt w lo' g c css ts :=
 ⟨owns_base h.row hl,fun i t hi=>⟨(h.node i t hi).1,by
  obtain⟨ka,kn,kc,va,vn,vc,oa,on,oc,ya,yn,yc,e,h0,h1,h2,h3,h4⟩:=(h.node i t hi).2
  exact⟨ka,kn,kc,va,vn,vc,oa,on,oc,ya,yn,yc,e,h0,h1.lower hl,h2.lower hl,h3.lower hl,h4.lower hl⟩⟩⟩
theorem flat_le (t:T):∀ s,(t.flat s).length<=t.nodes:=by
 induction t using T.ind with
 | h t ih =>
  intro s
  rw[T.flat_eq,T.nodes_eq]
  split
  ·simp
  ·have:∀ (ys:List T) (s:Nat),(∀ y ∈ ys,∀ s,(y.flat s).length<=y.nodes)->(offs s (ys.map T.flat)).length<=(ys.map T.nodes).sum:=by
    intro ys
    induction ys with
    | nil=>intro s h;simp[offs]
    | cons y r ihr =>
     intro s h
     simp only[List.map_cons,offs,List.length_append,List.sum_cons]
     have h1:=h y (List.mem_cons_self ..) s
     have h2:=ihr (s+(y.flat s).length) (fun y hy=>h y (List.mem_cons_of_mem _ hy))
     omega
   have h:=this t.kids (s+1) ih
   rw[List.length_cons]
   omega
theorem l3Tree_any (C:Nat) (t:T) (hg:∃ r,t.good r=true) (hn:t.nodes<=100000) (hk:t.slots.all (fun s=>kyB s.1)=true):CallAt 22 C t [] (fun w e w'=>∃ g c css,e=.returned (.agg #[.slice (some ⟨g,0,none⟩) (t.flat 0).length c])∧FlatAt w' w.heap.size g c css (t.flat 0)∧Below w.heap.size w w'):=by
 intro w ka kn kc va vn vc oa on oc ya yc css hC hX
 have hcall:=l3Flat_any C t hg hn hk
 have hfl:=flat_le t 0
 obtain⟨N,hN⟩:∃ N,w.heap.size=N:=⟨_,rfl⟩
 have HX:Hid (NodeX w 0 C (fun b=>b<C) t ka kn kc va vn vc oa on oc ya yc css):=hX
 have HC:Hid (FlatCall C t):=hcall
 obtain⟨F,hF⟩:∃ F,t.flat 0=F:=⟨_,rfl⟩
 have HFF:Hid (t.flat 0=F):=hF
 rw[hF] at hfl ⊢
 clear hX hcall hF hg hk
 obtain⟨m,hm⟩:∃ m,F.length=m:=⟨_,rfl⟩
 have HM:Hid (F.length=m):=hm
 rw[hm] at hfl ⊢
 clear hm
 have a3:=alloc3 w (.cells #[.bool t.leaf,.int .i64 t.page,.slice ka kn kc,.slice va vn vc,.slice oa on oc,.slice ya t.kids.length yc] 49) (.cells #[.slice none 0 0] 29) (.cells #[] 103)
 have b3:Below w.heap.size w (((w.alloc (.cells #[.bool t.leaf,.int .i64 t.page,.slice ka kn kc,.slice va vn vc,.slice oa on oc,.slice ya t.kids.length yc] 49)).alloc (.cells #[.slice none 0 0] 29)).alloc (.cells #[] 103)):=(((Below.refl _ _).alloc (Nat.le_refl _) _).alloc (by simp) _).alloc (by simp;omega) _
 have e3:=owns_empty ((w.alloc (.cells #[.bool t.leaf,.int .i64 t.page,.slice ka kn kc,.slice va vn vc,.slice oa on oc,.slice ya t.kids.length yc] 49)).alloc (.cells #[.slice none 0 0] 29)) 103 6
 have z2:((w.alloc (.cells #[.bool t.leaf,.int .i64 t.page,.slice ka kn kc,.slice va vn vc,.slice oa on oc,.slice ya t.kids.length yc] 49)).alloc (.cells #[.slice none 0 0] 29)).heap.size=N+1+1:=by simp[hN]
 have z3:(((w.alloc (.cells #[.bool t.leaf,.int .i64 t.page,.slice ka kn kc,.slice va vn vc,.slice oa on oc,.slice ya t.kids.length yc] 49)).alloc (.cells #[.slice none 0 0] 29)).alloc (.cells #[] 103)).heap.size=N+3:=by simp[hN]
 rw[hN] at a3
 rw[z2] at e3
 have HW:Hid (∀ W3,Below w.heap.size w W3->W3.ownsRow (N+1+1) 103 6 (.slice (some ⟨N+1+1,0,none⟩) 0 0) 0 []->Calls Tryz.prog 47 #[.slice (some ⟨N+1+1,0,none⟩) 0 0,.agg #[.bool t.leaf,.int .i64 t.page,.slice ka kn kc,.slice va vn vc,.slice oa on oc,.slice ya t.kids.length yc]] W3 fun e w'=>∃ g' c' css',e=.returned (.slice (some ⟨g',0,none⟩) m c')∧FlatAt w' (N+1+1) g' c' css' F∧Fr (fun k=>k=N+1+1) W3 w'∧(g'=N+1+1∨W3.heap.size<=g')):=by
  intro W3 hb he
  have h:=HC.out W3 (N+1+1) (N+1+1) 0 (fun _=>[]) [] ka kn kc va vn vc oa on oc ya yc css (by omega) ⟨he,fun i t hi=>by simp at hi⟩ (HX.out.belowC (hb.mono hC)) (by simp only[List.length_nil];have:=HFF.out;rw[this,HM.out];omega)
  simp only[List.length_nil,List.nil_append,HFF.out,HM.out,Nat.zero_add] at h
  exact h
 clear HC HX HFF HM
 generalize t.leaf=lf at *
 generalize t.page=pg at *
 generalize t.kids.length=yn at *
 go_enter Tryz.func22,Tryz.ntmps22
 obtain⟨n0,n1,n2,n3,n4,n5⟩:=box6 a3.1
 have l0:N<(((w.alloc (.cells #[.bool lf,.int .i64 pg,.slice ka kn kc,.slice va vn vc,.slice oa on oc,.slice ya yn yc] 49)).alloc (.cells #[.slice none 0 0] 29)).alloc (.cells #[] 103)).heap.size:=by omega
 go_upto_region 1 with fail
 go_wp2_with fail
 generalize (((w.alloc (.cells #[.bool lf,.int .i64 pg,.slice ka kn kc,.slice va vn vc,.slice oa on oc,.slice ya yn yc] 49)).alloc (.cells #[.slice none 0 0] 29)).alloc (.cells #[] 103))=W3 at *
 refine (HW.out W3 b3 e3).mono ?_
 rintro e w4 ⟨g',c',css',rfl,F4,fr4,hg4⟩
 have R4:=(fr4.block (N+1) (by omega) (by omega)).trans a3.2.1
 have x0:w4.cell? ⟨N+1,0,none⟩=some (.slice none 0 0):=by
  simp[World.cell?,R4]
 have ff:=thawT R4
 have l4:N+1<w4.heap.size:=(Array.getElem?_eq_some_iff.1 R4).1
 have F5:=F4.fr (fr_setT w4 (N+1) 0 (.slice (some ⟨g',0,none⟩) m c')) (fun k h1 h2=>by omega)
 have R5:=heap_setT R4 0 (.slice (some ⟨g',0,none⟩) m c')
 have hset:=fr_setT w4 (N+1) 0 (.slice (some ⟨g',0,none⟩) m c')
 have hbel:Below w.heap.size w (w4.setCell ⟨N+1,0,none⟩ (.slice (some ⟨g',0,none⟩) m c')):=(b3.trans (fr4.below (by omega) (fun g e=>by omega))).trans (hset.below (by have:=fr4.size;omega) (fun g e=>by omega))
 clear n0 n1 n2 n3 n4 n5 l0 F4 HW
 go_wp2_with fail
 generalize w4.setCell ⟨N+1,0,none⟩ (.slice (some ⟨g',0,none⟩) m c')=W5 at *
 have x5:W5.cell? ⟨N+1,0,none⟩=some (.slice (some ⟨g',0,none⟩) m c'):=by
  simp[World.cell?,R5]
 refine bodyPost_ret (v:=.agg #[.slice (some ⟨g',0,none⟩) m c']) (by simp[results,Tryz.results22,go_sem,x5]) rfl ?_
 exact⟨g',c',css',rfl,by rw[hN];exact F5.lower (by omega),hbel⟩
theorem l3Same_any (a:Option Addr) (n c:Nat) (a2:Option Addr) (n2 c2:Nat) (xs ys:List TN) (w:World) (A B A2 B2:Nat) (hB:B<=w.heap.size) (hB2:B2<=w.heap.size) (h:NodesAt w A B a n c xs) (h2:NodesAt w A2 B2 a2 n2 c2 ys) (hov:∀ x ∈ xs,x.over.length=x.vals.length) :
  Calls Tryz.prog 41 #[.agg #[.slice a n c],.agg #[.slice a2 n2 c2]] w fun e w'=>∃ r,e=.returned (.bool r)∧(r=true ↔ xs=ys)∧Below w.heap.size w w':=by
 have hb0:Below w.heap.size w ((w.alloc (.cells #[.slice a n c] 29)).alloc (.cells #[.slice a2 n2 c2] 29)):=((Below.refl _ _).alloc (Nat.le_refl _) _).alloc (by simp) _
 obtain⟨N,hN⟩:∃ N,w.heap.size=N:=⟨_,rfl⟩
 have z1:(w.alloc (.cells #[.slice a n c] 29)).heap.size=N+1:=by simp[hN]
 have k1:=heap_alloc_new (w.alloc (.cells #[.slice a n c] 29)) (.cells #[.slice a2 n2 c2] 29)
 have k0:=(((Below.refl _ _).alloc (Nat.le_refl (w.alloc (.cells #[.slice a n c] 29)).heap.size) (.cells #[.slice a2 n2 c2] 29)).block N (by omega)).trans (hN ▸ heap_alloc_new w (.cells #[.slice a n c] 29))
 have z2:((w.alloc (.cells #[.slice a n c] 29)).alloc (.cells #[.slice a2 n2 c2] 29)).heap.size=N+2:=by simp[hN]
 rw[z1] at k1
 have HL:Hid (xs.length=n∧ys.length=n2):=⟨h.1,h2.1⟩
 have hc:=Nat.le_trans h.2.1 h.2.2.1
 unfold maxLen at hc
 have H1:Hid (NodesAt w A B a n c xs):=h
 have H2:Hid (NodesAt w A2 B2 a2 n2 c2 ys):=h2
 have HOV:Hid (∀ x ∈ xs,x.over.length=x.vals.length):=hov
 clear h h2 hov
 go_enter Tryz.func41,Tryz.ntmps41
 go_upto_region 1 with fail
 generalize ((w.alloc (.cells #[.slice a n c] 29)).alloc (.cells #[.slice a2 n2 c2] 29))=W at hb0 k1 k0 z2 ⊢
 have x0:W.cell? ⟨N,0,none⟩=some (.slice a n c):=by simp[World.cell?,k0]
 have y0:W.cell? ⟨N+1,0,none⟩=some (.slice a2 n2 c2):=by simp[World.cell?,k1]
 have l0:N<W.heap.size:=by omega
 have l1:N+1<W.heap.size:=by omega
 by_cases hnn:n=n2
 ·subst hnn
  have hne:((n:Int) != (n:Int))=false:=by simp
  go_wp2_with fail
  clear x0 y0
  go_loopw [5] (fun i wr=>∃ k:Nat,k<=n∧i=.int .i64 k∧Hid (sameTo xs ys dT k)∧Below W.heap.size W wr) (fun i _=>n - (intOf i).toNat)
  case atStart=>exact⟨0,Nat.zero_le _,rfl,fun i hi=>by omega,Below.refl _ _⟩
  case round =>
   obtain⟨j,hj,rfl,HS,hbel⟩:=hrel
   have x0:wr.cell? ⟨N,0,none⟩=some (.slice a n c):=by simp[World.cell?,hbel.block N l0,k0]
   have y0:wr.cell? ⟨N+1,0,none⟩=some (.slice a2 n c2):=by simp[World.cell?,hbel.block (N+1) l1,k1]
   have hbw:=hb0.trans (hbel.mono (by omega))
   have hs:=hbel.size
   have l0:N<wr.heap.size:=by omega
   have l1:N+1<wr.heap.size:=by omega
   by_cases hlt:j<n
   ·obtain⟨b,off,rfl,hb,ka,kn,kc,va,vn,vc,oa,on,oc,ya,yn,yc,hN1⟩:=NodesAt.at (H1.out.below (hbw.mono hB)) hlt
    obtain⟨b2,off2,rfl,hb2,ka2,kn2,kc2,va2,vn2,vc2,oa2,on2,oc2,ya2,yn2,yc2,hN2⟩:=NodesAt.at (H2.out.below (hbw.mono hB2)) hlt
    have hov1:=HOV.out (xs.getD j dT) (by have:=HL.out.1;simp[List.getD,show j<xs.length by omega])
    have HG:Hid (∀ r:Bool,(r=true ↔ xs.getD j dT=ys.getD j dT)->(r=true->sameTo xs ys dT (j+1))∧(r=false->¬ xs=ys)):=by
     intro r hr
     refine⟨fun e=>HS.out.succ (hr.1 e),fun e=>?_⟩
     intro he
     rw[he] at hr
     have:=hr.2 rfl
     rw[e] at this
     cases this
    generalize xs.getD j dT=tx at *
    generalize ys.getD j dT=ty at *
    obtain⟨c0,c1,c2,c3,c4,c5,hpg,hK,hV,hO,hY⟩:=hN1
    obtain⟨d0,d1,d2,d3,d4,d5,hpg2,hK2,hV2,hO2,hY2⟩:=hN2
    have hcall:∀ W':World,W'.heap=wr.heap->_:=fun W' e=>l3SameNode_any tx ty hov1 ka kn kc va vn vc oa on oc ya yn yc ka2 kn2 kc2 va2 vn2 vc2 oa2 on2 oc2 ya2 yn2 yc2 W' A B A2 B2 (by rw[e];omega) (by rw[e];omega)
    have hsd:wr.drew.heap.size=wr.heap.size:=rfl
    have hBw:B<=wr.drew.heap.size:=by rw[hsd];omega
    have hBw2:B2<=wr.drew.heap.size:=by rw[hsd];omega
    clear hcall
    go_upto_region 6 with fail
    go_region_with (go_at_call 70;refine (l3SameNode_any tx ty hov1 ka kn kc va vn vc oa on oc ya yn yc ka2 kn2 kc2 va2 vn2 vc2 oa2 on2 oc2 ya2 yn2 yc2 _ A B A2 B2 ?_ ?_ ?_ ?_ ?_ ?_ ?_ ?_ ?_ ?_).mono ?_;exact hBw;exact hBw2;exact hK;exact hV;exact hO;exact hY;exact hK2;exact hV2;exact hO2;exact hY2;rintro e w1 ⟨r,rfl,hr,hb1⟩)
    all_goals
     obtain⟨hy,hn⟩:=HG.out r hr
     have hbel2:Below W.heap.size W w1:=(hbel.drew).trans (hb1.mono hs)
     clear c0 c1 c2 c3 c4 c5 d0 d1 d2 d3 d4 d5 hK hV hO hY hK2 hV2 hO2 hY2 hr hb1
     cases r
     ·have HNE:Hid (¬ xs=ys):=hn rfl
      clear hy hn
      go_wp2_with fail
      go_ret
      exact⟨false,rfl,by simp[HNE.out],hb0.trans (hbel2.mono (by omega))⟩
     ·have HS2:Hid (sameTo xs ys dT (j+1)):=hy rfl
      clear hy hn
      go_wp2_with fail
      go_roundw
      case rel=>exact⟨j+1,by omega,by go_num,HS2,hbel2⟩
      case measure=>simp[intOf];omega
   ·have HE:Hid (xs=ys):=by
     obtain rfl:j=n:=by omega
     exact HS.out.eq HL.out.1 HL.out.2
    go_wp2_with fail
    go_ret
    exact⟨true,rfl,by simp[HE.out],hbw⟩
 ·have hne:((n:Int) != (n2:Int))=true:=by simp;omega
  have HNE:Hid (¬ xs=ys):=by
   intro e
   have:=HL.out
   rw[e] at this
   omega
  clear hnn
  go_wp2_with fail
  go_ret
  exact⟨false,rfl,by simp[HNE.out],hb0⟩
theorem l3Deep_any (ts:List TN) (hm:ts.length<=1000) (a:Option Addr) (n c A B:Nat) (w:World) (hB:B<=w.heap.size) (hT:NodesAt w A B a n c ts) :
  Calls Tryz.prog 19 #[.agg #[.slice a n c]] w fun e w'=>∃ ka kn kc va vn vc oa on oc ya yc css,e=.returned (.tuple #[.agg #[.bool (rd ts (ts.length+1) 0).1.leaf,.int .i64 (rd ts (ts.length+1) 0).1.page,.slice ka kn kc,.slice va vn vc,.slice oa on oc,.slice ya (rd ts (ts.length+1) 0).1.kids.length yc],.bool (!(rd ts (ts.length+1) 0).2.2 && decide ((rd ts (ts.length+1) 0).2.1=n))])∧NodeX w' A B (fun b=>w.heap.size<=b∧b<w'.heap.size) (rd ts (ts.length+1) 0).1 ka kn kc va vn vc oa on oc ya yc css∧Below w.heap.size w w':=by
 obtain⟨N,hN⟩:∃ N,w.heap.size=N:=⟨_,rfl⟩
 have a3:=alloc3 w (.cells #[.slice a n c] 29) (.cells #[.bool false,.int .i64 0,.slice none 0 0,.slice none 0 0,.slice none 0 0,.slice none 0 0] 49) (.cells #[.slice a n c,.int .i64 0,.bool false] 86)
 have b3:Below w.heap.size w (((w.alloc (.cells #[.slice a n c] 29)).alloc (.cells #[.bool false,.int .i64 0,.slice none 0 0,.slice none 0 0,.slice none 0 0,.slice none 0 0] 49)).alloc (.cells #[.slice a n c,.int .i64 0,.bool false] 86)):=(((Below.refl _ _).alloc (Nat.le_refl _) _).alloc (by simp) _).alloc (by simp;omega) _
 have z3:(((w.alloc (.cells #[.slice a n c] 29)).alloc (.cells #[.bool false,.int .i64 0,.slice none 0 0,.slice none 0 0,.slice none 0 0,.slice none 0 0] 49)).alloc (.cells #[.slice a n c,.int .i64 0,.bool false] 86)).heap.size=N+3:=by simp[hN]
 rw[hN] at a3
 have hl:=hT.1
 have HL:Hid (ts.length=n):=hl
 have hn1:n<=1000:=by omega
 clear hl
 go_enter Tryz.func19,Tryz.ntmps19
 go_wp2_with fail
 generalize (((w.alloc (.cells #[.slice a n c] 29)).alloc (.cells #[.bool false,.int .i64 0,.slice none 0 0,.slice none 0 0,.slice none 0 0,.slice none 0 0] 49)).alloc (.cells #[.slice a n c,.int .i64 0,.bool false] 86))=W0 at a3 b3 z3 ⊢
 have hread:=l3Read_any ts hm a n c A B (N+1+1) (ts.length+1) 0 W0 (Nat.zero_le _) (by omega) (by omega) (hT.below (b3.mono hB)) (by omega) (by simpa using a3.2.2)
 refine hread.mono ?_
 rintro e w1 hRA
 obtain⟨ka,kn,kc,va,vn,vc,oa,on,oc,ya,yc,css,rfl,hX⟩:=hRA.ex
 have W1:=hRA.wk
 have F1:=hRA.fr
 have s1:=F1.size
 have T1:=(F1.block N (by omega) (by omega)).trans a3.1
 have R1:=(F1.block (N+1) (by omega) (by omega)).trans a3.2.1
 have HX:Hid (NodeX w1 A B (fun b=>W0.heap.size<=b∧b<w1.heap.size) (rd ts (ts.length+1) 0).1 ka kn kc va vn vc oa on oc ya yc css):=hX
 obtain⟨t,ht⟩:∃ t,t=(rd ts (ts.length+1) 0).1:=⟨_,rfl⟩
 obtain⟨nj,hnj⟩:∃ x,x=(rd ts (ts.length+1) 0).2.1:=⟨_,rfl⟩
 obtain⟨bd,hbd⟩:∃ x,x=(rd ts (ts.length+1) 0).2.2:=⟨_,rfl⟩
 have HR:Hid (t=(rd ts (ts.length+1) 0).1∧nj=(rd ts (ts.length+1) 0).2.1∧bd=(rd ts (ts.length+1) 0).2.2):=⟨ht,hnj,hbd⟩
 rw[<-ht]
 rw[<-ht] at HX
 rw[<-hnj,<-hbd] at W1
 clear hX hRA hread ht hnj hbd hT
 generalize hlf:t.leaf=lf
 generalize hpg:t.page=pg
 generalize hyn:t.kids.length=yn
 have HQ:Hid (t.leaf=lf∧t.page=pg∧t.kids.length=yn):=⟨hlf,hpg,hyn⟩
 clear hlf hpg hyn
 have hal:=(Below.refl w1.heap.size w1).alloc (Nat.le_refl _) (.cells #[.bool lf,.int .i64 pg,.slice ka kn kc,.slice va vn vc,.slice oa on oc,.slice ya yn yc] 49)
 have N2:=heap_alloc_new w1 (.cells #[.bool lf,.int .i64 pg,.slice ka kn kc,.slice va vn vc,.slice oa on oc,.slice ya yn yc] 49)
 have s2:(w1.alloc (.cells #[.bool lf,.int .i64 pg,.slice ka kn kc,.slice va vn vc,.slice oa on oc,.slice ya yn yc] 49)).heap.size=w1.heap.size+1:=by simp
 have T2:=(hal.block N (by omega)).trans T1
 have R2:=(hal.block (N+1) (by omega)).trans R1
 have W2:=(hal.block (N+1+1) (by omega)).trans W1
 go_upto_region 3 with fail
 generalize w1.alloc (.cells #[.bool lf,.int .i64 pg,.slice ka kn kc,.slice va vn vc,.slice oa on oc,.slice ya yn yc] 49)=W2' at hal N2 s2 T2 R2 W2 ⊢
 obtain⟨M,hM⟩:∃ M,w1.heap.size=M:=⟨_,rfl⟩
 rw[hM] at N2 s2
 obtain⟨n0,n1,n2,n3,n4,n5⟩:=box6 N2
 obtain⟨r0,r1,r2,r3,r4,r5⟩:=box6 R2
 obtain⟨x0,x1,x2⟩:=box3w W2
 have t0:W2'.cell? ⟨N,0,none⟩=some (.slice a n c):=by simp[World.cell?,T2]
 have fr:=thawT R2
 have l0:N<W2'.heap.size:=by omega
 have l1:N+1<W2'.heap.size:=by omega
 have l2:N+1+1<W2'.heap.size:=by omega
 have l3:M<W2'.heap.size:=by omega
 rw[hM]
 have hMN:M≠N+1:=by omega
 have hMN2:N+1≠M:=by omega
 have hput:=put6T_fr W2'.drew (N+1) (.bool lf) (.int .i64 pg) (.slice ka kn kc) (.slice va vn vc) (.slice oa on oc) (.slice ya yn yc)
 have hput2:=put6T_fr W2' (N+1) (.bool lf) (.int .i64 pg) (.slice ka kn kc) (.slice va vn vc) (.slice oa on oc) (.slice ya yn yc)
 have HBX:Hid _:=put6T_box (w:=W2'.drew) R2 (.bool lf) (.int .i64 pg) (.slice ka kn kc) (.slice va vn vc) (.slice oa on oc) (.slice ya yn yc)
 have HBY:Hid _:=put6T_box R2 (.bool lf) (.int .i64 pg) (.slice ka kn kc) (.slice va vn vc) (.slice oa on oc) (.slice ya yn yc)
 have HEND:Hid (∀ X,Fr (fun k=>k=N+1) W2' X->∀ ans,ans=(!bd && decide (nj=n))->∃ ka' kn' kc' va' vn' vc' oa' on' oc' ya' yc' css',Ending.returned (.tuple #[.agg #[.bool lf,.int .i64 pg,.slice ka kn kc,.slice va vn vc,.slice oa on oc,.slice ya yn yc],.bool ans])=.returned (.tuple #[.agg #[.bool (rd ts (ts.length+1) 0).1.leaf,.int .i64 (rd ts (ts.length+1) 0).1.page,.slice ka' kn' kc',.slice va' vn' vc',.slice oa' on' oc',.slice ya' (rd ts (ts.length+1) 0).1.kids.length yc'],.bool (!(rd ts (ts.length+1) 0).2.2 && decide ((rd ts (ts.length+1) 0).2.1=n))])∧NodeX X A B (fun b=>w.heap.size<=b∧b<X.heap.size) (rd ts (ts.length+1) 0).1 ka' kn' kc' va' vn' vc' oa' on' oc' ya' yc' css'∧Below w.heap.size w X):=by
  intro X hX ans hans
  obtain⟨q1,q2,q3⟩:=HR.out
  obtain⟨g1,g2,g3⟩:=HQ.out
  refine⟨ka,kn,kc,va,vn,vc,oa,on,oc,ya,yc,css,?_,?_,?_⟩
  ·rw[<-q1,<-q2,<-q3,g1,g2,g3,hans]
  ·rw[<-q1]
   have hkk:∀ k,k<w1.heap.size->k≠N+1->X.heap[k]?=w1.heap[k]?:=fun k hk1 hk2=>(hX.block k (by omega) hk2).trans (hal.block k hk1)
   have hss:=hX.size
   exact HX.out.weaken (fun k h1 h2=>hkk k (by omega) (by omega)) (fun b hb=>hkk b hb.2 (by omega)) (fun b hb=>⟨by omega,by omega⟩)
  ·have hb1:Below w.heap.size w w1:=b3.trans (F1.below (by omega) (fun g e=>by omega))
   have hb2:=hb1.trans (hal.mono (by omega))
   exact hb2.trans (hX.below (by omega) (fun g e=>by omega))
 have HF1:Hid _:=hput
 have HF2:Hid _:=hput2
 cases bd
 ·go_region_held3 (fun w'=>w'.cell? ⟨N+1+1,2,none⟩=some (.bool false)∧w'.cell? ⟨N+1+1,1,none⟩=some (.int .i64 nj)∧w'.cell? ⟨N,0,none⟩=some (.slice a n c)∧w'.cell? ⟨M,0,none⟩=some (.bool lf)∧w'.cell? ⟨M,1,none⟩=some (.int .i64 pg)∧w'.cell? ⟨M,2,none⟩=some (.slice ka kn kc)∧w'.cell? ⟨M,3,none⟩=some (.slice va vn vc)∧w'.cell? ⟨M,4,none⟩=some (.slice oa on oc)∧w'.cell? ⟨M,5,none⟩=some (.slice ya yn yc)) (go_keep) (fail)
  clear hput hput2
  go_wp2_with fail
  show bodyPost _ _ _ _ _ (put6T W2' (N+1) (.bool lf) (.int .i64 pg) (.slice ka kn kc) (.slice va vn vc) (.slice oa on oc) (.slice ya yn yc)).drew
  generalize put6T W2' (N+1) (.bool lf) (.int .i64 pg) (.slice ka kn kc) (.slice va vn vc) (.slice oa on oc) (.slice ya yn yc)=Y at HBY HF2 ⊢
  obtain⟨p0,p1,p2,p3,p4,p5⟩:=box6 (w:=Y.drew) HBY.out
  refine bodyPost_ret (v:=.tuple #[.agg #[.bool lf,.int .i64 pg,.slice ka kn kc,.slice va vn vc,.slice oa on oc,.slice ya yn yc],.bool ((nj:Int) == (n:Int))]) (by simp[results,Tryz.results19,go_sem,p0,p1,p2,p3,p4,p5]) rfl ?_
  exact HEND.out Y.drew ⟨HF2.out.os,HF2.out.tape,HF2.out.output,HF2.out.size,HF2.out.block⟩ ((nj:Int) == (n:Int)) (by have:=HR.out;have:=HL.out;simp;by_cases h:nj=n<;>simp[h];omega)
 ·clear n0 n1 n2 n3 n4 n5 r0 r1 r2 r3 r4 r5 x0 x1 x2 t0
  obtain⟨r0,r1,r2,r3,r4,r5⟩:=box6 R2
  refine wp_region_noPanic ?_
  refine wp_region_held_drew (S:=(fun w'=>w'.heap[M]?=some (.cells #[.bool lf,.int .i64 pg,.slice ka kn kc,.slice va vn vc,.slice oa on oc,.slice ya yn yc] 49)∧w'.heap[N+1+1]?=some (.cells #[.slice a n c,.int .i64 nj,.bool true] 86))) (by kernel_rfl) ⟨N2,W2⟩ (fun hHeld=>?_)
  refine tY 0 (.agg #[.bool lf,.int .i64 pg,.slice ka kn kc,.slice va vn vc,.slice oa on oc,.slice ya yn yc]) .z (by kernel_rfl) (by rfl) ?_ ‹_› ?_
  ·intro wq hSw;(try dsimp only at hSw);obtain⟨q0,q1,q2,q3,q4,q5⟩:=box6 hSw.1;go_simp
  refine tY 1 (.pointer (some ⟨N+1+1,0,none⟩)) (.s .z) (by kernel_rfl) (by rfl) ?_ ‹_› ?_
  ·intro wq hSw;go_simp
  refine tY 2 (.pointer (some ⟨N+1+1,0,none⟩)) (.s (.s .z)) (by kernel_rfl) (by rfl) ?_ ‹_› ?_
  ·intro wq hSw;go_simp
  refine tY 3 (.pointer (some ⟨N+1+1,2,none⟩)) (.s (.s (.s .z))) (by kernel_rfl) (by rfl) ?_ ‹_› ?_
  ·intro wq hSw;go_simp
  try simp only[Act.put,q1,q2,q3]
  refine tY 4 (.bool true) (.s (.s (.s (.s .z)))) (by kernel_rfl) (by rfl) ?_ ‹_› ?_
  ·intro wq hSw;(try dsimp only at hSw);obtain⟨q0,q1,q2⟩:=box3w hSw.2;go_simp
  refine tY 5 (.bool false) (.f .z) (by kernel_rfl) (by rfl) ?_ ‹_› ?_
  ·intro wq hSw;go_simp
  refine tY 6 (.bool false) (.f (.s .z)) (by kernel_rfl) (by rfl) ?_ ‹_› ?_
  ·intro wq hSw;go_simp
  refine tS 7 (.f (.s (.s .z))) (by kernel_rfl) (by rfl) ‹_› ?_
  try simp only[Act.put,q1,q2,q3]
  refine tS 8 (.f (.s (.s (.s .z)))) (by kernel_rfl) (by rfl) ‹_› ?_
  refine tS 9 (.f (.s (.s (.s (.s .z))))) (by kernel_rfl) (by rfl) ‹_› ?_
  refine tS 10 (.t .z) (by kernel_rfl) (by rfl) ‹_› ?_
  refine tS 11 (.t (.s .z)) (by kernel_rfl) (by rfl) ‹_› ?_
  try simp only[Act.put,q1,q2,q3]
  refine tS 12 (.t (.s (.s .z))) (by kernel_rfl) (by rfl) ‹_› ?_
  refine tS 13 (.t (.s (.s (.s .z)))) (by kernel_rfl) (by rfl) ‹_› ?_
  refine tS 14 (.t (.s (.s (.s (.s .z))))) (by kernel_rfl) (by rfl) ‹_› ?_
  refine tY 15 (.bool false) (.t (.f .z)) (by kernel_rfl) (by rfl) ?_ ‹_› ?_
  ·intro wq hSw;go_simp
  try simp only[Act.put,q1,q2,q3]
  refine wpAnyH_ready (rs:=[16]) (by kernel_rfl) (by simp) ?_
  refine rdA (.t (.f (.s .z))) (fun K hK=>?_) AllReadyH.nil
  go_simp
  go_wp2_with fail
  show K _ (put6T W2' (N+1) (.bool lf) (.int .i64 pg) (.slice ka kn kc) (.slice va vn vc) (.slice oa on oc) (.slice ya yn yc)).drew
  clear hput hput2 HBX HF1
  generalize put6T W2' (N+1) (.bool lf) (.int .i64 pg) (.slice ka kn kc) (.slice va vn vc) (.slice oa on oc) (.slice ya yn yc)=Y at HBY HF2 ⊢
  refine hK.out _ _ ⟨(HF2.out.block M l3 hMN).trans N2,(HF2.out.block (N+1+1) l2 (by omega)).trans W2⟩ (fun hHeld=>?_)
  clear hK K
  refine tY 17 (.bool false) (.t (.f (.s (.s .z)))) (by kernel_rfl) (by rfl) ?_ ‹_› ?_
  ·intro wq hSw;go_simp
  try simp only[Act.put,q1,q2,q3]
  refine wpAnyH_done (by kernel_rfl) ?_ _
  refine NoPanic.normal ?_
  go_wp2_with fail
  obtain⟨p0,p1,p2,p3,p4,p5⟩:=box6 (w:=Y.drew) HBY.out
  refine bodyPost_ret (v:=.tuple #[.agg #[.bool lf,.int .i64 pg,.slice ka kn kc,.slice va vn vc,.slice oa on oc,.slice ya yn yc],.bool false]) (by simp[results,Tryz.results19,go_sem,p0,p1,p2,p3,p4,p5]) rfl ?_
  exact HEND.out Y.drew ⟨HF2.out.os,HF2.out.tape,HF2.out.output,HF2.out.size,HF2.out.block⟩ false (by have:=HR.out;have:=HL.out;rfl)
end Go.Proofs.YtkhglgalbifcnaaGreat
