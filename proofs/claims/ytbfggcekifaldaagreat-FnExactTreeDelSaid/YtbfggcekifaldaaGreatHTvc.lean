import Derived.Test.YtbfggcekifaldaaGreatHTvl
namespace Go.Proofs.YtbfggcekifaldaaGreat
set_option maxHeartbeats 4000000
open Go.RowKit
set_option linter.unusedVariables false
set_option linter.unusedSimpArgs false
set_option maxRecDepth 100000
theorem emptyC (w:World) (e:TypeId):(w.alloc (.cells #[] e)).ownsRow w.heap.size e 1 (.slice (some ⟨w.heap.size,0,none⟩) 0 0) 0 []:=by
 have:=World.ownsRow_made w #[] (base:=w.heap.size) (e:=e) (size:=1) 0 (by simp) (by unfold maxLen;omega) (by simp)
 simpa using this
theorem info_strC:(Tryz.prog.info? 9).map (fun i=>(i.zero,i.size,i.bytes))=some (some (.string ByteArray.empty),1,16):=by kernel_rfl
theorem info_i64C:(Tryz.prog.info? 2).map (fun i=>(i.zero,i.size,i.bytes))=some (some (.int .i64 0),1,8):=by kernel_rfl
theorem cloneStr_any (a:Option Addr) (n c:Nat) (xs:List Value) (w:World) (hx:xs.length=n) (hm:n<=1048576) (h0:a=none->n=0) (h1:∀ u ∈ xs,u.oneCell'=true) (hc:∀ ad,a=some ad->∀ j u,xs[j]?=some u->(ad.add j).block<w.heap.size∧w.cell? (ad.add j)=some u) :
  Calls Tryz.prog 40 #[.slice a n c] w fun e w'=>∃ v,e=.returned v∧w'.ownsRow w.heap.size 9 1 v n xs∧Below w.heap.size w w':=by
 have hq:∀ (w:World) (a:Option Addr) (n c n' c':Nat),(binOp .eql 43 (.slice a n c) (.slice none n' c')).run Tryz.prog w=.ok (.bool a.isNone) w:=fun w a n c n' c'=>Lib.run_eql_slice_nil w _ _ a n c n' c' Tryz.underlying43
 obtain⟨i1,hi1,hy0,hy1,hy2⟩:=info_parts info_strC
 cases a with
 | none =>
  have hn:=h0 rfl
  subst hn
  obtain rfl:xs=[]:=List.length_eq_zero_iff.1 hx
  clear hc h0
  go_enter Tryz.func40,Tryz.ntmps40
  go_wp2
  go_ret
  exact⟨_,rfl,World.ownsRow_nil _ _ _ _,Below.refl _ _⟩
 | some ad =>
  have hb2:Below w.heap.size w (w.alloc (.cells #[] 9)):=(Below.refl _ _).alloc (Nat.le_refl _) _
  have hR2:=emptyC w 9
  have hc2:∀ j u,xs[j]?=some u->(w.alloc (.cells #[] 9)).cell? (ad.add j)=some u:=fun j u hj=>(hb2.cell (p:=ad.add j) (hc ad rfl j u hj).1).trans (hc ad rfl j u hj).2
  clear hc
  go_enter Tryz.func40,Tryz.ntmps40
  go_wp2_with (at_builtin;refine wpList_append_ownD _ rfl _ _ 43 rfl w.heap.size 9 i1 _ 1 16 Tryz.underlying43 hi1 hy0 hy1 hy2 rfl (by decide) _ _ _ rfl hR2 ad n c xs rfl (by omega) hc2 h1 (by unfold maxLen;omega) (by omega) hb2.size ?_;intro v' w5 hown' hgr' hat';rw[Nat.zero_add,List.nil_append] at hown')
  have hb3:=hb2.grown hgr' hb2.size (fun g e=>(hR2.lt g e).1)
  go_ret
  exact⟨v',rfl,hown',hb3⟩
theorem cloneInt_any (a:Option Addr) (n c:Nat) (xs:List Value) (w:World) (hx:xs.length=n) (hm:n<=1048576) (h0:a=none->n=0) (h1:∀ u ∈ xs,u.oneCell'=true) (hc:∀ ad,a=some ad->∀ j u,xs[j]?=some u->(ad.add j).block<w.heap.size∧w.cell? (ad.add j)=some u) :
  Calls Tryz.prog 41 #[.slice a n c] w fun e w'=>∃ v,e=.returned v∧w'.ownsRow w.heap.size 2 1 v n xs∧Below w.heap.size w w':=by
 have hq:∀ (w:World) (a:Option Addr) (n c n' c':Nat),(binOp .eql 44 (.slice a n c) (.slice none n' c')).run Tryz.prog w=.ok (.bool a.isNone) w:=fun w a n c n' c'=>Lib.run_eql_slice_nil w _ _ a n c n' c' Tryz.underlying44
 obtain⟨i1,hi1,hy0,hy1,hy2⟩:=info_parts info_i64C
 cases a with
 | none =>
  have hn:=h0 rfl
  subst hn
  obtain rfl:xs=[]:=List.length_eq_zero_iff.1 hx
  clear hc h0
  go_enter Tryz.func41,Tryz.ntmps41
  go_wp2
  go_ret
  exact⟨_,rfl,World.ownsRow_nil _ _ _ _,Below.refl _ _⟩
 | some ad =>
  have hb2:Below w.heap.size w (w.alloc (.cells #[] 2)):=(Below.refl _ _).alloc (Nat.le_refl _) _
  have hR2:=emptyC w 2
  have hc2:∀ j u,xs[j]?=some u->(w.alloc (.cells #[] 2)).cell? (ad.add j)=some u:=fun j u hj=>(hb2.cell (p:=ad.add j) (hc ad rfl j u hj).1).trans (hc ad rfl j u hj).2
  clear hc
  go_enter Tryz.func41,Tryz.ntmps41
  go_wp2_with (at_builtin;refine wpList_append_ownD _ rfl _ _ 44 rfl w.heap.size 2 i1 _ 1 8 Tryz.underlying44 hi1 hy0 hy1 hy2 rfl (by decide) _ _ _ rfl hR2 ad n c xs rfl (by omega) hc2 h1 (by unfold maxLen;omega) (by omega) hb2.size ?_;intro v' w5 hown' hgr' hat';rw[Nat.zero_add,List.nil_append] at hown')
  have hb3:=hb2.grown hgr' hb2.size (fun g e=>(hR2.lt g e).1)
  go_ret
  exact⟨v',rfl,hown',hb3⟩
theorem strs_one (xs:List ByteArray):∀ u ∈ rowsOf strCells xs,u.oneCell'=true:=by
 intro u hu
 obtain⟨s,_,hu⟩:=List.mem_flatMap.1 hu
 simp[strCells] at hu
 subst hu;rfl
theorem ints_one (xs:List Int):∀ u ∈ rowsOf intCells xs,u.oneCell'=true:=by
 intro u hu
 obtain⟨s,_,hu⟩:=List.mem_flatMap.1 hu
 simp[intCells] at hu
 subst hu;rfl
theorem rowsAt_cells {α:Type} {w:World} {A B:Nat} {cs:α->List Value} {fit:α->Prop} {d:α} {a:Option Addr} {n c:Nat} {xs:List α} (hc1:∀ x,(cs x).length=1) (h:RowsAt w A B 1 cs fit d a n c xs) (hB:B<=w.heap.size):(rowsOf cs xs).length=n∧(a=none->n=0)∧∀ ad,a=some ad->∀ j u,(rowsOf cs xs)[j]?=some u->(ad.add j).block<w.heap.size∧w.cell? (ad.add j)=some u:=by
 obtain⟨h1,h2,h3,h4,h5⟩:=h
 have hl:(rowsOf cs xs).length=n:=by rw[rowsOf_length hc1];omega
 refine⟨hl,fun e=>?_,fun ad e j u hj=>?_⟩
 ·rcases Nat.eq_zero_or_pos n with h | h
  ·exact h
  ·obtain⟨b,off,e2,_⟩:=h5 h
   rw[e] at e2;cases e2
 ·have hj2:=(List.getElem?_eq_some_iff.1 hj).1
  rw[hl] at hj2
  obtain⟨b,off,e2,hb,hc⟩:=h5 (by omega)
  rw[e] at e2
  simp only[Option.some.injEq] at e2
  subst e2
  have e3:(⟨b,off,none⟩:Addr).add j=⟨b,off+j,none⟩:=by simp[Addr.add]
  rw[e3]
  refine⟨by show b<_;omega,?_⟩
  have h9:=hc j hj2 0 (by omega)
  have h8:=rowsOf_get hc1 d xs j 0 (by omega) (by omega)
  simp only[Nat.mul_one,Nat.add_zero] at h9 h8
  rw[h9,<-h8,hj]
theorem info_tnodeC:(Tryz.prog.info? 70).map (fun i=>(i.zero,i.size,i.bytes))=some (some (.agg #[.bool false,.int .i64 0,.slice none 0 0,.slice none 0 0,.slice none 0 0,.slice none 0 0]),6,112):=by kernel_rfl
theorem addr_add (b o k:Nat):(⟨b,o,none⟩:Addr).add k=⟨b,o+k,none⟩:=by simp[Addr.add]
def NodeLen (x:TN):Prop:=x.keys.length<=1048576∧x.vals.length<=1048576∧x.over.length<=1048576∧x.kids.length<=1048576
structure CpSt (w wr:World) (N:Nat) (a:Option Addr) (n c j:Nat) (oa:Option Addr) (oc:Nat) (ts:List TN) (us:Nat->Nat->Value):Prop where
 b0:wr.heap[N]?=some (.cells #[.slice a n c] 28)
 b1:wr.heap[N+1]?=some (.cells #[.slice none 0 0] 28)
 b2:wr.heap[N+2]?=some (.cells #[.slice oa j oc] 28)
 own:OwnT wr (N+3) (.slice oa j oc) ((ts.take j).map TN.nd) us
 bel:Below N w wr
theorem copyTree_any (ts:List TN) (a:Option Addr) (n c A B:Nat) (w:World) (hB:B<=w.heap.size) (hT:NodesAt w A B a n c ts) (hn:n<=1048576) (hb:∀ x ∈ ts,NodeLen x) :
  Calls Tryz.prog 21 #[.agg #[.slice a n c]] w fun e w'=>∃ oa oc us,e=.returned (.agg #[.slice oa n oc])∧OwnT w' w.heap.size (.slice oa n oc) (ts.map TN.nd) us∧Below w.heap.size w w':=by
 obtain⟨N,hN⟩:∃ N,w.heap.size=N:=⟨_,rfl⟩
 obtain⟨W,hW⟩:∃ W,W=((w.alloc (.cells #[.slice a n c] 28)).alloc (.cells #[.slice none 0 0] 28)).alloc (.cells #[.slice none 0 0] 28):=⟨_,rfl⟩
 have hbw:Below w.heap.size w W:=by rw[hW];exact (((Below.refl _ _).alloc (Nat.le_refl _) _).alloc (by simp) _).alloc (by simp;omega) _
 have sW:W.heap.size=N+3:=by rw[hW];simp[hN]
 have S0:CpSt w W N a n c 0 none 0 ts (fun _ _=>.slice none 0 0):=by
  have a3:=alloc3 w (.cells #[.slice a n c] 28) (.cells #[.slice none 0 0] 28) (.cells #[.slice none 0 0] 28)
  rw[<-hW,hN] at a3
  exact⟨a3.1,a3.2.1,a3.2.2,by simpa using OwnT.nil W (N+3) _,by rw[<-hN];exact hbw⟩
 have HT:Hid (∀ wr,Below N w wr->NodesAt wr A B a n c ts):=fun wr h=>hT.below (h.mono (by omega))
 have HL:Hid (ts.length=n):=hT.1
 have HNB:Hid (∀ x ∈ ts,NodeLen x):=hb
 have hnm:=hn
 obtain⟨i0,hi0,hz0,hz1,hz2⟩:=info_parts info_tnodeC
 clear hT hb hbw
 go_enter Tryz.func21,Tryz.ntmps21
 go_upto_region 2 with fail
 rw[<-hW]
 clear hW
 have x0:W.cell? ⟨N,0,none⟩=some (.slice a n c):=by simp[World.cell?,S0.b0]
 have l0:N<W.heap.size:=by omega
 go_wp2_with fail
 clear x0 l0
 go_loopw [9] (fun iv wr=>∃ (j:Nat) (oa:Option Addr) (oc:Nat) (us:Nat->Nat->Value),j<=n∧iv=.int .i64 j∧CpSt w wr N a n c j oa oc ts us) (fun iv _=>n - (intOf iv).toNat)
 case atStart=>exact⟨0,none,0,_,Nat.zero_le _,rfl,S0⟩
 case round =>
  clear S0
  obtain⟨j,oa,oc,us,hj,rfl,S⟩:=hrel
  by_cases hlt:j<n
  ·obtain⟨b,off,rfl,hbB,ka,kn,kc,va,vn,vc,pa,pn,pc,ya,yn,yc,hX⟩:=(HT.out wr S.bel).at hlt
   have HX:Hid _:=hX
   obtain⟨c0,c1,c2,c3,c4,c5,_,_,_,_,_⟩:=hX
   obtain⟨lf,hlf⟩:∃ lf,(ts.getD j dT).leaf=lf:=⟨_,rfl⟩
   obtain⟨pg,hpg⟩:∃ pg,(ts.getD j dT).page=pg:=⟨_,rfl⟩
   have HLP:Hid ((ts.getD j dT).leaf=lf∧(ts.getD j dT).page=pg):=⟨hlf,hpg⟩
   rw[hlf] at c0
   rw[hpg] at c1
   clear hlf hpg
   have hbl:b<wr.heap.size:=lt_of_cellG c0
   have HNL:Hid (NodeLen (ts.getD j dT)):=HNB.out _ (by
    have hj2:j<ts.length:=by have:=HL.out;omega
    have:ts.getD j dT=ts[j]:=by simp[List.getD,hj2]
    rw[this];exact List.getElem_mem _)
   obtain⟨X,hXs⟩:∃ X,wr.heap.size=X:=⟨_,rfl⟩
   have sN:N+3<=X:=by have:=(Array.getElem?_eq_some_iff.1 S.b2).1;omega
   have bx0:(wr.alloc (.cells #[.bool lf,.int .i64 pg,.slice ka kn kc,.slice va vn vc,.slice pa pn pc,.slice ya yn yc] 70)).heap[X]?=some (.cells #[.bool lf,.int .i64 pg,.slice ka kn kc,.slice va vn vc,.slice pa pn pc,.slice ya yn yc] 70):=by rw[<-hXs];exact heap_alloc_new wr _
   have bv0:Below X wr (wr.alloc (.cells #[.bool lf,.int .i64 pg,.slice ka kn kc,.slice va vn vc,.slice pa pn pc,.slice ya yn yc] 70)):=by rw[<-hXs];exact (Below.refl _ _).alloc (Nat.le_refl _) _
   have ll0:=LL.nil (wr.alloc (.cells #[.bool lf,.int .i64 pg,.slice ka kn kc,.slice va vn vc,.slice pa pn pc,.slice ya yn yc] 70)) (X+1)
   obtain⟨UQ0,hUQ0⟩:∃ f:Nat->Value,f=fun _=>.slice none 0 0:=⟨_,rfl⟩
   obtain⟨LQ0,hLQ0⟩:∃ f:Nat->List Value,f=fun _=>[]:=⟨_,rfl⟩
   rw[<-hUQ0,<-hLQ0] at ll0
   have HU0:Hid (UQ0=(fun _=>.slice none 0 0)∧LQ0=fun _=>[]):=⟨hUQ0,hLQ0⟩
   have HS:Hid (CpSt w wr N (some ⟨b,off,none⟩) n c j oa oc ts us):=S
   clear S hUQ0 hLQ0
   go_upto_region 5 with fail
   generalize wr.alloc (.cells #[.bool lf,.int .i64 pg,.slice ka kn kc,.slice va vn vc,.slice pa pn pc,.slice ya yn yc] 70)=V0 at *
   clear c0 c1 c2 c3 c4 c5
   obtain⟨y0,y1,y2,y3,y4,y5⟩:=box6g bx0
   have ff0:=thawT bx0
   have lx0:X<V0.heap.size:=(Array.getElem?_eq_some_iff.1 bx0).1
   have hcr0:=rowsAt_cells sc1 (HX.out.keys.keep (.of_below (bv0.mono (by omega)))) (show B<=V0.heap.size by omega)
   have hcl0:=cloneStr_any ka kn kc (rowsOf strCells (ts.getD j dT).keys) V0 hcr0.1 (by rw[<-hcr0.1,rowsOf_length sc1];have:=HNL.out;unfold NodeLen at this;omega) hcr0.2.1 (strs_one _) hcr0.2.2
   clear hcr0
   go_wp2_with fail
   refine hcl0.mono ?_
   rintro e Z0 ⟨u0,rfl,hr0,hbz0⟩
   obtain⟨a0,d0,rfl⟩:=own_shape hr0
   have sz0:=hbz0.size
   have bz0:=(hbz0.block X (by omega)).trans bx0
   obtain⟨x0,x1,x2,x3,x4,x5⟩:=box6g bz0
   have fz0:=thawT bz0
   have lz0:X<Z0.heap.size:=by omega
   have hst0:=fr_setT Z0 X 2 (.slice a0 kn d0)
   have bx1:(Z0.setCell ⟨X,2,none⟩ (.slice a0 kn d0)).heap[X]?=some (.cells #[.bool lf,.int .i64 pg,.slice a0 kn d0,.slice va vn vc,.slice pa pn pc,.slice ya yn yc] 70):=by simpa using heap_setT bz0 2 (.slice a0 kn d0)
   have ll1:LL (Z0.setCell ⟨X,2,none⟩ (.slice a0 kn d0)) (X+1) (fun r=>if r=0 then .slice a0 kn d0 else UQ0 r) (fun r=>if r=0 then rowsOf strCells (ts.getD j dT).keys else LQ0 r):=by
    have hrX:Z0.ownsRow (X+1) (ety 0) 1 (.slice a0 kn d0) (rowsOf strCells (ts.getD j dT).keys).length (rowsOf strCells (ts.getD j dT).keys):=by
     have h9:=hr0.1
     rw[Nat.mul_one] at h9
     rw[h9]
     exact own_lowerT hr0 (by omega)
    refine (ll0.app (q:=0) (by omega) hrX (growOf (g:=0) hbz0 _) (.inr (fun g hg=>(hr0.lt g hg).1))).fr hst0 (fun g h1 h2 e=>by omega)
   have bv1:Below X wr (Z0.setCell ⟨X,2,none⟩ (.slice a0 kn d0)):=(bv0.trans (hbz0.mono (by omega))).trans (hst0.below (by omega) (fun g e=>by omega))
   have sv1:(Z0.setCell ⟨X,2,none⟩ (.slice a0 kn d0)).heap.size=Z0.heap.size:=by simp[World.setCell]
   have si1:Z0.heap.size<=(Z0.setCell ⟨X,2,none⟩ (.slice a0 kn d0)).heap.size∧(Z0.setCell ⟨X,2,none⟩ (.slice a0 kn d0)).heap.size<=Z0.heap.size:=by omega
   clear sv1
   go_upto_region 6 with fail
   generalize Z0.setCell ⟨X,2,none⟩ (.slice a0 kn d0)=V1 at *
   obtain⟨UQ1,hUQ1⟩:∃ f,f=(fun r=>if r=0 then Value.slice a0 kn d0 else UQ0 r):=⟨_,rfl⟩
   obtain⟨LQ1,hLQ1⟩:∃ f,f=(fun r=>if r=0 then rowsOf strCells (ts.getD j dT).keys else LQ0 r):=⟨_,rfl⟩
   rw[<-hUQ1,<-hLQ1] at ll1
   have HU1:Hid (UQ1=(fun r=>if r=0 then Value.slice a0 kn d0 else UQ0 r)∧LQ1=(fun r=>if r=0 then rowsOf strCells (ts.getD j dT).keys else LQ0 r)):=⟨hUQ1,hLQ1⟩
   clear hUQ1 hLQ1 hcl0 hr0 hbz0 bz0 hst0 ll0 bx0 bv0 ff0 fz0 y0 y1 y2 y3 y4 y5 x0 x1 x2 x3 x4 x5
   obtain⟨y0,y1,y2,y3,y4,y5⟩:=box6g bx1
   have ff1:=thawT bx1
   have lx1:X<V1.heap.size:=(Array.getElem?_eq_some_iff.1 bx1).1
   have hcr1:=rowsAt_cells sc1 (HX.out.vals.keep (.of_below (bv1.mono (by omega)))) (show B<=V1.heap.size by omega)
   have hcl1:=cloneStr_any va vn vc (rowsOf strCells (ts.getD j dT).vals) V1 hcr1.1 (by rw[<-hcr1.1,rowsOf_length sc1];have:=HNL.out;unfold NodeLen at this;omega) hcr1.2.1 (strs_one _) hcr1.2.2
   clear hcr1
   go_wp2_with fail
   refine hcl1.mono ?_
   rintro e Z1 ⟨u1,rfl,hr1,hbz1⟩
   obtain⟨a1,d1,rfl⟩:=own_shape hr1
   have sz1:=hbz1.size
   have bz1:=(hbz1.block X (by omega)).trans bx1
   obtain⟨x0,x1,x2,x3,x4,x5⟩:=box6g bz1
   have fz1:=thawT bz1
   have lz1:X<Z1.heap.size:=by omega
   have hst1:=fr_setT Z1 X 3 (.slice a1 vn d1)
   have bx2:(Z1.setCell ⟨X,3,none⟩ (.slice a1 vn d1)).heap[X]?=some (.cells #[.bool lf,.int .i64 pg,.slice a0 kn d0,.slice a1 vn d1,.slice pa pn pc,.slice ya yn yc] 70):=by simpa using heap_setT bz1 3 (.slice a1 vn d1)
   have ll2:LL (Z1.setCell ⟨X,3,none⟩ (.slice a1 vn d1)) (X+1) (fun r=>if r=1 then .slice a1 vn d1 else UQ1 r) (fun r=>if r=1 then rowsOf strCells (ts.getD j dT).vals else LQ1 r):=by
    have hrX:Z1.ownsRow (X+1) (ety 1) 1 (.slice a1 vn d1) (rowsOf strCells (ts.getD j dT).vals).length (rowsOf strCells (ts.getD j dT).vals):=by
     have h9:=hr1.1
     rw[Nat.mul_one] at h9
     rw[h9]
     exact own_lowerT hr1 (by omega)
    refine (ll1.app (q:=1) (by omega) hrX (growOf (g:=0) hbz1 _) (.inr (fun g hg=>(hr1.lt g hg).1))).fr hst1 (fun g h1 h2 e=>by omega)
   have bv2:Below X wr (Z1.setCell ⟨X,3,none⟩ (.slice a1 vn d1)):=(bv1.trans (hbz1.mono (by omega))).trans (hst1.below (by omega) (fun g e=>by omega))
   have sv2:(Z1.setCell ⟨X,3,none⟩ (.slice a1 vn d1)).heap.size=Z1.heap.size:=by simp[World.setCell]
   have si2:Z1.heap.size<=(Z1.setCell ⟨X,3,none⟩ (.slice a1 vn d1)).heap.size∧(Z1.setCell ⟨X,3,none⟩ (.slice a1 vn d1)).heap.size<=Z1.heap.size:=by omega
   clear sv2
   go_upto_region 7 with fail
   generalize Z1.setCell ⟨X,3,none⟩ (.slice a1 vn d1)=V2 at *
   obtain⟨UQ2,hUQ2⟩:∃ f,f=(fun r=>if r=1 then Value.slice a1 vn d1 else UQ1 r):=⟨_,rfl⟩
   obtain⟨LQ2,hLQ2⟩:∃ f,f=(fun r=>if r=1 then rowsOf strCells (ts.getD j dT).vals else LQ1 r):=⟨_,rfl⟩
   rw[<-hUQ2,<-hLQ2] at ll2
   have HU2:Hid (UQ2=(fun r=>if r=1 then Value.slice a1 vn d1 else UQ1 r)∧LQ2=(fun r=>if r=1 then rowsOf strCells (ts.getD j dT).vals else LQ1 r)):=⟨hUQ2,hLQ2⟩
   clear hUQ2 hLQ2 hcl1 hr1 hbz1 bz1 hst1 ll1 bx1 bv1 ff1 fz1 y0 y1 y2 y3 y4 y5 x0 x1 x2 x3 x4 x5
   obtain⟨y0,y1,y2,y3,y4,y5⟩:=box6g bx2
   have ff2:=thawT bx2
   have lx2:X<V2.heap.size:=(Array.getElem?_eq_some_iff.1 bx2).1
   have hcr2:=rowsAt_cells ic1 (HX.out.over.keep (.of_below (bv2.mono (by omega)))) (show B<=V2.heap.size by omega)
   have hcl2:=cloneInt_any pa pn pc (rowsOf intCells (ts.getD j dT).over) V2 hcr2.1 (by rw[<-hcr2.1,rowsOf_length ic1];have:=HNL.out;unfold NodeLen at this;omega) hcr2.2.1 (ints_one _) hcr2.2.2
   clear hcr2
   go_wp2_with fail
   refine hcl2.mono ?_
   rintro e Z2 ⟨u2,rfl,hr2,hbz2⟩
   obtain⟨a2,d2,rfl⟩:=own_shape hr2
   have sz2:=hbz2.size
   have bz2:=(hbz2.block X (by omega)).trans bx2
   obtain⟨x0,x1,x2,x3,x4,x5⟩:=box6g bz2
   have fz2:=thawT bz2
   have lz2:X<Z2.heap.size:=by omega
   have hst2:=fr_setT Z2 X 4 (.slice a2 pn d2)
   have bx3:(Z2.setCell ⟨X,4,none⟩ (.slice a2 pn d2)).heap[X]?=some (.cells #[.bool lf,.int .i64 pg,.slice a0 kn d0,.slice a1 vn d1,.slice a2 pn d2,.slice ya yn yc] 70):=by simpa using heap_setT bz2 4 (.slice a2 pn d2)
   have ll3:LL (Z2.setCell ⟨X,4,none⟩ (.slice a2 pn d2)) (X+1) (fun r=>if r=2 then .slice a2 pn d2 else UQ2 r) (fun r=>if r=2 then rowsOf intCells (ts.getD j dT).over else LQ2 r):=by
    have hrX:Z2.ownsRow (X+1) (ety 2) 1 (.slice a2 pn d2) (rowsOf intCells (ts.getD j dT).over).length (rowsOf intCells (ts.getD j dT).over):=by
     have h9:=hr2.1
     rw[Nat.mul_one] at h9
     rw[h9]
     exact own_lowerT hr2 (by omega)
    refine (ll2.app (q:=2) (by omega) hrX (growOf (g:=0) hbz2 _) (.inr (fun g hg=>(hr2.lt g hg).1))).fr hst2 (fun g h1 h2 e=>by omega)
   have bv3:Below X wr (Z2.setCell ⟨X,4,none⟩ (.slice a2 pn d2)):=(bv2.trans (hbz2.mono (by omega))).trans (hst2.below (by omega) (fun g e=>by omega))
   have sv3:(Z2.setCell ⟨X,4,none⟩ (.slice a2 pn d2)).heap.size=Z2.heap.size:=by simp[World.setCell]
   have si3:Z2.heap.size<=(Z2.setCell ⟨X,4,none⟩ (.slice a2 pn d2)).heap.size∧(Z2.setCell ⟨X,4,none⟩ (.slice a2 pn d2)).heap.size<=Z2.heap.size:=by omega
   clear sv3
   go_upto_region 8 with fail
   generalize Z2.setCell ⟨X,4,none⟩ (.slice a2 pn d2)=V3 at *
   obtain⟨UQ3,hUQ3⟩:∃ f,f=(fun r=>if r=2 then Value.slice a2 pn d2 else UQ2 r):=⟨_,rfl⟩
   obtain⟨LQ3,hLQ3⟩:∃ f,f=(fun r=>if r=2 then rowsOf intCells (ts.getD j dT).over else LQ2 r):=⟨_,rfl⟩
   rw[<-hUQ3,<-hLQ3] at ll3
   have HU3:Hid (UQ3=(fun r=>if r=2 then Value.slice a2 pn d2 else UQ2 r)∧LQ3=(fun r=>if r=2 then rowsOf intCells (ts.getD j dT).over else LQ2 r)):=⟨hUQ3,hLQ3⟩
   clear hUQ3 hLQ3 hcl2 hr2 hbz2 bz2 hst2 ll2 bx2 bv2 ff2 fz2 y0 y1 y2 y3 y4 y5 x0 x1 x2 x3 x4 x5
   obtain⟨y0,y1,y2,y3,y4,y5⟩:=box6g bx3
   have ff3:=thawT bx3
   have lx3:X<V3.heap.size:=(Array.getElem?_eq_some_iff.1 bx3).1
   have hcr3:=rowsAt_cells ic1 (HX.out.kids.keep (.of_below (bv3.mono (by omega)))) (show B<=V3.heap.size by omega)
   have hcl3:=cloneInt_any ya yn yc (rowsOf intCells (ts.getD j dT).kids) V3 hcr3.1 (by rw[<-hcr3.1,rowsOf_length ic1];have:=HNL.out;unfold NodeLen at this;omega) hcr3.2.1 (ints_one _) hcr3.2.2
   clear hcr3
   go_wp2_with fail
   refine hcl3.mono ?_
   rintro e Z3 ⟨u3,rfl,hr3,hbz3⟩
   obtain⟨a3,d3,rfl⟩:=own_shape hr3
   have sz3:=hbz3.size
   have bz3:=(hbz3.block X (by omega)).trans bx3
   obtain⟨x0,x1,x2,x3,x4,x5⟩:=box6g bz3
   have fz3:=thawT bz3
   have lz3:X<Z3.heap.size:=by omega
   have hst3:=fr_setT Z3 X 5 (.slice a3 yn d3)
   have bx4:(Z3.setCell ⟨X,5,none⟩ (.slice a3 yn d3)).heap[X]?=some (.cells #[.bool lf,.int .i64 pg,.slice a0 kn d0,.slice a1 vn d1,.slice a2 pn d2,.slice a3 yn d3] 70):=by simpa using heap_setT bz3 5 (.slice a3 yn d3)
   have ll4:LL (Z3.setCell ⟨X,5,none⟩ (.slice a3 yn d3)) (X+1) (fun r=>if r=3 then .slice a3 yn d3 else UQ3 r) (fun r=>if r=3 then rowsOf intCells (ts.getD j dT).kids else LQ3 r):=by
    have hrX:Z3.ownsRow (X+1) (ety 3) 1 (.slice a3 yn d3) (rowsOf intCells (ts.getD j dT).kids).length (rowsOf intCells (ts.getD j dT).kids):=by
     have h9:=hr3.1
     rw[Nat.mul_one] at h9
     rw[h9]
     exact own_lowerT hr3 (by omega)
    refine (ll3.app (q:=3) (by omega) hrX (growOf (g:=0) hbz3 _) (.inr (fun g hg=>(hr3.lt g hg).1))).fr hst3 (fun g h1 h2 e=>by omega)
   have bv4:Below X wr (Z3.setCell ⟨X,5,none⟩ (.slice a3 yn d3)):=(bv3.trans (hbz3.mono (by omega))).trans (hst3.below (by omega) (fun g e=>by omega))
   have sv4:(Z3.setCell ⟨X,5,none⟩ (.slice a3 yn d3)).heap.size=Z3.heap.size:=by simp[World.setCell]
   have si4:Z3.heap.size<=(Z3.setCell ⟨X,5,none⟩ (.slice a3 yn d3)).heap.size∧(Z3.setCell ⟨X,5,none⟩ (.slice a3 yn d3)).heap.size<=Z3.heap.size:=by omega
   clear sv4
   go_upto_region 9 with fail
   generalize Z3.setCell ⟨X,5,none⟩ (.slice a3 yn d3)=V4 at *
   obtain⟨UQ4,hUQ4⟩:∃ f,f=(fun r=>if r=3 then Value.slice a3 yn d3 else UQ3 r):=⟨_,rfl⟩
   obtain⟨LQ4,hLQ4⟩:∃ f,f=(fun r=>if r=3 then rowsOf intCells (ts.getD j dT).kids else LQ3 r):=⟨_,rfl⟩
   rw[<-hUQ4,<-hLQ4] at ll4
   have HU4:Hid (UQ4=(fun r=>if r=3 then Value.slice a3 yn d3 else UQ3 r)∧LQ4=(fun r=>if r=3 then rowsOf intCells (ts.getD j dT).kids else LQ3 r)):=⟨hUQ4,hLQ4⟩
   clear hUQ4 hLQ4 hcl3 hr3 hbz3 bz3 hst3 ll3 bx3 bv3 ff3 fz3 y0 y1 y2 y3 y4 y5 x0 x1 x2 x3 x4 x5
   have SW:=HS.out
   have lX:=(Array.getElem?_eq_some_iff.1 bx4).1
   obtain⟨y0,y1,y2,y3,y4,y5⟩:=box6g bx4
   have b24:=(bv4.block (N+2) (by omega)).trans SW.b2
   have z24:V4.cell? ⟨N+2,0,none⟩=some (.slice oa j oc):=by simp[World.cell?,b24]
   obtain⟨Y,hY⟩:∃ Y,V4.heap.size=Y:=⟨_,rfl⟩
   have ab:Below V4.heap.size V4 (V4.alloc (.cells #[.bool lf,.int .i64 pg,.slice a0 kn d0,.slice a1 vn d1,.slice a2 pn d2,.slice a3 yn d3] 70)):=(Below.refl _ _).alloc (Nat.le_refl _) _
   have kA:=heap_alloc_new V4 (.cells #[.bool lf,.int .i64 pg,.slice a0 kn d0,.slice a1 vn d1,.slice a2 pn d2,.slice a3 yn d3] 70)
   rw[hY] at kA
   have sA:(V4.alloc (.cells #[.bool lf,.int .i64 pg,.slice a0 kn d0,.slice a1 vn d1,.slice a2 pn d2,.slice a3 yn d3] 70)).heap.size=Y+1:=by simp[hY]
   have hcells:∀ k u,[Value.bool lf,.int .i64 pg,.slice a0 kn d0,.slice a1 vn d1,.slice a2 pn d2,.slice a3 yn d3][k]?=some u->(V4.alloc (.cells #[.bool lf,.int .i64 pg,.slice a0 kn d0,.slice a1 vn d1,.slice a2 pn d2,.slice a3 yn d3] 70)).cell? ((⟨Y,0,none⟩:Addr).add k)=some u:=fun k u hk=>by
    rw[addr_add Y 0 k,Nat.zero_add]
    simp only[World.cell?,kA]
    simpa using hk
   have llA:=ll4.below ab
   have hlen:((ts.take j).map TN.nd).length=j:=by rw[List.length_map,List.length_take];have:=HL.out;omega
   have oA:OwnT (V4.alloc (.cells #[.bool lf,.int .i64 pg,.slice a0 kn d0,.slice a1 vn d1,.slice a2 pn d2,.slice a3 yn d3] 70)) (N+3) (.slice oa j oc) ((ts.take j).map TN.nd) us:=(SW.own.below (by rw[hXs];exact bv4)).below ab
   have hrowA:=oA.row
   rw[hlen] at hrowA
   have b2A:=(ab.block (N+2) (by omega)).trans b24
   have HPU:Hid (∀ v' w4,w4.ownsRow (N+3) 70 6 v' (j+1) (rowsC (fun i=>hdC (((ts.take j).map TN.nd).getD i dN) (us i)) j++[.bool lf,.int .i64 pg,.slice a0 kn d0,.slice a1 vn d1,.slice a2 pn d2,.slice a3 yn d3])->(V4.alloc (.cells #[.bool lf,.int .i64 pg,.slice a0 kn d0,.slice a1 vn d1,.slice a2 pn d2,.slice a3 yn d3] 70)).grownBy w4 (Value.slice oa j oc).ownBlock->∃ oa' oc' us',v'=.slice oa' (j+1) oc'∧w4.heap[N+2]?=some (.cells #[.slice oa j oc] 28)∧CpSt w (w4.setCell ⟨N+2,0,none⟩ v') N (some ⟨b,off,none⟩) n c (j+1) oa' oc' ts us'):=by
    intro v' w4 g1 g2
    obtain⟨oa',oc',rfl⟩:=own_shape g1
    have hUL:=HU4.out
    have hU3:=HU3.out
    have hU2:=HU2.out
    have hU1:=HU1.out
    have hU0:=HU0.out
    have hblk:∀ g,(Value.slice oa j oc).ownBlock=some g->N+3<=g∧g<X:=fun g hg=>by
     have:=SW.own.row.lt g hg
     omega
    have hlow:∀ k,k<N+3->w4.heap[k]?=V4.heap[k]?:=fun k hk=>(g2.block k (by omega) (fun e=>by have:=hblk k e.symm;omega)).trans (ab.block k (by omega))
    have hlowr:∀ k,k<N+3->w4.heap[k]?=wr.heap[k]?:=fun k hk=>(hlow k hk).trans (bv4.block k (by omega))
    have s4:=g2.size
    have hst:=fr_setT w4 (N+2) 0 (.slice oa' (j+1) oc')
    have hF:Fr (fun g=>X<=g) wr (V4.alloc (.cells #[.bool lf,.int .i64 pg,.slice a0 kn d0,.slice a1 vn d1,.slice a2 pn d2,.slice a3 yn d3] 70)):=⟨(ab.os.trans bv4.os),(ab.tape.trans bv4.tape),(ab.output.trans bv4.output),by have:=bv4.size;omega,fun k hk hX=>(ab.block k (by have:=bv4.size;omega)).trans (bv4.block k (by omega))⟩
    have hnd:∀ r,r<4->(TN.nd (ts.getD j dT)).l r=LQ4 r:=fun r hr=>by
     rw[hUL.2,hU3.2,hU2.2,hU1.2,hU0.2]
     have hr4:r=0∨r=1∨r=2∨r=3:=by omega
     rcases hr4 with rfl | rfl | rfl | rfl<;>simp[TN.nd]
    have hpush:=SW.own.push (M:=X) (w2:=V4.alloc (.cells #[.bool lf,.int .i64 pg,.slice a0 kn d0,.slice a1 vn d1,.slice a2 pn d2,.slice a3 yn d3] 70)) (w3:=w4) (v':=.slice oa' (j+1) oc') (nd:=TN.nd (ts.getD j dT)) (u:=UQ4) (fun g hg=>by have:=(SW.own.blk hg).2;omega) (by omega) hF (fun r hr=>by rw[hnd r hr];exact own_lowerT (llA.row r hr) (by omega)) llA.apart (by
     rw[hlen]
     have e:hdC (TN.nd (ts.getD j dT)) UQ4=[.bool lf,.int .i64 pg,.slice a0 kn d0,.slice a1 vn d1,.slice a2 pn d2,.slice a3 yn d3]:=by
      show [Value.bool (ts.getD j dT).leaf,.int .i64 (ts.getD j dT).page,UQ4 0,UQ4 1,UQ4 2,UQ4 3]=_
      rw[HLP.out.1,HLP.out.2,hUL.1,hU3.1,hU2.1,hU1.1]
      simp
     rw[e]
     exact g1) g2
    have b24':w4.heap[N+2]?=some (.cells #[.slice oa j oc] 28):=(hlow (N+2) (by omega)).trans b24
    refine⟨oa',oc',(fun i=>if i=((ts.take j).map TN.nd).length then UQ4 else us i),rfl,b24',⟨(hst.block N (by omega) (by omega)).trans ((hlowr N (by omega)).trans SW.b0),(hst.block (N+1) (by omega) (by omega)).trans ((hlowr (N+1) (by omega)).trans SW.b1),by simpa using heap_setT b24' 0 (.slice oa' (j+1) oc'),?_,?_⟩⟩
    ·have hj2:j<ts.length:=by have:=HL.out;omega
     have e2:ts.take (j+1)=ts.take j++[ts.getD j dT]:=by
      rw[List.take_succ_eq_append_getElem hj2]
      simp[List.getD,hj2]
     rw[e2,List.map_append]
     exact hpush.fr hst (fun g hg e=>by have:=(hpush.blk hg).1;omega)
    ·refine SW.bel.trans ⟨(hst.os.trans (g2.os.trans (ab.os.trans bv4.os))),(hst.tape.trans (g2.tape.trans (ab.tape.trans bv4.tape))),(hst.output.trans (g2.output.trans (ab.output.trans bv4.output))),by have:=hst.size;have:=bv4.size;omega,fun k hk=>(hst.block k (by omega) (by omega)).trans (hlowr k (by omega))⟩
   have hNA:N+3<=(V4.alloc (.cells #[.bool lf,.int .i64 pg,.slice a0 kn d0,.slice a1 vn d1,.slice a2 pn d2,.slice a3 yn d3] 70)).heap.size:=by omega
   have l2:N+2<V4.heap.size:=by omega
   clear SW llA oA b2A ll4 b24 bx4 ab
   go_wp2_with (at_builtin;refine wpList_append_ownD _ rfl _ _ 26 rfl (N+3) 70 i0 _ 6 112 Tryz.underlying26 hi0 hz0 hz1 hz2 rfl (by decide) (.slice oa j oc) j _ rfl hrowA ⟨Y,0,none⟩ 1 1 [.bool lf,.int .i64 pg,.slice a0 kn d0,.slice a1 vn d1,.slice a2 pn d2,.slice a3 yn d3] rfl rfl hcells (by simp[Value.oneCell']) (by unfold maxLen;omega) (by omega) hNA ?_;intro v' w4 g1 g2 g3;obtain⟨oa',oc',us',rfl,b4,SP⟩:=HPU.out v' w4 g1 g2;have f4:=thawT b4;have l4:=(Array.getElem?_eq_some_iff.1 b4).1;have c4:w4.cell? ⟨N+2,0,none⟩=some (.slice oa j oc):=by simp[World.cell?,b4])
   go_roundw
   case rel=>exact⟨j+1,oa',oc',us',by omega,by go_num,SP⟩
   case measure=>simp[intOf];omega
  ·have hje:j=n:=by omega
   subst hje
   have hfin:(ts.take j).map TN.nd=ts.map TN.nd:=by rw[List.take_of_length_le (by have:=HL.out;omega)]
   have l2:=(Array.getElem?_eq_some_iff.1 S.b2).1
   have c2:wr.cell? ⟨N+2,0,none⟩=some (.slice oa j oc):=by simp[World.cell?,S.b2]
   have c1:wr.cell? ⟨N+1,0,none⟩=some (.slice none 0 0):=by simp[World.cell?,S.b1]
   have f1:=thawT S.b1
   have HFIN:Hid (OwnT (wr.setCell ⟨N+1,0,none⟩ (.slice oa j oc)) N (.slice oa j oc) (ts.map TN.nd) us∧Below N w (wr.setCell ⟨N+1,0,none⟩ (.slice oa j oc))):=by
    have hst:=fr_setT wr (N+1) 0 (.slice oa j oc)
    have hO:=S.own
    rw[hfin] at hO
    exact⟨(hO.fr hst (fun g hg e=>by have:=(hO.blk hg).1;omega)).lower (by omega),S.bel.trans (hst.below (by omega) (fun g e=>by omega))⟩
   have x1:(wr.setCell ⟨N+1,0,none⟩ (.slice oa j oc)).cell? ⟨N+1,0,none⟩=some (.slice oa j oc):=by simp[World.cell?,World.setCell,Array.getElem?_modify,S.b1]
   have l1:N+1<wr.heap.size:=by omega
   clear S hfin
   go_wp2_with fail
   refine bodyPost_ret (v:=.agg #[.slice oa j oc]) (by simp[results,Tryz.results21,go_sem,x1]) rfl ?_
   rw[hN]
   exact⟨oa,oc,us,rfl,HFIN.out.1,HFIN.out.2⟩
end Go.Proofs.YtbfggcekifaldaaGreat
