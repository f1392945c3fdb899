import Derived.Test.YtbfggcekifaldaaGreatTks
import Derived.Test.YtbfggcekifaldaaGreatHTwq
namespace Go.Proofs.YtbfggcekifaldaaGreat
open Go.RowKit
set_option linter.unusedVariables false
set_option linter.unusedSimpArgs false
set_option maxRecDepth 100000
theorem alloc5 (w:World) (a b c d e:Obj):(((((w.alloc a).alloc b).alloc c).alloc d).alloc e).heap[w.heap.size]?=some a∧(((((w.alloc a).alloc b).alloc c).alloc d).alloc e).heap[w.heap.size+1]?=some b∧(((((w.alloc a).alloc b).alloc c).alloc d).alloc e).heap[w.heap.size+2]?=some c∧(((((w.alloc a).alloc b).alloc c).alloc d).alloc e).heap[w.heap.size+3]?=some d∧(((((w.alloc a).alloc b).alloc c).alloc d).alloc e).heap[w.heap.size+4]?=some e:=by
 obtain⟨h0,h1,h2⟩:=alloc3 w a b c
 have s3:(((w.alloc a).alloc b).alloc c).heap.size=w.heap.size+3:=by simp
 have s4:((((w.alloc a).alloc b).alloc c).alloc d).heap.size=w.heap.size+4:=by simp
 have b4:=(Below.refl (((w.alloc a).alloc b).alloc c).heap.size _).alloc (Nat.le_refl _) d
 have b5:=(Below.refl ((((w.alloc a).alloc b).alloc c).alloc d).heap.size _).alloc (Nat.le_refl _) e
 have e4:=heap_alloc_new (((w.alloc a).alloc b).alloc c) d
 have e5:=heap_alloc_new ((((w.alloc a).alloc b).alloc c).alloc d) e
 rw[s3] at e4
 rw[s4] at e5
 exact⟨(b5.block _ (by omega)).trans ((b4.block _ (by omega)).trans h0),(b5.block _ (by omega)).trans ((b4.block _ (by omega)).trans h1),(b5.block _ (by omega)).trans ((b4.block _ (by omega)).trans h2),(b5.block _ (by omega)).trans e4,e5⟩
theorem drop1 {α:Type} {cs:α->List Value} (hm:∀ x,(cs x).length=1) (xs:List α) (i:Nat):rowsOf cs (xs.drop i)=(rowsOf cs xs).drop i:=by have:=rowsOf_dropG hm xs i;rwa [Nat.mul_one] at this
theorem size_leaf {t:T} (hl:t.leaf=true):t.size=t.keys.length:=by simp[T.size,hl]
theorem size_inner {t:T} (hl:t.leaf=false):t.size=t.kids.length:=by simp[T.size,hl]
theorem rowsC_part {css:Nat->List Value} {n k:Nat} (h6:∀ i,i<n->(css i).length=6) (hk:k<=n):(rowsC css n).take (k*6)=rowsC css k∧(rowsC css n).drop (k*6)=rowsC (fun i=>css (i+k)) (n - k):=by
 have e1:rowsC css n=rowsC css k++rowsC (fun i=>css (i+k)) (n - k):=by
  rw[rowsC_app,show k+(n - k)=n by omega]
  refine (rowsC_congr (fun i hi=>?_)).symm
  by_cases h:i<k
  ·simp[h]
  ·simp only[h,if_false]
   rw[show i - k+k=i by omega]
 have l1:=(rowsC_get (css:=css) (m:=k) (fun i hi=>h6 i (by omega))).1
 rw[e1]
 exact⟨by rw[<-l1,List.take_left],by rw[<-l1,List.drop_left]⟩
theorem nilR {α:Type} {w:World} {B:Nat} (cs:α->List Value) (fit:α->Prop) (d:α) (A:Nat):RowsAt w A B 1 cs fit d none 0 0 []:=⟨rfl,Nat.le_refl _,by unfold maxLen;exact Nat.zero_le _,fun i hi=>absurd hi (by omega),fun h0=>absurd h0 (by omega)⟩
theorem drew_set (w:World) (a:Addr) (v:Value):(w.setCell a v).drew=w.drew.setCell a v:=by
 unfold World.setCell
 repeat (first | rfl | split)
theorem put6T_eq (V:World) (b:Nat) (a0 a1 a2 a3 a4 a5:Value):((((((V.setCell ⟨b,0,none⟩ a0).setCell ⟨b,1,none⟩ a1).setCell ⟨b,2,none⟩ a2).setCell ⟨b,3,none⟩ a3).setCell ⟨b,4,none⟩ a4).setCell ⟨b,5,none⟩ a5)=put6T V b a0 a1 a2 a3 a4 a5:=rfl
theorem put6T_dr (V:World) (b:Nat) (a0 a1 a2 a3 a4 a5:Value):((((((V.setCell ⟨b,0,none⟩ a0).setCell ⟨b,1,none⟩ a1).setCell ⟨b,2,none⟩ a2).setCell ⟨b,3,none⟩ a3).setCell ⟨b,4,none⟩ a4).setCell ⟨b,5,none⟩ a5).drew=put6T V.drew b a0 a1 a2 a3 a4 a5:=by
 rw[drew_set,drew_set,drew_set,drew_set,drew_set,drew_set]
 exact put6T_eq _ _ _ _ _ _ _ _
def Slim (t:T):Prop:=(t.leaf=true->t.kids=[]∧t.vals.length=t.keys.length∧t.over.length=t.keys.length)∧(t.leaf=false->t.keys=[]∧t.vals=[]∧t.over=[])
def PartS (w:World) (Q:Nat->Prop) (t:T) (k:Nat) (e:Ending) (w':World):Prop:=∃ v1 v2,e=.returned (.tuple #[v1,v2])∧SN w' (fun g=>Q g∨w.heap.size<=g) (t.fore k) v1∧SN w' (fun g=>Q g∨w.heap.size<=g) (t.rest k) v2∧Below w.heap.size w w'
set_option maxHeartbeats 8000000 in
theorem l3Part_any {w:World} {Q:Nat->Prop} {t:T} {v:Value} (h:SN w Q t v) (hsl:Slim t) (k:Nat) (hk:k<=t.size) (hs:t.size<=1000):Calls Tryz.prog 31 #[v,.int .i64 k] w fun e w'=>PartS w Q t k e w':=by
 obtain⟨ka,kn,kc,va,vn,vc,oa,on,oc,ya,yc,css,rfl,hXQ⟩:=h
 have hX:=hXQ.nx
 have hya:ya=none->t.kids.length=0:=fun e=>by
  rcases Nat.eq_zero_or_pos t.kids.length with h | h
  ·exact h
  ·obtain⟨_,_,e2,_⟩:=hX.cell h;rw[e] at e2;cases e2
 have HX:Hid _:=hX
 have HXQ:Hid _:=hXQ
 clear hXQ
 have HLA:Hid (t.keys.length=kn∧t.vals.length=vn∧t.over.length=on):=⟨hX.keys.1,hX.vals.1,hX.over.1⟩
 obtain⟨N,hN⟩:∃ N,w.heap.size=N:=⟨_,rfl⟩
 obtain⟨W,hW⟩:∃ W,W=((((w.alloc (.cells #[.bool t.leaf,.int .i64 t.page,.slice ka kn kc,.slice va vn vc,.slice oa on oc,.slice ya t.kids.length yc] 47)).alloc (.cells #[.bool false,.int .i64 0,.slice none 0 0,.slice none 0 0,.slice none 0 0,.slice none 0 0] 47)).alloc (.cells #[.bool false,.int .i64 0,.slice none 0 0,.slice none 0 0,.slice none 0 0,.slice none 0 0] 47)).alloc (.cells #[.bool t.leaf,.int .i64 0,.slice none 0 0,.slice none 0 0,.slice none 0 0,.slice none 0 0] 47)).alloc (.cells #[.bool t.leaf,.int .i64 0,.slice none 0 0,.slice none 0 0,.slice none 0 0,.slice none 0 0] 47):=⟨_,rfl⟩
 have hbw:Below w.heap.size w W:=by rw[hW];exact (((((Below.refl _ _).alloc (Nat.le_refl _) _).alloc (by simp) _).alloc (by simp;omega) _).alloc (by simp;omega) _).alloc (by simp;omega) _
 have sW:W.heap.size=N+5:=by rw[hW];simp[hN]
 have a5:=alloc5 w (.cells #[.bool t.leaf,.int .i64 t.page,.slice ka kn kc,.slice va vn vc,.slice oa on oc,.slice ya t.kids.length yc] 47) (.cells #[.bool false,.int .i64 0,.slice none 0 0,.slice none 0 0,.slice none 0 0,.slice none 0 0] 47) (.cells #[.bool false,.int .i64 0,.slice none 0 0,.slice none 0 0,.slice none 0 0,.slice none 0 0] 47) (.cells #[.bool t.leaf,.int .i64 0,.slice none 0 0,.slice none 0 0,.slice none 0 0,.slice none 0 0] 47) (.cells #[.bool t.leaf,.int .i64 0,.slice none 0 0,.slice none 0 0,.slice none 0 0,.slice none 0 0] 47)
 rw[<-hW,hN] at a5
 obtain⟨k0,k1,k2,bA0,bB0⟩:=a5
 have hkc:=hX.keys.2.1
 have hvc:=hX.vals.2.1
 have hoc:=hX.over.2.1
 have hyc:=hX.cap.1
 have hkm:=hX.keys.2.2.1
 have hvm:=hX.vals.2.2.1
 have hom:=hX.over.2.2.1
 have hym:=hX.cap.2
 unfold maxLen at hkm hvm hom hym
 have HP:Hid _:=hsl
 rw[hN] at hbw
 have SK:Hid (t.leaf=true->∀ V,Below N w V->SrcAt V N 1 kn (.slice ka kn kc) (rowsOf strCells t.keys)):=fun hl V hb=>by
  have:=srcRows sc1 (strs_one _) HX.out.keys (by have h1:=HLA.out;have:=size_leaf hl;omega)
  rw[hN] at this
  exact this.below hb
 have SV:Hid (t.leaf=true->∀ V,Below N w V->SrcAt V N 1 vn (.slice va vn vc) (rowsOf strCells t.vals)):=fun hl V hb=>by
  have:=srcRows sc1 (strs_one _) HX.out.vals (by have h1:=HLA.out;have h2:=(HP.out.1 hl).2;have:=size_leaf hl;omega)
  rw[hN] at this
  exact this.below hb
 have SO:Hid (t.leaf=true->∀ V,Below N w V->SrcAt V N 1 on (.slice oa on oc) (rowsOf intCells t.over)):=fun hl V hb=>by
  have:=srcRows ic1 (ints_one _) HX.out.over (by have h1:=HLA.out;have h2:=(HP.out.1 hl).2;have:=size_leaf hl;omega)
  rw[hN] at this
  exact this.below hb
 have SY:Hid (t.leaf=false->∀ V,Below N w V->SrcAt V N 6 t.kids.length (.slice ya t.kids.length yc) (rowsC css t.kids.length)):=fun hl V hb=>by
  have:=srcKids HX.out (by have:=size_inner hl;omega) hya
  rw[hN] at this
  exact this.below hb
 obtain⟨i1,hi1,hp0,hp1,hp2⟩:=info_parts info_strC
 obtain⟨i2,hi2,hq0,hq1,hq2⟩:=info_parts info_i64C
 obtain⟨i3,hi3,hs0,hs1,hs2⟩:=info_parts info_l3N
 have HSZ:Hid (∀ V,Below N w V->(t.leaf=true->k<=t.keys.length)∧(t.leaf=false->k<=t.kids.length)):=fun V _=>⟨fun hl=>by have:=size_leaf hl;omega,fun hl=>by have:=size_inner hl;omega⟩
 cases hl:t.leaf
 ·have HLF:Hid (t.leaf=false):=hl
  rw[hl] at bA0 bB0 k0
  have hk0:k<=t.kids.length:=(HSZ.out w (Below.refl _ _)).2 hl
  have hk1:=hk0
  have lf_:t.leaf=false:=hl
  rw[hl] at hW
  clear hX hsl
  go_enter Tryz.func31,Tryz.ntmps31
  go_upto_region 11 with fail
  rw[<-hW]
  clear hW
  have ss0:N+5<=W.heap.size:=by omega
  have k0_0:=k0
  have k1_0:=k1
  have k2_0:=k2
  have bel0:=hbw
  clear k0 k1 k2 hbw sW
  generalize W=V0 at *
  have aE0:Below V0.heap.size V0 (V0.alloc (.cells #[] 47)):=(Below.refl _ _).alloc (Nat.le_refl _) _
  have hE0:Below N V0 (V0.alloc (.cells #[] 47)):=aE0.mono (by omega)
  have sE0:V0.heap.size<=(V0.alloc (.cells #[] 47)).heap.size:=by simp
  have rE0:=emptyE V0 47 6 (N+5) (by omega)
  have src0:=(SY.out hl (V0.alloc (.cells #[] 47)) (bel0.trans hE0)).fore hk0
  obtain⟨p0,p1,p2,p3,p4,p5⟩:=box6g k0_0
  have lN0:N<V0.heap.size:=by omega
  have HNX0:Hid (∀ v' w4,w4.ownsRow (N+5) 47 6 v' (0+k) ([]++(rowsC css t.kids.length).take (k*6))->(V0.alloc (.cells #[] 47)).grownBy w4 (Value.slice (some ⟨V0.heap.size,0,none⟩) 0 0).ownBlock->∃ x y,v'=.slice x k y∧w4.ownsRow (N+5) 47 6 (.slice x k y) k ((rowsC css t.kids.length).take (k*6))∧w4.heap[N+3]?=some (.cells #[.bool false,.int .i64 0,.slice none 0 0,.slice none 0 0,.slice none 0 0,.slice none 0 0] 47)∧V0.heap.size<=w4.heap.size∧Below V0.heap.size V0 w4):=by
   intro v' w4 g1 g2
   rw[Nat.zero_add,List.nil_append] at g1
   obtain⟨x,y,rfl⟩:=own_shape g1
   have hb4:Below V0.heap.size V0 w4:=aE0.grown g2 sE0 (fun g e=>by have:=own_some e;omega)
   exact⟨x,y,rfl,g1,(hb4.block (N+3) (by omega)).trans bA0,hb4.size,hb4⟩
  go_upto_region 12 with (at_builtin;refine wpList_append_S _ rfl _ _ 45 rfl (N+5) 47 i3 _ 6 112 Tryz.underlying45 hi3 hs0 hs1 hs2 rfl (by decide) (by decide) _ 0 [] rfl rE0 (by omega) _ N k _ rfl src0 (by omega) ?_;intro v' w4 g1 g2 g3;obtain⟨x0,y0,rfl,R0,bx4,s4,hb4⟩:=HNX0.out v' w4 g1 g2;obtain⟨z0,z1,z2,z3,z4,z5⟩:=box6g bx4;have f4:=thawT bx4;have l4:=(Array.getElem?_eq_some_iff.1 bx4).1)
  have hst0:=fr_setT w4 (N+3) 5 (.slice x0 k y0)
  have bA1:(w4.setCell ⟨N+3,5,none⟩ (.slice x0 k y0)).heap[N+3]?=some (.cells #[.bool false,.int .i64 0,.slice none 0 0,.slice none 0 0,.slice none 0 0,.slice x0 k y0] 47):=by simpa using heap_setT bx4 5 (.slice x0 k y0)
  have hk4:∀ g,g<V0.heap.size->g≠N+3->(w4.setCell ⟨N+3,5,none⟩ (.slice x0 k y0)).heap[g]?=V0.heap[g]?:=fun g h1 h2=>(hst0.block g (by omega) h2).trans (hb4.block g h1)
  have bB1:=(hk4 (N+4) (by omega) (by omega)).trans bB0
  have k0_1:=(hk4 N (by omega) (by omega)).trans k0_0
  have k1_1:=(hk4 (N+1) (by omega) (by omega)).trans k1_0
  have k2_1:=(hk4 (N+2) (by omega) (by omega)).trans k2_0
  have R0_1:=owns_fr R0 hst0 (fun g hg e=>by have:=(R0.lt g hg).1;omega)
  have bel1:Below N w (w4.setCell ⟨N+3,5,none⟩ (.slice x0 k y0)):=bel0.trans ⟨hst0.os.trans hb4.os,hst0.tape.trans hb4.tape,hst0.output.trans hb4.output,Nat.le_trans hb4.size hst0.size,fun g hg=>hk4 g (by omega) (by omega)⟩
  have ss1:N+5<=(w4.setCell ⟨N+3,5,none⟩ (.slice x0 k y0)).heap.size:=by have:=hst0.size;omega
  generalize w4.setCell ⟨N+3,5,none⟩ (.slice x0 k y0)=V1 at *
  clear src0 HNX0 p0 p1 p2 p3 p4 p5 g1 g2 g3 aE0 hE0 sE0 rE0 z0 z1 z2 z3 z4 z5 f4 l4 bx4 s4 hb4 hk4 hst0 R0 bA0 bB0 k0_0 k1_0 k2_0 bel0 ss0 lN0 
  clear w4
  have aE1:Below V1.heap.size V1 (V1.alloc (.cells #[] 47)):=(Below.refl _ _).alloc (Nat.le_refl _) _
  have hE1:Below N V1 (V1.alloc (.cells #[] 47)):=aE1.mono (by omega)
  have sE1:V1.heap.size<=(V1.alloc (.cells #[] 47)).heap.size:=by simp
  have rE1:=emptyE V1 47 6 (N+5) (by omega)
  have src1:=(SY.out hl (V1.alloc (.cells #[] 47)) (bel1.trans hE1)).rest hk1 hyc
  obtain⟨p0,p1,p2,p3,p4,p5⟩:=box6g k0_1
  have lN1:N<V1.heap.size:=by omega
  have HNX1:Hid (∀ v' w4,w4.ownsRow (N+5) 47 6 v' (0+(t.kids.length - k)) ([]++(rowsC css t.kids.length).drop (k*6))->(V1.alloc (.cells #[] 47)).grownBy w4 (Value.slice (some ⟨V1.heap.size,0,none⟩) 0 0).ownBlock->∃ x y,v'=.slice x (t.kids.length - k) y∧w4.ownsRow (N+5) 47 6 (.slice x (t.kids.length - k) y) (t.kids.length - k) ((rowsC css t.kids.length).drop (k*6))∧w4.heap[N+4]?=some (.cells #[.bool false,.int .i64 0,.slice none 0 0,.slice none 0 0,.slice none 0 0,.slice none 0 0] 47)∧V1.heap.size<=w4.heap.size∧Below V1.heap.size V1 w4):=by
   intro v' w4 g1 g2
   rw[Nat.zero_add,List.nil_append] at g1
   obtain⟨x,y,rfl⟩:=own_shape g1
   have hb4:Below V1.heap.size V1 w4:=aE1.grown g2 sE1 (fun g e=>by have:=own_some e;omega)
   exact⟨x,y,rfl,g1,(hb4.block (N+4) (by omega)).trans bB1,hb4.size,hb4⟩
  go_upto_region 13 with (at_builtin;refine wpList_append_S _ rfl _ _ 45 rfl (N+5) 47 i3 _ 6 112 Tryz.underlying45 hi3 hs0 hs1 hs2 rfl (by decide) (by decide) _ 0 [] rfl rE1 (by omega) _ N (t.kids.length - k) _ rfl src1 (by omega) ?_;intro v' w4 g1 g2 g3;obtain⟨x1,y1,rfl,R1,bx4,s4,hb4⟩:=HNX1.out v' w4 g1 g2;obtain⟨z0,z1,z2,z3,z4,z5⟩:=box6g bx4;have f4:=thawT bx4;have l4:=(Array.getElem?_eq_some_iff.1 bx4).1)
  have hst1:=fr_setT w4 (N+4) 5 (.slice x1 (t.kids.length - k) y1)
  have bB2:(w4.setCell ⟨N+4,5,none⟩ (.slice x1 (t.kids.length - k) y1)).heap[N+4]?=some (.cells #[.bool false,.int .i64 0,.slice none 0 0,.slice none 0 0,.slice none 0 0,.slice x1 (t.kids.length - k) y1] 47):=by simpa using heap_setT bx4 5 (.slice x1 (t.kids.length - k) y1)
  have hk4:∀ g,g<V1.heap.size->g≠N+4->(w4.setCell ⟨N+4,5,none⟩ (.slice x1 (t.kids.length - k) y1)).heap[g]?=V1.heap[g]?:=fun g h1 h2=>(hst1.block g (by omega) h2).trans (hb4.block g h1)
  have bA2:=(hk4 (N+3) (by omega) (by omega)).trans bA1
  have k0_2:=(hk4 N (by omega) (by omega)).trans k0_1
  have k1_2:=(hk4 (N+1) (by omega) (by omega)).trans k1_1
  have k2_2:=(hk4 (N+2) (by omega) (by omega)).trans k2_1
  have R0_2:=owns_keepG R0_1 (fun g hg=>hk4 g (by have:=(R0_1.lt g hg).2;omega) (by have:=(R0_1.lt g hg).1;omega))
  have R1_2:=owns_fr R1 hst1 (fun g hg e=>by have:=(R1.lt g hg).1;omega)
  have bel2:Below N w (w4.setCell ⟨N+4,5,none⟩ (.slice x1 (t.kids.length - k) y1)):=bel1.trans ⟨hst1.os.trans hb4.os,hst1.tape.trans hb4.tape,hst1.output.trans hb4.output,Nat.le_trans hb4.size hst1.size,fun g hg=>hk4 g (by omega) (by omega)⟩
  have ss2:N+5<=(w4.setCell ⟨N+4,5,none⟩ (.slice x1 (t.kids.length - k) y1)).heap.size:=by have:=hst1.size;omega
  generalize w4.setCell ⟨N+4,5,none⟩ (.slice x1 (t.kids.length - k) y1)=V2 at *
  clear src1 HNX1 p0 p1 p2 p3 p4 p5 g1 g2 g3 aE1 hE1 sE1 rE1 z0 z1 z2 z3 z4 z5 f4 l4 bx4 s4 hb4 hk4 hst1 R1 bB1 bA1 k0_1 k1_1 k2_1 bel1 ss1 lN1 R0_1
  clear w4
  have kk1:V2.drew.heap[N+1]?=some (.cells #[.bool false,.int .i64 0,.slice none 0 0,.slice none 0 0,.slice none 0 0,.slice none 0 0] 47):=k1_2
  have kk2:V2.drew.heap[N+2]?=some (.cells #[.bool false,.int .i64 0,.slice none 0 0,.slice none 0 0,.slice none 0 0,.slice none 0 0] 47):=k2_2
  have bbA:V2.drew.heap[N+3]?=some (.cells #[.bool false,.int .i64 0,.slice none 0 0,.slice none 0 0,.slice none 0 0,.slice x0 k y0] 47):=bA2
  have bbB:V2.drew.heap[N+4]?=some (.cells #[.bool false,.int .i64 0,.slice none 0 0,.slice none 0 0,.slice none 0 0,.slice x1 (t.kids.length - k) y1] 47):=bB2
  have hSd:∀ W',Fr (fun g=>g=N+1∨g=N+2) V2.drew W'->W'.heap[N+3]?=some (.cells #[.bool false,.int .i64 0,.slice none 0 0,.slice none 0 0,.slice none 0 0,.slice x0 k y0] 47)∧W'.heap[N+4]?=some (.cells #[.bool false,.int .i64 0,.slice none 0 0,.slice none 0 0,.slice none 0 0,.slice x1 (t.kids.length - k) y1] 47):=fun W' hf=>⟨(hf.block (N+3) (by show N+3<V2.heap.size;omega) (by omega)).trans bbA,(hf.block (N+4) (by show N+4<V2.heap.size;omega) (by omega)).trans bbB⟩
  obtain⟨X1,hX1⟩:∃ X,put6T V2.drew (N+1) (.bool false) (.int .i64 0) (.slice none 0 0) (.slice none 0 0) (.slice none 0 0) (.slice x0 k y0)=X:=⟨_,rfl⟩
  have eX1:((((((V2.setCell ⟨N+1,0,none⟩ (.bool false)).setCell ⟨N+1,1,none⟩ (.int .i64 0)).setCell ⟨N+1,2,none⟩ (.slice none 0 0)).setCell ⟨N+1,3,none⟩ (.slice none 0 0)).setCell ⟨N+1,4,none⟩ (.slice none 0 0)).setCell ⟨N+1,5,none⟩ (.slice x0 k y0)).drew=X1:=(put6T_dr V2 (N+1) (.bool false) (.int .i64 0) (.slice none 0 0) (.slice none 0 0) (.slice none 0 0) (.slice x0 k y0)).trans hX1
  have gX1:=put6T_fr V2.drew (N+1) (.bool false) (.int .i64 0) (.slice none 0 0) (.slice none 0 0) (.slice none 0 0) (.slice x0 k y0)
  have uX1:=put6T_box kk1 (.bool false) (.int .i64 0) (.slice none 0 0) (.slice none 0 0) (.slice none 0 0) (.slice x0 k y0)
  rw[hX1] at gX1 uX1
  clear hX1
  have f1:Fr (fun g=>g=N+1∨g=N+2) V2.drew X1:=gX1.weak (fun g e=>.inl e)
  have u12:=(gX1.block (N+2) (by show N+2<V2.heap.size;omega) (by omega)).trans kk2
  obtain⟨X12,hX12⟩:∃ X,put6T X1 (N+2) (.bool false) (.int .i64 0) (.slice none 0 0) (.slice none 0 0) (.slice none 0 0) (.slice x1 (t.kids.length - k) y1)=X:=⟨_,rfl⟩
  have eX12:((((((X1.setCell ⟨N+2,0,none⟩ (.bool false)).setCell ⟨N+2,1,none⟩ (.int .i64 0)).setCell ⟨N+2,2,none⟩ (.slice none 0 0)).setCell ⟨N+2,3,none⟩ (.slice none 0 0)).setCell ⟨N+2,4,none⟩ (.slice none 0 0)).setCell ⟨N+2,5,none⟩ (.slice x1 (t.kids.length - k) y1))=X12:=(put6T_eq X1 (N+2) (.bool false) (.int .i64 0) (.slice none 0 0) (.slice none 0 0) (.slice none 0 0) (.slice x1 (t.kids.length - k) y1)).trans hX12
  have gX12:=put6T_fr X1 (N+2) (.bool false) (.int .i64 0) (.slice none 0 0) (.slice none 0 0) (.slice none 0 0) (.slice x1 (t.kids.length - k) y1)
  have uX12:=put6T_box u12 (.bool false) (.int .i64 0) (.slice none 0 0) (.slice none 0 0) (.slice none 0 0) (.slice x1 (t.kids.length - k) y1)
  rw[hX12] at gX12 uX12
  clear hX12
  have f12:Fr (fun g=>g=N+1∨g=N+2) V2.drew X12:=f1.trans (gX12.weak (fun g e=>.inr e))
  have h9:V2.drew.heap.size=V2.heap.size:=rfl
  have s1:=gX1.size
  rw[h9] at s1
  clear h9
  have w12a:=(gX12.block (N+1) (by omega) (by omega)).trans uX1
  have HEND:Hid (∀ W',Fr (fun g=>g=N+1∨g=N+2) V2.drew W'->PartS w Q t k (.returned (.tuple #[.agg #[.bool false,.int .i64 0,.slice none 0 0,.slice none 0 0,.slice none 0 0,.slice x0 k y0],.agg #[.bool false,.int .i64 0,.slice none 0 0,.slice none 0 0,.slice none 0 0,.slice x1 (t.kids.length - k) y1]])) W'):=by
   intro W' hf
   have hsz:V2.heap.size<=W'.heap.size:=hf.size
   have hbW:Below w.heap.size w W':=by
    rw[hN]
    exact bel2.trans ⟨hf.os,hf.tape,hf.output,hsz,fun g hg=>hf.block g (by show g<V2.heap.size;omega) (by omega)⟩
   have hX':=nodeX_up HX.out hbW
   have q0:=owns_keepG R0_2 (fun g hg=>hf.block g (R0_2.lt g hg).2 (by have:=(R0_2.lt g hg).1;omega))
   have q1:=owns_keepG R1_2 (fun g hg=>hf.block g (R1_2.lt g hg).2 (by have:=(R1_2.lt g hg).1;omega))
   have h6:∀ i,i<t.kids.length->(css i).length=6:=fun i hi=>(hX'.cells6 i hi).1
   obtain⟨eF,eR⟩:=rowsC_part h6 hk0
   rw[eF] at q0
   rw[eR] at q1
   obtain⟨_,_,e0,s0,s1,s2,s3⟩:=kids_own (fun i hi=>h6 i (by omega)) q0
   cases e0
   obtain⟨_,_,e1,u0,u1,u2,u3⟩:=kids_own (css:=fun i=>css (i+k)) (fun i hi=>h6 (i+k) (by omega)) q1
   cases e1
   obtain⟨hkd,hvd,hod⟩:=HP.out.2 HLF.out
   have lF:(t.fore k).kids.length=k:=by show (t.kids.take k).length=k;rw[List.length_take];omega
   have lR:(t.rest k).kids.length=t.kids.length - k:=by show (t.kids.drop k).length=_;rw[List.length_drop]
   have zF:(t.fore k).keys=[]∧(t.fore k).vals=[]∧(t.fore k).over=[]:=by simp[T.fore,hkd,hvd,hod]
   have zR:(t.rest k).keys=[]∧(t.rest k).vals=[]∧(t.rest k).over=[]:=by simp[T.rest,hkd,hvd,hod]
   have hbQ:∀ z cs,NodeQ w w.heap.size Q z cs->NodeQ W' W'.heap.size (fun g=>Q g∨w.heap.size<=g) z cs:=fun z cs h=>NodeQ.keep (fun g _ hg=>hbW.block g hg) (fun g hg=>.inl hg) hbW.size z cs h
   have kF:∀ i,∀ z ∈ (t.fore k).kids,(t.fore k).kids[i]?=some z->NodeQ W' W'.heap.size (fun g=>Q g∨w.heap.size<=g) z (css i):=fun i z hz hi=>by
    have hi':(t.kids.take k)[i]?=some z:=hi
    rw[List.getElem?_take] at hi'
    split at hi'
    ·exact hbQ _ _ (HXQ.out.kq i z (List.mem_of_getElem? hi') hi')
    ·cases hi'
   have kR:∀ i,∀ z ∈ (t.rest k).kids,(t.rest k).kids[i]?=some z->NodeQ W' W'.heap.size (fun g=>Q g∨w.heap.size<=g) z (css (i+k)):=fun i z hz hi=>by
    have hi':(t.kids.drop k)[i]?=some z:=hi
    rw[List.getElem?_drop,Nat.add_comm] at hi'
    exact hbQ _ _ (HXQ.out.kq (i+k) z (List.mem_of_getElem? hi') hi')
   have hq:∀ {a':Option Addr} {n':Nat},QA (fun g=>N+5<=g) a' n'->QA (fun g=>Q g∨w.heap.size<=g) a' n':=fun h=>h.mono (fun g hg=>.inr (by omega))
   have hn0:∀ {a':Option Addr},QA (fun g=>Q g∨w.heap.size<=g) a' 0:=fun h=>absurd h (by omega)
   refine⟨_,_,rfl,⟨none,0,0,none,0,0,none,0,0,x0,y0,css,?_,?_⟩,⟨none,0,0,none,0,0,none,0,0,x1,y1,fun i=>css (i+k),?_,?_⟩,hbW⟩
   ·rw[lF];simp[T.fore,HLF.out]
   ·refine⟨⟨(show I64 0 from ⟨by decide,by decide⟩),?_,?_,?_,?_,?_,fun i z hz hi=>(kF i z hz hi).is⟩,hn0,hn0,hn0,?_,kF⟩
    ·rw[zF.1];exact nilR _ _ _ _
    ·rw[zF.2.1];exact nilR _ _ _ _
    ·rw[zF.2.2];exact nilR _ _ _ _
    ·rw[lF];exact⟨s0,s1⟩
    ·rw[lF];exact s3
    ·rw[lF];exact hq (own_qa q0)
   ·rw[lR];simp[T.rest,HLF.out]
   ·refine⟨⟨(show I64 0 from ⟨by decide,by decide⟩),?_,?_,?_,?_,?_,fun i z hz hi=>(kR i z hz hi).is⟩,hn0,hn0,hn0,?_,kR⟩
    ·rw[zR.1];exact nilR _ _ _ _
    ·rw[zR.2.1];exact nilR _ _ _ _
    ·rw[zR.2.2];exact nilR _ _ _ _
    ·rw[lR];exact⟨u0,u1⟩
    ·rw[lR];exact u3
    ·rw[lR];exact hq (own_qa q1)
  have HF12:Hid _:=HEND.out _ f12
  clear HEND
  refine wp_region_noPanic ?_
  refine wp_region_held_drew (S:=(fun w':World=>w'.heap[N+3]?=some (.cells #[.bool false,.int .i64 0,.slice none 0 0,.slice none 0 0,.slice none 0 0,.slice x0 k y0] 47)∧w'.heap[N+4]?=some (.cells #[.bool false,.int .i64 0,.slice none 0 0,.slice none 0 0,.slice none 0 0,.slice x1 (t.kids.length - k) y1] 47))) (by kernel_rfl) (⟨bbA,bbB⟩) (fun hHeld=>?_)
  refine tY 0 (.agg #[.bool false,.int .i64 0,.slice none 0 0,.slice none 0 0,.slice none 0 0,.slice x0 k y0]) .z (by kernel_rfl) (by rfl) ?_ ‹_› ?_
  ·intro wq hSw;(try dsimp only at hSw);obtain⟨y0,y1,y2,y3,y4,y5⟩:=box6g hSw.1;go_simp
  refine tY 1 (.agg #[.bool false,.int .i64 0,.slice none 0 0,.slice none 0 0,.slice none 0 0,.slice x1 (t.kids.length - k) y1]) (.s .z) (by kernel_rfl) (by rfl) ?_ ‹_› ?_
  ·intro wq hSw;(try dsimp only at hSw);obtain⟨y0,y1,y2,y3,y4,y5⟩:=box6g hSw.2;go_simp
  try simp only[Act.put,q1,q2,q3]
  refine wpAnyH_ready (rs:=[2]) (by kernel_rfl) (by simp) ?_
  refine rdA (.s (.s .z)) (fun K hK=>?_) AllReadyH.nil
  obtain⟨m0,m1,m2,m3,m4,m5⟩:=box6g k1_2
  have ff:=thawT k1_2
  have l1e:N+1<V2.heap.size:=by omega
  go_simp
  clear m0 m1 m2 m3 m4 m5 ff l1e
  try rw[eX1]
  refine hK.out _ _ (hSd _ f1) (fun hHeld=>?_)
  clear hK K
  try simp only[Act.put,q1,q2,q3]
  refine wpAnyH_ready (rs:=[3]) (by kernel_rfl) (by simp) ?_
  refine rdA (.s (.s (.s .z))) (fun K hK=>?_) AllReadyH.nil
  obtain⟨m0,m1,m2,m3,m4,m5⟩:=box6g u12
  have ff:=thawT u12
  have l1e:N+2<X1.heap.size:=by omega
  go_simp
  clear m0 m1 m2 m3 m4 m5 ff l1e
  try rw[eX12]
  refine hK.out _ _ (hSd _ f12) (fun hHeld=>?_)
  clear hK K
  try simp only[Act.put,q1,q2,q3]
  refine wpAnyH_done (by kernel_rfl) ?_ _
  refine NoPanic.normal ?_
  obtain⟨m0,m1,m2,m3,m4,m5⟩:=box6g w12a
  obtain⟨n0,n1,n2,n3,n4,n5⟩:=box6g uX12
  clear hHeld
  go_wp2_with fail
  all_goals (refine bodyPost_ret (v:=.tuple #[.agg #[.bool false,.int .i64 0,.slice none 0 0,.slice none 0 0,.slice none 0 0,.slice x0 k y0],.agg #[.bool false,.int .i64 0,.slice none 0 0,.slice none 0 0,.slice none 0 0,.slice x1 (t.kids.length - k) y1]]) (by simp[results,Tryz.results31,go_sem,m0,m1,m2,m3,m4,m5,n0,n1,n2,n3,n4,n5]) rfl ?_;exact HF12.out)
 ·have HLF:Hid (t.leaf=true):=hl
  rw[hl] at bA0 bB0 k0
  have hk0:k<=kn:=by have:=HLA.out;have:=(HSZ.out w (Below.refl _ _)).1 hl;omega
  have hlen2:=(HP.out.1 hl).2
  have hk1:k<=vn:=by have:=HLA.out;omega
  have hk2:k<=on:=by have:=HLA.out;omega
  have hk3:=hk0
  have hk4':=hk1
  have hk5:=hk2
  have lf_:t.leaf=true:=hl
  rw[hl] at hW
  clear hX hsl hlen2
  go_enter Tryz.func31,Tryz.ntmps31
  go_upto_region 4 with fail
  rw[<-hW]
  clear hW
  have ss0:N+5<=W.heap.size:=by omega
  have k0_0:=k0
  have k1_0:=k1
  have k2_0:=k2
  have bel0:=hbw
  clear k0 k1 k2 hbw sW
  generalize W=V0 at *
  have aE0:Below V0.heap.size V0 (V0.alloc (.cells #[] 9)):=(Below.refl _ _).alloc (Nat.le_refl _) _
  have hE0:Below N V0 (V0.alloc (.cells #[] 9)):=aE0.mono (by omega)
  have sE0:V0.heap.size<=(V0.alloc (.cells #[] 9)).heap.size:=by simp
  have rE0:=emptyE V0 9 1 (N+5) (by omega)
  have src0:=(SK.out hl (V0.alloc (.cells #[] 9)) (bel0.trans hE0)).fore hk0
  obtain⟨p0,p1,p2,p3,p4,p5⟩:=box6g k0_0
  have lN0:N<V0.heap.size:=by omega
  have HNX0:Hid (∀ v' w4,w4.ownsRow (N+5) 9 1 v' (0+k) ([]++(rowsOf strCells t.keys).take (k*1))->(V0.alloc (.cells #[] 9)).grownBy w4 (Value.slice (some ⟨V0.heap.size,0,none⟩) 0 0).ownBlock->∃ x y,v'=.slice x k y∧w4.ownsRow (N+5) 9 1 (.slice x k y) k ((rowsOf strCells t.keys).take (k*1))∧w4.heap[N+3]?=some (.cells #[.bool true,.int .i64 0,.slice none 0 0,.slice none 0 0,.slice none 0 0,.slice none 0 0] 47)∧V0.heap.size<=w4.heap.size∧Below V0.heap.size V0 w4):=by
   intro v' w4 g1 g2
   rw[Nat.zero_add,List.nil_append] at g1
   obtain⟨x,y,rfl⟩:=own_shape g1
   have hb4:Below V0.heap.size V0 w4:=aE0.grown g2 sE0 (fun g e=>by have:=own_some e;omega)
   exact⟨x,y,rfl,g1,(hb4.block (N+3) (by omega)).trans bA0,hb4.size,hb4⟩
  go_upto_region 5 with (at_builtin;refine wpList_append_S _ rfl _ _ 43 rfl (N+5) 9 i1 _ 1 16 Tryz.underlying43 hi1 hp0 hp1 hp2 rfl (by decide) (by decide) _ 0 [] rfl rE0 (by omega) _ N k _ rfl src0 (by omega) ?_;intro v' w4 g1 g2 g3;obtain⟨x0,y0,rfl,R0,bx4,s4,hb4⟩:=HNX0.out v' w4 g1 g2;obtain⟨z0,z1,z2,z3,z4,z5⟩:=box6g bx4;have f4:=thawT bx4;have l4:=(Array.getElem?_eq_some_iff.1 bx4).1)
  have hst0:=fr_setT w4 (N+3) 2 (.slice x0 k y0)
  have bA1:(w4.setCell ⟨N+3,2,none⟩ (.slice x0 k y0)).heap[N+3]?=some (.cells #[.bool true,.int .i64 0,.slice x0 k y0,.slice none 0 0,.slice none 0 0,.slice none 0 0] 47):=by simpa using heap_setT bx4 2 (.slice x0 k y0)
  have hk4:∀ g,g<V0.heap.size->g≠N+3->(w4.setCell ⟨N+3,2,none⟩ (.slice x0 k y0)).heap[g]?=V0.heap[g]?:=fun g h1 h2=>(hst0.block g (by omega) h2).trans (hb4.block g h1)
  have bB1:=(hk4 (N+4) (by omega) (by omega)).trans bB0
  have k0_1:=(hk4 N (by omega) (by omega)).trans k0_0
  have k1_1:=(hk4 (N+1) (by omega) (by omega)).trans k1_0
  have k2_1:=(hk4 (N+2) (by omega) (by omega)).trans k2_0
  have R0_1:=owns_fr R0 hst0 (fun g hg e=>by have:=(R0.lt g hg).1;omega)
  have bel1:Below N w (w4.setCell ⟨N+3,2,none⟩ (.slice x0 k y0)):=bel0.trans ⟨hst0.os.trans hb4.os,hst0.tape.trans hb4.tape,hst0.output.trans hb4.output,Nat.le_trans hb4.size hst0.size,fun g hg=>hk4 g (by omega) (by omega)⟩
  have ss1:N+5<=(w4.setCell ⟨N+3,2,none⟩ (.slice x0 k y0)).heap.size:=by have:=hst0.size;omega
  generalize w4.setCell ⟨N+3,2,none⟩ (.slice x0 k y0)=V1 at *
  clear src0 HNX0 p0 p1 p2 p3 p4 p5 g1 g2 g3 aE0 hE0 sE0 rE0 z0 z1 z2 z3 z4 z5 f4 l4 bx4 s4 hb4 hk4 hst0 R0 bA0 bB0 k0_0 k1_0 k2_0 bel0 ss0 lN0 
  clear w4
  have aE1:Below V1.heap.size V1 (V1.alloc (.cells #[] 9)):=(Below.refl _ _).alloc (Nat.le_refl _) _
  have hE1:Below N V1 (V1.alloc (.cells #[] 9)):=aE1.mono (by omega)
  have sE1:V1.heap.size<=(V1.alloc (.cells #[] 9)).heap.size:=by simp
  have rE1:=emptyE V1 9 1 (N+5) (by omega)
  have src1:=(SV.out hl (V1.alloc (.cells #[] 9)) (bel1.trans hE1)).fore hk1
  obtain⟨p0,p1,p2,p3,p4,p5⟩:=box6g k0_1
  have lN1:N<V1.heap.size:=by omega
  have HNX1:Hid (∀ v' w4,w4.ownsRow (N+5) 9 1 v' (0+k) ([]++(rowsOf strCells t.vals).take (k*1))->(V1.alloc (.cells #[] 9)).grownBy w4 (Value.slice (some ⟨V1.heap.size,0,none⟩) 0 0).ownBlock->∃ x y,v'=.slice x k y∧w4.ownsRow (N+5) 9 1 (.slice x k y) k ((rowsOf strCells t.vals).take (k*1))∧w4.heap[N+3]?=some (.cells #[.bool true,.int .i64 0,.slice x0 k y0,.slice none 0 0,.slice none 0 0,.slice none 0 0] 47)∧V1.heap.size<=w4.heap.size∧Below V1.heap.size V1 w4):=by
   intro v' w4 g1 g2
   rw[Nat.zero_add,List.nil_append] at g1
   obtain⟨x,y,rfl⟩:=own_shape g1
   have hb4:Below V1.heap.size V1 w4:=aE1.grown g2 sE1 (fun g e=>by have:=own_some e;omega)
   exact⟨x,y,rfl,g1,(hb4.block (N+3) (by omega)).trans bA1,hb4.size,hb4⟩
  go_upto_region 6 with (at_builtin;refine wpList_append_S _ rfl _ _ 43 rfl (N+5) 9 i1 _ 1 16 Tryz.underlying43 hi1 hp0 hp1 hp2 rfl (by decide) (by decide) _ 0 [] rfl rE1 (by omega) _ N k _ rfl src1 (by omega) ?_;intro v' w4 g1 g2 g3;obtain⟨x1,y1,rfl,R1,bx4,s4,hb4⟩:=HNX1.out v' w4 g1 g2;obtain⟨z0,z1,z2,z3,z4,z5⟩:=box6g bx4;have f4:=thawT bx4;have l4:=(Array.getElem?_eq_some_iff.1 bx4).1)
  have hst1:=fr_setT w4 (N+3) 3 (.slice x1 k y1)
  have bA2:(w4.setCell ⟨N+3,3,none⟩ (.slice x1 k y1)).heap[N+3]?=some (.cells #[.bool true,.int .i64 0,.slice x0 k y0,.slice x1 k y1,.slice none 0 0,.slice none 0 0] 47):=by simpa using heap_setT bx4 3 (.slice x1 k y1)
  have hk4:∀ g,g<V1.heap.size->g≠N+3->(w4.setCell ⟨N+3,3,none⟩ (.slice x1 k y1)).heap[g]?=V1.heap[g]?:=fun g h1 h2=>(hst1.block g (by omega) h2).trans (hb4.block g h1)
  have bB2:=(hk4 (N+4) (by omega) (by omega)).trans bB1
  have k0_2:=(hk4 N (by omega) (by omega)).trans k0_1
  have k1_2:=(hk4 (N+1) (by omega) (by omega)).trans k1_1
  have k2_2:=(hk4 (N+2) (by omega) (by omega)).trans k2_1
  have R0_2:=owns_keepG R0_1 (fun g hg=>hk4 g (by have:=(R0_1.lt g hg).2;omega) (by have:=(R0_1.lt g hg).1;omega))
  have R1_2:=owns_fr R1 hst1 (fun g hg e=>by have:=(R1.lt g hg).1;omega)
  have bel2:Below N w (w4.setCell ⟨N+3,3,none⟩ (.slice x1 k y1)):=bel1.trans ⟨hst1.os.trans hb4.os,hst1.tape.trans hb4.tape,hst1.output.trans hb4.output,Nat.le_trans hb4.size hst1.size,fun g hg=>hk4 g (by omega) (by omega)⟩
  have ss2:N+5<=(w4.setCell ⟨N+3,3,none⟩ (.slice x1 k y1)).heap.size:=by have:=hst1.size;omega
  generalize w4.setCell ⟨N+3,3,none⟩ (.slice x1 k y1)=V2 at *
  clear src1 HNX1 p0 p1 p2 p3 p4 p5 g1 g2 g3 aE1 hE1 sE1 rE1 z0 z1 z2 z3 z4 z5 f4 l4 bx4 s4 hb4 hk4 hst1 R1 bA1 bB1 k0_1 k1_1 k2_1 bel1 ss1 lN1 R0_1
  clear w4
  have aE2:Below V2.heap.size V2 (V2.alloc (.cells #[] 2)):=(Below.refl _ _).alloc (Nat.le_refl _) _
  have hE2:Below N V2 (V2.alloc (.cells #[] 2)):=aE2.mono (by omega)
  have sE2:V2.heap.size<=(V2.alloc (.cells #[] 2)).heap.size:=by simp
  have rE2:=emptyE V2 2 1 (N+5) (by omega)
  have src2:=(SO.out hl (V2.alloc (.cells #[] 2)) (bel2.trans hE2)).fore hk2
  obtain⟨p0,p1,p2,p3,p4,p5⟩:=box6g k0_2
  have lN2:N<V2.heap.size:=by omega
  have HNX2:Hid (∀ v' w4,w4.ownsRow (N+5) 2 1 v' (0+k) ([]++(rowsOf intCells t.over).take (k*1))->(V2.alloc (.cells #[] 2)).grownBy w4 (Value.slice (some ⟨V2.heap.size,0,none⟩) 0 0).ownBlock->∃ x y,v'=.slice x k y∧w4.ownsRow (N+5) 2 1 (.slice x k y) k ((rowsOf intCells t.over).take (k*1))∧w4.heap[N+3]?=some (.cells #[.bool true,.int .i64 0,.slice x0 k y0,.slice x1 k y1,.slice none 0 0,.slice none 0 0] 47)∧V2.heap.size<=w4.heap.size∧Below V2.heap.size V2 w4):=by
   intro v' w4 g1 g2
   rw[Nat.zero_add,List.nil_append] at g1
   obtain⟨x,y,rfl⟩:=own_shape g1
   have hb4:Below V2.heap.size V2 w4:=aE2.grown g2 sE2 (fun g e=>by have:=own_some e;omega)
   exact⟨x,y,rfl,g1,(hb4.block (N+3) (by omega)).trans bA2,hb4.size,hb4⟩
  go_upto_region 7 with (at_builtin;refine wpList_append_S _ rfl _ _ 44 rfl (N+5) 2 i2 _ 1 8 Tryz.underlying44 hi2 hq0 hq1 hq2 rfl (by decide) (by decide) _ 0 [] rfl rE2 (by omega) _ N k _ rfl src2 (by omega) ?_;intro v' w4 g1 g2 g3;obtain⟨x2,y2,rfl,R2,bx4,s4,hb4⟩:=HNX2.out v' w4 g1 g2;obtain⟨z0,z1,z2,z3,z4,z5⟩:=box6g bx4;have f4:=thawT bx4;have l4:=(Array.getElem?_eq_some_iff.1 bx4).1)
  have hst2:=fr_setT w4 (N+3) 4 (.slice x2 k y2)
  have bA3:(w4.setCell ⟨N+3,4,none⟩ (.slice x2 k y2)).heap[N+3]?=some (.cells #[.bool true,.int .i64 0,.slice x0 k y0,.slice x1 k y1,.slice x2 k y2,.slice none 0 0] 47):=by simpa using heap_setT bx4 4 (.slice x2 k y2)
  have hk4:∀ g,g<V2.heap.size->g≠N+3->(w4.setCell ⟨N+3,4,none⟩ (.slice x2 k y2)).heap[g]?=V2.heap[g]?:=fun g h1 h2=>(hst2.block g (by omega) h2).trans (hb4.block g h1)
  have bB3:=(hk4 (N+4) (by omega) (by omega)).trans bB2
  have k0_3:=(hk4 N (by omega) (by omega)).trans k0_2
  have k1_3:=(hk4 (N+1) (by omega) (by omega)).trans k1_2
  have k2_3:=(hk4 (N+2) (by omega) (by omega)).trans k2_2
  have R0_3:=owns_keepG R0_2 (fun g hg=>hk4 g (by have:=(R0_2.lt g hg).2;omega) (by have:=(R0_2.lt g hg).1;omega))
  have R1_3:=owns_keepG R1_2 (fun g hg=>hk4 g (by have:=(R1_2.lt g hg).2;omega) (by have:=(R1_2.lt g hg).1;omega))
  have R2_3:=owns_fr R2 hst2 (fun g hg e=>by have:=(R2.lt g hg).1;omega)
  have bel3:Below N w (w4.setCell ⟨N+3,4,none⟩ (.slice x2 k y2)):=bel2.trans ⟨hst2.os.trans hb4.os,hst2.tape.trans hb4.tape,hst2.output.trans hb4.output,Nat.le_trans hb4.size hst2.size,fun g hg=>hk4 g (by omega) (by omega)⟩
  have ss3:N+5<=(w4.setCell ⟨N+3,4,none⟩ (.slice x2 k y2)).heap.size:=by have:=hst2.size;omega
  generalize w4.setCell ⟨N+3,4,none⟩ (.slice x2 k y2)=V3 at *
  clear src2 HNX2 p0 p1 p2 p3 p4 p5 g1 g2 g3 aE2 hE2 sE2 rE2 z0 z1 z2 z3 z4 z5 f4 l4 bx4 s4 hb4 hk4 hst2 R2 bA2 bB2 k0_2 k1_2 k2_2 bel2 ss2 lN2 R0_2 R1_2
  clear w4
  have aE3:Below V3.heap.size V3 (V3.alloc (.cells #[] 9)):=(Below.refl _ _).alloc (Nat.le_refl _) _
  have hE3:Below N V3 (V3.alloc (.cells #[] 9)):=aE3.mono (by omega)
  have sE3:V3.heap.size<=(V3.alloc (.cells #[] 9)).heap.size:=by simp
  have rE3:=emptyE V3 9 1 (N+5) (by omega)
  have src3:=(SK.out hl (V3.alloc (.cells #[] 9)) (bel3.trans hE3)).rest hk3 hkc
  rw[Nat.mul_one] at src3
  obtain⟨p0,p1,p2,p3,p4,p5⟩:=box6g k0_3
  have lN3:N<V3.heap.size:=by omega
  have HNX3:Hid (∀ v' w4,w4.ownsRow (N+5) 9 1 v' (0+(kn - k)) ([]++(rowsOf strCells t.keys).drop k)->(V3.alloc (.cells #[] 9)).grownBy w4 (Value.slice (some ⟨V3.heap.size,0,none⟩) 0 0).ownBlock->∃ x y,v'=.slice x (kn - k) y∧w4.ownsRow (N+5) 9 1 (.slice x (kn - k) y) (kn - k) ((rowsOf strCells t.keys).drop k)∧w4.heap[N+4]?=some (.cells #[.bool true,.int .i64 0,.slice none 0 0,.slice none 0 0,.slice none 0 0,.slice none 0 0] 47)∧V3.heap.size<=w4.heap.size∧Below V3.heap.size V3 w4):=by
   intro v' w4 g1 g2
   rw[Nat.zero_add,List.nil_append] at g1
   obtain⟨x,y,rfl⟩:=own_shape g1
   have hb4:Below V3.heap.size V3 w4:=aE3.grown g2 sE3 (fun g e=>by have:=own_some e;omega)
   exact⟨x,y,rfl,g1,(hb4.block (N+4) (by omega)).trans bB3,hb4.size,hb4⟩
  go_upto_region 8 with (at_builtin;refine wpList_append_S _ rfl _ _ 43 rfl (N+5) 9 i1 _ 1 16 Tryz.underlying43 hi1 hp0 hp1 hp2 rfl (by decide) (by decide) _ 0 [] rfl rE3 (by omega) _ N (kn - k) _ rfl src3 (by omega) ?_;intro v' w4 g1 g2 g3;obtain⟨x3,y3,rfl,R3,bx4,s4,hb4⟩:=HNX3.out v' w4 g1 g2;obtain⟨z0,z1,z2,z3,z4,z5⟩:=box6g bx4;have f4:=thawT bx4;have l4:=(Array.getElem?_eq_some_iff.1 bx4).1)
  have hst3:=fr_setT w4 (N+4) 2 (.slice x3 (kn - k) y3)
  have bB4:(w4.setCell ⟨N+4,2,none⟩ (.slice x3 (kn - k) y3)).heap[N+4]?=some (.cells #[.bool true,.int .i64 0,.slice x3 (kn - k) y3,.slice none 0 0,.slice none 0 0,.slice none 0 0] 47):=by simpa using heap_setT bx4 2 (.slice x3 (kn - k) y3)
  have hk4:∀ g,g<V3.heap.size->g≠N+4->(w4.setCell ⟨N+4,2,none⟩ (.slice x3 (kn - k) y3)).heap[g]?=V3.heap[g]?:=fun g h1 h2=>(hst3.block g (by omega) h2).trans (hb4.block g h1)
  have bA4:=(hk4 (N+3) (by omega) (by omega)).trans bA3
  have k0_4:=(hk4 N (by omega) (by omega)).trans k0_3
  have k1_4:=(hk4 (N+1) (by omega) (by omega)).trans k1_3
  have k2_4:=(hk4 (N+2) (by omega) (by omega)).trans k2_3
  have R0_4:=owns_keepG R0_3 (fun g hg=>hk4 g (by have:=(R0_3.lt g hg).2;omega) (by have:=(R0_3.lt g hg).1;omega))
  have R1_4:=owns_keepG R1_3 (fun g hg=>hk4 g (by have:=(R1_3.lt g hg).2;omega) (by have:=(R1_3.lt g hg).1;omega))
  have R2_4:=owns_keepG R2_3 (fun g hg=>hk4 g (by have:=(R2_3.lt g hg).2;omega) (by have:=(R2_3.lt g hg).1;omega))
  have R3_4:=owns_fr R3 hst3 (fun g hg e=>by have:=(R3.lt g hg).1;omega)
  have bel4:Below N w (w4.setCell ⟨N+4,2,none⟩ (.slice x3 (kn - k) y3)):=bel3.trans ⟨hst3.os.trans hb4.os,hst3.tape.trans hb4.tape,hst3.output.trans hb4.output,Nat.le_trans hb4.size hst3.size,fun g hg=>hk4 g (by omega) (by omega)⟩
  have ss4:N+5<=(w4.setCell ⟨N+4,2,none⟩ (.slice x3 (kn - k) y3)).heap.size:=by have:=hst3.size;omega
  generalize w4.setCell ⟨N+4,2,none⟩ (.slice x3 (kn - k) y3)=V4 at *
  clear src3 HNX3 p0 p1 p2 p3 p4 p5 g1 g2 g3 aE3 hE3 sE3 rE3 z0 z1 z2 z3 z4 z5 f4 l4 bx4 s4 hb4 hk4 hst3 R3 bB3 bA3 k0_3 k1_3 k2_3 bel3 ss3 lN3 R0_3 R1_3 R2_3
  clear w4
  have aE4:Below V4.heap.size V4 (V4.alloc (.cells #[] 9)):=(Below.refl _ _).alloc (Nat.le_refl _) _
  have hE4:Below N V4 (V4.alloc (.cells #[] 9)):=aE4.mono (by omega)
  have sE4:V4.heap.size<=(V4.alloc (.cells #[] 9)).heap.size:=by simp
  have rE4:=emptyE V4 9 1 (N+5) (by omega)
  have src4:=(SV.out hl (V4.alloc (.cells #[] 9)) (bel4.trans hE4)).rest hk4' hvc
  rw[Nat.mul_one] at src4
  obtain⟨p0,p1,p2,p3,p4,p5⟩:=box6g k0_4
  have lN4:N<V4.heap.size:=by omega
  have HNX4:Hid (∀ v' w4,w4.ownsRow (N+5) 9 1 v' (0+(vn - k)) ([]++(rowsOf strCells t.vals).drop k)->(V4.alloc (.cells #[] 9)).grownBy w4 (Value.slice (some ⟨V4.heap.size,0,none⟩) 0 0).ownBlock->∃ x y,v'=.slice x (vn - k) y∧w4.ownsRow (N+5) 9 1 (.slice x (vn - k) y) (vn - k) ((rowsOf strCells t.vals).drop k)∧w4.heap[N+4]?=some (.cells #[.bool true,.int .i64 0,.slice x3 (kn - k) y3,.slice none 0 0,.slice none 0 0,.slice none 0 0] 47)∧V4.heap.size<=w4.heap.size∧Below V4.heap.size V4 w4):=by
   intro v' w4 g1 g2
   rw[Nat.zero_add,List.nil_append] at g1
   obtain⟨x,y,rfl⟩:=own_shape g1
   have hb4:Below V4.heap.size V4 w4:=aE4.grown g2 sE4 (fun g e=>by have:=own_some e;omega)
   exact⟨x,y,rfl,g1,(hb4.block (N+4) (by omega)).trans bB4,hb4.size,hb4⟩
  go_upto_region 9 with (at_builtin;refine wpList_append_S _ rfl _ _ 43 rfl (N+5) 9 i1 _ 1 16 Tryz.underlying43 hi1 hp0 hp1 hp2 rfl (by decide) (by decide) _ 0 [] rfl rE4 (by omega) _ N (vn - k) _ rfl src4 (by omega) ?_;intro v' w4 g1 g2 g3;obtain⟨x4,y4,rfl,R4,bx4,s4,hb4⟩:=HNX4.out v' w4 g1 g2;obtain⟨z0,z1,z2,z3,z4,z5⟩:=box6g bx4;have f4:=thawT bx4;have l4:=(Array.getElem?_eq_some_iff.1 bx4).1)
  have hst4:=fr_setT w4 (N+4) 3 (.slice x4 (vn - k) y4)
  have bB5:(w4.setCell ⟨N+4,3,none⟩ (.slice x4 (vn - k) y4)).heap[N+4]?=some (.cells #[.bool true,.int .i64 0,.slice x3 (kn - k) y3,.slice x4 (vn - k) y4,.slice none 0 0,.slice none 0 0] 47):=by simpa using heap_setT bx4 3 (.slice x4 (vn - k) y4)
  have hk4:∀ g,g<V4.heap.size->g≠N+4->(w4.setCell ⟨N+4,3,none⟩ (.slice x4 (vn - k) y4)).heap[g]?=V4.heap[g]?:=fun g h1 h2=>(hst4.block g (by omega) h2).trans (hb4.block g h1)
  have bA5:=(hk4 (N+3) (by omega) (by omega)).trans bA4
  have k0_5:=(hk4 N (by omega) (by omega)).trans k0_4
  have k1_5:=(hk4 (N+1) (by omega) (by omega)).trans k1_4
  have k2_5:=(hk4 (N+2) (by omega) (by omega)).trans k2_4
  have R0_5:=owns_keepG R0_4 (fun g hg=>hk4 g (by have:=(R0_4.lt g hg).2;omega) (by have:=(R0_4.lt g hg).1;omega))
  have R1_5:=owns_keepG R1_4 (fun g hg=>hk4 g (by have:=(R1_4.lt g hg).2;omega) (by have:=(R1_4.lt g hg).1;omega))
  have R2_5:=owns_keepG R2_4 (fun g hg=>hk4 g (by have:=(R2_4.lt g hg).2;omega) (by have:=(R2_4.lt g hg).1;omega))
  have R3_5:=owns_keepG R3_4 (fun g hg=>hk4 g (by have:=(R3_4.lt g hg).2;omega) (by have:=(R3_4.lt g hg).1;omega))
  have R4_5:=owns_fr R4 hst4 (fun g hg e=>by have:=(R4.lt g hg).1;omega)
  have bel5:Below N w (w4.setCell ⟨N+4,3,none⟩ (.slice x4 (vn - k) y4)):=bel4.trans ⟨hst4.os.trans hb4.os,hst4.tape.trans hb4.tape,hst4.output.trans hb4.output,Nat.le_trans hb4.size hst4.size,fun g hg=>hk4 g (by omega) (by omega)⟩
  have ss5:N+5<=(w4.setCell ⟨N+4,3,none⟩ (.slice x4 (vn - k) y4)).heap.size:=by have:=hst4.size;omega
  generalize w4.setCell ⟨N+4,3,none⟩ (.slice x4 (vn - k) y4)=V5 at *
  clear src4 HNX4 p0 p1 p2 p3 p4 p5 g1 g2 g3 aE4 hE4 sE4 rE4 z0 z1 z2 z3 z4 z5 f4 l4 bx4 s4 hb4 hk4 hst4 R4 bB4 bA4 k0_4 k1_4 k2_4 bel4 ss4 lN4 R0_4 R1_4 R2_4 R3_4
  clear w4
  have aE5:Below V5.heap.size V5 (V5.alloc (.cells #[] 2)):=(Below.refl _ _).alloc (Nat.le_refl _) _
  have hE5:Below N V5 (V5.alloc (.cells #[] 2)):=aE5.mono (by omega)
  have sE5:V5.heap.size<=(V5.alloc (.cells #[] 2)).heap.size:=by simp
  have rE5:=emptyE V5 2 1 (N+5) (by omega)
  have src5:=(SO.out hl (V5.alloc (.cells #[] 2)) (bel5.trans hE5)).rest hk5 hoc
  rw[Nat.mul_one] at src5
  obtain⟨p0,p1,p2,p3,p4,p5⟩:=box6g k0_5
  have lN5:N<V5.heap.size:=by omega
  have HNX5:Hid (∀ v' w4,w4.ownsRow (N+5) 2 1 v' (0+(on - k)) ([]++(rowsOf intCells t.over).drop k)->(V5.alloc (.cells #[] 2)).grownBy w4 (Value.slice (some ⟨V5.heap.size,0,none⟩) 0 0).ownBlock->∃ x y,v'=.slice x (on - k) y∧w4.ownsRow (N+5) 2 1 (.slice x (on - k) y) (on - k) ((rowsOf intCells t.over).drop k)∧w4.heap[N+4]?=some (.cells #[.bool true,.int .i64 0,.slice x3 (kn - k) y3,.slice x4 (vn - k) y4,.slice none 0 0,.slice none 0 0] 47)∧V5.heap.size<=w4.heap.size∧Below V5.heap.size V5 w4):=by
   intro v' w4 g1 g2
   rw[Nat.zero_add,List.nil_append] at g1
   obtain⟨x,y,rfl⟩:=own_shape g1
   have hb4:Below V5.heap.size V5 w4:=aE5.grown g2 sE5 (fun g e=>by have:=own_some e;omega)
   exact⟨x,y,rfl,g1,(hb4.block (N+4) (by omega)).trans bB5,hb4.size,hb4⟩
  go_upto_region 10 with (at_builtin;refine wpList_append_S _ rfl _ _ 44 rfl (N+5) 2 i2 _ 1 8 Tryz.underlying44 hi2 hq0 hq1 hq2 rfl (by decide) (by decide) _ 0 [] rfl rE5 (by omega) _ N (on - k) _ rfl src5 (by omega) ?_;intro v' w4 g1 g2 g3;obtain⟨x5,y5,rfl,R5,bx4,s4,hb4⟩:=HNX5.out v' w4 g1 g2;obtain⟨z0,z1,z2,z3,z4,z5⟩:=box6g bx4;have f4:=thawT bx4;have l4:=(Array.getElem?_eq_some_iff.1 bx4).1)
  have hst5:=fr_setT w4 (N+4) 4 (.slice x5 (on - k) y5)
  have bB6:(w4.setCell ⟨N+4,4,none⟩ (.slice x5 (on - k) y5)).heap[N+4]?=some (.cells #[.bool true,.int .i64 0,.slice x3 (kn - k) y3,.slice x4 (vn - k) y4,.slice x5 (on - k) y5,.slice none 0 0] 47):=by simpa using heap_setT bx4 4 (.slice x5 (on - k) y5)
  have hk4:∀ g,g<V5.heap.size->g≠N+4->(w4.setCell ⟨N+4,4,none⟩ (.slice x5 (on - k) y5)).heap[g]?=V5.heap[g]?:=fun g h1 h2=>(hst5.block g (by omega) h2).trans (hb4.block g h1)
  have bA6:=(hk4 (N+3) (by omega) (by omega)).trans bA5
  have k0_6:=(hk4 N (by omega) (by omega)).trans k0_5
  have k1_6:=(hk4 (N+1) (by omega) (by omega)).trans k1_5
  have k2_6:=(hk4 (N+2) (by omega) (by omega)).trans k2_5
  have R0_6:=owns_keepG R0_5 (fun g hg=>hk4 g (by have:=(R0_5.lt g hg).2;omega) (by have:=(R0_5.lt g hg).1;omega))
  have R1_6:=owns_keepG R1_5 (fun g hg=>hk4 g (by have:=(R1_5.lt g hg).2;omega) (by have:=(R1_5.lt g hg).1;omega))
  have R2_6:=owns_keepG R2_5 (fun g hg=>hk4 g (by have:=(R2_5.lt g hg).2;omega) (by have:=(R2_5.lt g hg).1;omega))
  have R3_6:=owns_keepG R3_5 (fun g hg=>hk4 g (by have:=(R3_5.lt g hg).2;omega) (by have:=(R3_5.lt g hg).1;omega))
  have R4_6:=owns_keepG R4_5 (fun g hg=>hk4 g (by have:=(R4_5.lt g hg).2;omega) (by have:=(R4_5.lt g hg).1;omega))
  have R5_6:=owns_fr R5 hst5 (fun g hg e=>by have:=(R5.lt g hg).1;omega)
  have bel6:Below N w (w4.setCell ⟨N+4,4,none⟩ (.slice x5 (on - k) y5)):=bel5.trans ⟨hst5.os.trans hb4.os,hst5.tape.trans hb4.tape,hst5.output.trans hb4.output,Nat.le_trans hb4.size hst5.size,fun g hg=>hk4 g (by omega) (by omega)⟩
  have ss6:N+5<=(w4.setCell ⟨N+4,4,none⟩ (.slice x5 (on - k) y5)).heap.size:=by have:=hst5.size;omega
  generalize w4.setCell ⟨N+4,4,none⟩ (.slice x5 (on - k) y5)=V6 at *
  clear src5 HNX5 p0 p1 p2 p3 p4 p5 g1 g2 g3 aE5 hE5 sE5 rE5 z0 z1 z2 z3 z4 z5 f4 l4 bx4 s4 hb4 hk4 hst5 R5 bB5 bA5 k0_5 k1_5 k2_5 bel5 ss5 lN5 R0_5 R1_5 R2_5 R3_5 R4_5
  clear w4
  have kk1:V6.drew.heap[N+1]?=some (.cells #[.bool false,.int .i64 0,.slice none 0 0,.slice none 0 0,.slice none 0 0,.slice none 0 0] 47):=k1_6
  have kk2:V6.drew.heap[N+2]?=some (.cells #[.bool false,.int .i64 0,.slice none 0 0,.slice none 0 0,.slice none 0 0,.slice none 0 0] 47):=k2_6
  have bbA:V6.drew.heap[N+3]?=some (.cells #[.bool true,.int .i64 0,.slice x0 k y0,.slice x1 k y1,.slice x2 k y2,.slice none 0 0] 47):=bA6
  have bbB:V6.drew.heap[N+4]?=some (.cells #[.bool true,.int .i64 0,.slice x3 (kn - k) y3,.slice x4 (vn - k) y4,.slice x5 (on - k) y5,.slice none 0 0] 47):=bB6
  have hSd:∀ W',Fr (fun g=>g=N+1∨g=N+2) V6.drew W'->W'.heap[N+3]?=some (.cells #[.bool true,.int .i64 0,.slice x0 k y0,.slice x1 k y1,.slice x2 k y2,.slice none 0 0] 47)∧W'.heap[N+4]?=some (.cells #[.bool true,.int .i64 0,.slice x3 (kn - k) y3,.slice x4 (vn - k) y4,.slice x5 (on - k) y5,.slice none 0 0] 47):=fun W' hf=>⟨(hf.block (N+3) (by show N+3<V6.heap.size;omega) (by omega)).trans bbA,(hf.block (N+4) (by show N+4<V6.heap.size;omega) (by omega)).trans bbB⟩
  obtain⟨X1,hX1⟩:∃ X,put6T V6.drew (N+1) (.bool true) (.int .i64 0) (.slice x0 k y0) (.slice x1 k y1) (.slice x2 k y2) (.slice none 0 0)=X:=⟨_,rfl⟩
  have eX1:((((((V6.setCell ⟨N+1,0,none⟩ (.bool true)).setCell ⟨N+1,1,none⟩ (.int .i64 0)).setCell ⟨N+1,2,none⟩ (.slice x0 k y0)).setCell ⟨N+1,3,none⟩ (.slice x1 k y1)).setCell ⟨N+1,4,none⟩ (.slice x2 k y2)).setCell ⟨N+1,5,none⟩ (.slice none 0 0)).drew=X1:=(put6T_dr V6 (N+1) (.bool true) (.int .i64 0) (.slice x0 k y0) (.slice x1 k y1) (.slice x2 k y2) (.slice none 0 0)).trans hX1
  have gX1:=put6T_fr V6.drew (N+1) (.bool true) (.int .i64 0) (.slice x0 k y0) (.slice x1 k y1) (.slice x2 k y2) (.slice none 0 0)
  have uX1:=put6T_box kk1 (.bool true) (.int .i64 0) (.slice x0 k y0) (.slice x1 k y1) (.slice x2 k y2) (.slice none 0 0)
  rw[hX1] at gX1 uX1
  clear hX1
  have f1:Fr (fun g=>g=N+1∨g=N+2) V6.drew X1:=gX1.weak (fun g e=>.inl e)
  have u12:=(gX1.block (N+2) (by show N+2<V6.heap.size;omega) (by omega)).trans kk2
  obtain⟨X12,hX12⟩:∃ X,put6T X1 (N+2) (.bool true) (.int .i64 0) (.slice x3 (kn - k) y3) (.slice x4 (vn - k) y4) (.slice x5 (on - k) y5) (.slice none 0 0)=X:=⟨_,rfl⟩
  have eX12:((((((X1.setCell ⟨N+2,0,none⟩ (.bool true)).setCell ⟨N+2,1,none⟩ (.int .i64 0)).setCell ⟨N+2,2,none⟩ (.slice x3 (kn - k) y3)).setCell ⟨N+2,3,none⟩ (.slice x4 (vn - k) y4)).setCell ⟨N+2,4,none⟩ (.slice x5 (on - k) y5)).setCell ⟨N+2,5,none⟩ (.slice none 0 0))=X12:=(put6T_eq X1 (N+2) (.bool true) (.int .i64 0) (.slice x3 (kn - k) y3) (.slice x4 (vn - k) y4) (.slice x5 (on - k) y5) (.slice none 0 0)).trans hX12
  have gX12:=put6T_fr X1 (N+2) (.bool true) (.int .i64 0) (.slice x3 (kn - k) y3) (.slice x4 (vn - k) y4) (.slice x5 (on - k) y5) (.slice none 0 0)
  have uX12:=put6T_box u12 (.bool true) (.int .i64 0) (.slice x3 (kn - k) y3) (.slice x4 (vn - k) y4) (.slice x5 (on - k) y5) (.slice none 0 0)
  rw[hX12] at gX12 uX12
  clear hX12
  have f12:Fr (fun g=>g=N+1∨g=N+2) V6.drew X12:=f1.trans (gX12.weak (fun g e=>.inr e))
  have h9:V6.drew.heap.size=V6.heap.size:=rfl
  have s1:=gX1.size
  rw[h9] at s1
  clear h9
  have w12a:=(gX12.block (N+1) (by omega) (by omega)).trans uX1
  have HEND:Hid (∀ W',Fr (fun g=>g=N+1∨g=N+2) V6.drew W'->PartS w Q t k (.returned (.tuple #[.agg #[.bool true,.int .i64 0,.slice x0 k y0,.slice x1 k y1,.slice x2 k y2,.slice none 0 0],.agg #[.bool true,.int .i64 0,.slice x3 (kn - k) y3,.slice x4 (vn - k) y4,.slice x5 (on - k) y5,.slice none 0 0]])) W'):=by
   intro W' hf
   have hX':=HX.out
   have hsz:V6.heap.size<=W'.heap.size:=hf.size
   have hbW:Below w.heap.size w W':=by
    rw[hN]
    exact bel6.trans ⟨hf.os,hf.tape,hf.output,hsz,fun g hg=>hf.block g (by show g<V6.heap.size;omega) (by omega)⟩
   have q0:=owns_keepG R0_6 (fun g hg=>hf.block g (R0_6.lt g hg).2 (by have:=(R0_6.lt g hg).1;omega))
   have q1:=owns_keepG R1_6 (fun g hg=>hf.block g (R1_6.lt g hg).2 (by have:=(R1_6.lt g hg).1;omega))
   have q2:=owns_keepG R2_6 (fun g hg=>hf.block g (R2_6.lt g hg).2 (by have:=(R2_6.lt g hg).1;omega))
   have q3:=owns_keepG R3_6 (fun g hg=>hf.block g (R3_6.lt g hg).2 (by have:=(R3_6.lt g hg).1;omega))
   have q4:=owns_keepG R4_6 (fun g hg=>hf.block g (R4_6.lt g hg).2 (by have:=(R4_6.lt g hg).1;omega))
   have q5:=owns_keepG R5_6 (fun g hg=>hf.block g (R5_6.lt g hg).2 (by have:=(R5_6.lt g hg).1;omega))
   rw[<-rowsOf_takeG sc1] at q0 q1
   rw[<-rowsOf_takeG ic1] at q2
   rw[<-drop1 sc1] at q3 q4
   rw[<-drop1 ic1] at q5
   obtain⟨_,_,e0,s0⟩:=rowsAt_own (fit:=strFit) (d:=ByteArray.empty) sc1 q0 (fun x hx=>rowsAt_fits hX'.keys x (List.mem_of_mem_take hx))
   cases e0
   obtain⟨_,_,e1,s1⟩:=rowsAt_own (fit:=strFit) (d:=ByteArray.empty) sc1 q1 (fun x hx=>rowsAt_fits hX'.vals x (List.mem_of_mem_take hx))
   cases e1
   obtain⟨_,_,e2,s2⟩:=rowsAt_own (fit:=I64) (d:=0) ic1 q2 (fun x hx=>rowsAt_fits hX'.over x (List.mem_of_mem_take hx))
   cases e2
   obtain⟨_,_,e3,s3⟩:=rowsAt_own (fit:=strFit) (d:=ByteArray.empty) sc1 q3 (fun x hx=>rowsAt_fits hX'.keys x (List.mem_of_mem_drop hx))
   cases e3
   obtain⟨_,_,e4,s4⟩:=rowsAt_own (fit:=strFit) (d:=ByteArray.empty) sc1 q4 (fun x hx=>rowsAt_fits hX'.vals x (List.mem_of_mem_drop hx))
   cases e4
   obtain⟨_,_,e5,s5⟩:=rowsAt_own (fit:=I64) (d:=0) ic1 q5 (fun x hx=>rowsAt_fits hX'.over x (List.mem_of_mem_drop hx))
   cases e5
   have hkd:=(HP.out.1 HLF.out).1
   have hq:∀ {a':Option Addr} {n':Nat},QA (fun g=>N+5<=g) a' n'->QA (fun g=>Q g∨w.heap.size<=g) a' n':=fun h=>h.mono (fun g hg=>.inr (by omega))
   refine⟨_,_,rfl,⟨x0,k,y0,x1,k,y1,x2,k,y2,none,0,fun _=>[],?_,?_⟩,⟨x3,kn - k,y3,x4,vn - k,y4,x5,on - k,y5,none,0,fun _=>[],?_,?_⟩,hbW⟩
   ·simp[T.fore,HLF.out,hkd]
   ·exact⟨⟨(show I64 0 from ⟨by decide,by decide⟩),s0,s1,s2,by simp[T.fore,hkd],fun h0=>by simp[T.fore,hkd] at h0,fun i z hz=>by simp[T.fore,hkd] at hz⟩,hq (own_qa q0),hq (own_qa q1),hq (own_qa q2),fun h0=>by simp[T.fore,hkd] at h0,fun i z hz=>by simp[T.fore,hkd] at hz⟩
   ·simp[T.rest,HLF.out,hkd]
   ·exact⟨⟨(show I64 0 from ⟨by decide,by decide⟩),s3,s4,s5,by simp[T.rest,hkd],fun h0=>by simp[T.rest,hkd] at h0,fun i z hz=>by simp[T.rest,hkd] at hz⟩,hq (own_qa q3),hq (own_qa q4),hq (own_qa q5),fun h0=>by simp[T.rest,hkd] at h0,fun i z hz=>by simp[T.rest,hkd] at hz⟩
  have HF12:Hid _:=HEND.out _ f12
  clear HEND
  refine wp_region_noPanic ?_
  refine wp_region_held_drew (S:=(fun w':World=>w'.heap[N+3]?=some (.cells #[.bool true,.int .i64 0,.slice x0 k y0,.slice x1 k y1,.slice x2 k y2,.slice none 0 0] 47)∧w'.heap[N+4]?=some (.cells #[.bool true,.int .i64 0,.slice x3 (kn - k) y3,.slice x4 (vn - k) y4,.slice x5 (on - k) y5,.slice none 0 0] 47))) (by kernel_rfl) (⟨bbA,bbB⟩) (fun hHeld=>?_)
  refine tY 0 (.agg #[.bool true,.int .i64 0,.slice x0 k y0,.slice x1 k y1,.slice x2 k y2,.slice none 0 0]) .z (by kernel_rfl) (by rfl) ?_ ‹_› ?_
  ·intro wq hSw;(try dsimp only at hSw);obtain⟨y0,y1,y2,y3,y4,y5⟩:=box6g hSw.1;go_simp
  refine tY 1 (.agg #[.bool true,.int .i64 0,.slice x3 (kn - k) y3,.slice x4 (vn - k) y4,.slice x5 (on - k) y5,.slice none 0 0]) (.s .z) (by kernel_rfl) (by rfl) ?_ ‹_› ?_
  ·intro wq hSw;(try dsimp only at hSw);obtain⟨y0,y1,y2,y3,y4,y5⟩:=box6g hSw.2;go_simp
  try simp only[Act.put,q1,q2,q3]
  refine wpAnyH_ready (rs:=[2]) (by kernel_rfl) (by simp) ?_
  refine rdA (.s (.s .z)) (fun K hK=>?_) AllReadyH.nil
  obtain⟨m0,m1,m2,m3,m4,m5⟩:=box6g k1_6
  have ff:=thawT k1_6
  have l1e:N+1<V6.heap.size:=by omega
  go_simp
  clear m0 m1 m2 m3 m4 m5 ff l1e
  try rw[eX1]
  refine hK.out _ _ (hSd _ f1) (fun hHeld=>?_)
  clear hK K
  try simp only[Act.put,q1,q2,q3]
  refine wpAnyH_ready (rs:=[3]) (by kernel_rfl) (by simp) ?_
  refine rdA (.s (.s (.s .z))) (fun K hK=>?_) AllReadyH.nil
  obtain⟨m0,m1,m2,m3,m4,m5⟩:=box6g u12
  have ff:=thawT u12
  have l1e:N+2<X1.heap.size:=by omega
  go_simp
  clear m0 m1 m2 m3 m4 m5 ff l1e
  try rw[eX12]
  refine hK.out _ _ (hSd _ f12) (fun hHeld=>?_)
  clear hK K
  try simp only[Act.put,q1,q2,q3]
  refine wpAnyH_done (by kernel_rfl) ?_ _
  refine NoPanic.normal ?_
  obtain⟨m0,m1,m2,m3,m4,m5⟩:=box6g w12a
  obtain⟨n0,n1,n2,n3,n4,n5⟩:=box6g uX12
  clear hHeld
  go_wp2_with fail
  all_goals (refine bodyPost_ret (v:=.tuple #[.agg #[.bool true,.int .i64 0,.slice x0 k y0,.slice x1 k y1,.slice x2 k y2,.slice none 0 0],.agg #[.bool true,.int .i64 0,.slice x3 (kn - k) y3,.slice x4 (vn - k) y4,.slice x5 (on - k) y5,.slice none 0 0]]) (by simp[results,Tryz.results31,go_sem,m0,m1,m2,m3,m4,m5,n0,n1,n2,n3,n4,n5]) rfl ?_;exact HF12.out)
end Go.Proofs.YtbfggcekifaldaaGreat
